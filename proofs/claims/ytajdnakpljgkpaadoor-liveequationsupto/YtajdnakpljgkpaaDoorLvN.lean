/-
  A place begins to wait; the one that began last is taken; by the program; conditions: the reckoning lies as told.
-/
import Derived.Test.YtajdnakpljgkpaaDoorLvM
import Derived.Deep.Cut
namespace Go.Proofs.YtajdnakpljgkpaaDoor
open Go.RowKit
set_option linter.unusedVariables false
set_option linter.unusedSimpArgs false

set_option maxRecDepth 100000 in
set_option maxHeartbeats 4000000 in
theorem wait_any (w : World) (bp br base N : Nat) (P : Nat → Pl) (wv : Value) (Wt : List Int) (n : Nat) (h : RK w bp br base N P wv Wt) (hn : n < N) (hN : N ≤ 2000000) (hW : Wt.length ≤ 10000000000) :
    Calls Tryd.prog 43 #[.pointer (some ⟨br, 0, none⟩), .int .i64 n] w fun e w' => e = .returned (.tuple #[]) ∧ ∃ v, RK w' bp br base N (if (P n).wt = true then P else upd P n { P n with wt := true }) v (if (P n).wt = true then Wt else Wt ++ [(n : Int)]) ∧ Kp bp br base w w' := by
  obtain ⟨i3, hi, hz, hz1, hby⟩ := info_parts info3
  have hnI : (n : Int) < N := by omega
  have hNI : (N : Int) ≤ 2000000 := by omega
  have c0 : w.cell? ⟨br, 0, none⟩ = some (.slice (some ⟨bp, 0, none⟩) N N) := at_cells h.rc 0 rfl
  have c1 : w.cell? ⟨br, 1, none⟩ = some wv := at_cells h.rc 1 rfl
  have cw := h.wt hn
  have HH : Hid _ := h
  cases hw : (P n).wt with
  | true =>
    rw [hw] at cw
    simp only [if_true]
    clear h c1
    go_enter Tryd.func43, Tryd.ntmps43
    go_wp2
    go_end0
    exact ⟨rfl, wv, HH.out, Kp.refl _ _ _ _⟩
  | false =>
    rw [hw] at cw
    simp only [Bool.false_eq_true, if_false]
    have fz : ∀ i, w.frozen? ⟨bp, i, none⟩ = false := fun i => h.row.frozen i
    have fr : ∀ i, w.frozen? ⟨br, i, none⟩ = false := fun i => by simp [World.frozen?, h.rc]
    have H1 := h.set_wt n true
    have F1 : Fr [bp] w (w.setCell ⟨bp, n * 19 + 18, none⟩ (.bool true)) := (Fr.refl _ _).setCell (.inl (by simp)) _
    have HK1 : Hid (Kp bp br base w (w.setCell ⟨bp, n * 19 + 18, none⟩ (.bool true))) := F1.kp h.le (by simp)
    have n0 := h.ne
    clear h c1 F1
    go_enter Tryd.func43, Tryd.ntmps43
    go_upto_region 2 with fail
    clear c0 cw fz fr
    have HW1 : Hid _ := H1
    generalize w.setCell ⟨bp, n * 19 + 18, none⟩ (.bool true) = W at *
    generalize hQ : upd P n { P n with wt := true } = Q at *
    have HQ : Hid _ := hQ
    clear hQ
    have c1 : W.cell? ⟨br, 1, none⟩ = some wv := at_cells H1.rc 1 rfl
    have fr : ∀ i, W.frozen? ⟨br, i, none⟩ = false := fun i => by simp [World.frozen?, H1.rc]
    have hle := H1.le
    have ho := H1.wo
    obtain ⟨a5, c5, rfl, hlc, hnil⟩ := ho.slice
    have nbr : (Value.slice a5 Wt.length c5).ownBlock ≠ some br := fun e => by have := (ho.lt br e).1; have := H1.ltr; omega
    have HO : Hid (OR W base (.slice a5 Wt.length c5) Wt) := ho
    have HRC : Hid _ := H1.rc
    unfold OR at ho
    clear H1
    have hWI : (Wt.length : Int) ≤ 10000000000 := by omega
    go_wp2_with (at_builtin; refine wpList_append_src _ rfl _ _ 30 rfl base 3 i3 (.int .i64 0) 1 8 Tryd.underlying30 hi hz hz1 hby rfl (by decide) (.slice a5 Wt.length c5) Wt.length (Wt.map (Value.int .i64)) rfl (ho.alloc _) (some ⟨W.heap.size, 0, none⟩) 1 1 [.int .i64 n] rfl rfl (by simp) (fun ad h => by cases h; exact one_new W _) (by simp [Value.oneCell']) (by unfold maxLen; omega) (by omega) (by simp; omega) ?_)
    intro v3 w3 ho3 hg hl
    obtain ⟨a6, c6, rfl, _⟩ := own_slice ho3
    have f3 : Fr (Value.slice a5 Wt.length c5).ownBlock.toList W w3 := ((Fr.refl _ _).alloc _).trans (Fr.ofGrown hg)
    have b3 := f3.at HRC.out (by simpa using nbr)
    have HX : Hid (RK (w3.setCell ⟨br, 1, none⟩ (.slice a6 (Wt.length + 1) c6)) bp br base N Q (.slice a6 (Wt.length + 1) c6) (Wt ++ [(n : Int)]) ∧ Kp bp br base W (w3.setCell ⟨br, 1, none⟩ (.slice a6 (Wt.length + 1) c6))) := HW1.out.wait f3 (by unfold OR; simpa using ho3) (fun k hk => by
      rcases hl k hk with h1 | h1
      · exact .inl h1
      · exact .inr (by first | omega | (simp at h1; omega)))
    have c1' : w3.cell? ⟨br, 1, none⟩ = some _ := at_cells b3 1 rfl
    have fr' : ∀ i, w3.frozen? ⟨br, i, none⟩ = false := fun i => by simp [World.frozen?, b3]
    clear ho3 hg hl f3 ho nbr HO b3 c1 fr
    go_wp2
    go_end0
    exact ⟨rfl, _, by rw [HQ.out]; exact HX.out.1, HK1.out.trans HX.out.2⟩

theorem OR.less {w : World} {base : Nat} {a : Option Addr} {c n : Nat} {l : List Int} {q : Int} (h : OR w base (.slice a n c) (l ++ [q])) : OR w base (.slice a l.length c) l := by
  obtain ⟨h1, h2⟩ := h
  rcases h2 with ⟨e, h0⟩ | ⟨g, cap, cur, e, hb, hg, hc, hm, hs, ht⟩
  · simp at h0
  · injection e with e1 e2 e3
    subst e1 e3
    refine ⟨by simp, .inr ⟨g, _, cur, rfl, hb, hg, by simp at hc; omega, hm, hs, ?_⟩⟩
    have := congrArg (List.take l.length) ht
    rw [List.take_take] at this
    simp at this ⊢
    first | exact this | (rw [this]; simp)
set_option maxRecDepth 100000 in
set_option maxHeartbeats 4000000 in
theorem take_any (w : World) (bp br base N : Nat) (P : Nat → Pl) (wv : Value) (l : List Int) (n : Nat) (h : RK w bp br base N P wv (l ++ [(n : Int)])) (hn : n < N) (hN : N ≤ 2000000) (hW : l.length ≤ 10000000000) :
    Calls Tryd.prog 45 #[.pointer (some ⟨br, 0, none⟩)] w fun e w' => e = .returned (.int .i64 n) ∧ ∃ v, RK w' bp br base N (upd P n { P n with wt := false }) v l ∧ Kp bp br base w w' := by
  have hnI : (n : Int) < N := by omega
  have hNI : (N : Int) ≤ 2000000 := by omega
  have hWI : (l.length : Int) ≤ 10000000000 := by omega
  obtain ⟨wa, wc, e, hlc, hnil⟩ := h.wo.slice
  have hle : (l ++ [(n : Int)]).length = l.length + 1 := by simp
  rw [hle] at e hlc
  subst e
  have c0 : w.cell? ⟨br, 0, none⟩ = some (.slice (some ⟨bp, 0, none⟩) N N) := at_cells h.rc 0 rfl
  have c1 : w.cell? ⟨br, 1, none⟩ = some (.slice wa (l.length + 1) wc) := at_cells h.rc 1 rfl
  have fr : ∀ i, w.frozen? ⟨br, i, none⟩ = false := fun i => by simp [World.frozen?, h.rc]
  have fz : ∀ i, w.frozen? ⟨bp, i, none⟩ = false := fun i => h.row.frozen i
  obtain ⟨b, o, rfl, hb, hc⟩ := h.wo.kat l.length (n : Int) (by simp)
  have hne : b ≠ br := by
    have := (h.wo.lt b (by simp [Value.ownBlock])).1
    have := h.ltr
    omega
  have n0 := h.ne
  have cw := h.wt hn
  have HX := h.wait (w1 := w) (v := .slice (some ⟨b, o, none⟩) l.length wc) (W2 := l) (Fr.refl _ _) h.wo.less (fun k hk => .inl hk)
  have HX2 := HX.1.set_wt n false
  have HK : Hid _ := HX.2.trans (Fr.kp (bp := bp) (br := br) (base := base) ((Fr.refl [bp] _).setCell (p := ⟨bp, n * 19 + 18, none⟩) (.inl (by simp)) (.bool false)) HX.1.le (by simp))
  have HR : Hid _ := HX2
  clear HX HX2 h hle
  go_enter Tryd.func45, Tryd.ntmps45
  go_wp2
  go_ret
  first | exact ⟨rfl, ⟨_, HR.out⟩, HK.out⟩ | exact ⟨rfl, _, HR.out, HK.out⟩
end Go.Proofs.YtajdnakpljgkpaaDoor
