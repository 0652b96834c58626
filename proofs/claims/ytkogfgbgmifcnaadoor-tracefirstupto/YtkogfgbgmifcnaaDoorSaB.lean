/-
  Operations, links and virtual things held against each other; condition: they lie as told.
-/
import Derived.Test.YtkogfgbgmifcnaaDoorSaA
namespace Go.Proofs.YtkogfgbgmifcnaaDoor
open Go.RowKit
set_option linter.unusedVariables false
set_option linter.unusedSimpArgs false
set_option maxRecDepth 100000 in
set_option maxHeartbeats 4000000 in
theorem op43 {w : World} {B : Nat} {e e2 : El} (h1 : ElOk w B 1 3 e) (h2 : ElOk w B 1 3 e2) (hw : ∀ s ∈ e.l, s.w) (hv : ∀ s ∈ e2.l, s.w) :
    Calls Tryd.prog 43 #[.agg e.cl.toArray, .agg e2.cl.toArray] w fun r w' => r = .returned (.bool (decide (e.abs = e2.abs))) ∧ Fr [] w w' := by
  obtain ⟨p, q, a, c, L⟩ := e
  obtain ⟨p2, q2, a2, c2, M⟩ := e2
  have hs1 := h1.sl
  have hs2 := h2.sl
  obtain ⟨xo, rfl⟩ := len1 (show p.length = 1 from h1.hp)
  obtain ⟨xo2, rfl⟩ := len1 (show p2.length = 1 from h2.hp)
  obtain ⟨xk, xz, xs, rfl⟩ := len3 (show q.length = 3 from h1.hq)
  obtain ⟨xk2, xz2, xs2, rfl⟩ := len3 (show q2.length = 3 from h2.hq)
  have HW : Hid (Fr [] w ((w.alloc (.cells #[.int .i64 xo, .slice a L.length c, .int .i64 xk, .int .i64 xz, .int .i64 xs] 48)).alloc (.cells #[.int .i64 xo2, .slice a2 M.length c2, .int .i64 xk2, .int .i64 xz2, .int .i64 xs2] 48))) := ((Fr.refl _ _).alloc _).alloc _
  have CS := same48 (hs1.fr HW.out (by simp [Away])) (hs2.fr HW.out (by simp [Away])) hw hv
  clear h1 h2 hw hv hs1 hs2
  change Calls Tryd.prog 43 #[.agg #[.int .i64 xo, .slice a L.length c, .int .i64 xk, .int .i64 xz, .int .i64 xs], .agg #[.int .i64 xo2, .slice a2 M.length c2, .int .i64 xk2, .int .i64 xz2, .int .i64 xs2]] w _
  by_cases h_xo : xo = xo2
  rotate_left
  · have hne : decide ((⟨[xo], [xk, xz, xs], a, c, L⟩ : El).abs = (⟨[xo2], [xk2, xz2, xs2], a2, c2, M⟩ : El).abs) = false := decide_eq_false (fun h => h_xo (by simp only [El.abs, AE.mk.injEq, List.cons.injEq] at h; simp [h]))
    rw [hne]
    clear hne CS
    go_enter Tryd.func43, Tryd.ntmps43
    go_wp2
    go_ret
    exact ⟨rfl, HW.out⟩
  subst h_xo
  by_cases h_xk : xk = xk2
  rotate_left
  · have hne : decide ((⟨[xo], [xk, xz, xs], a, c, L⟩ : El).abs = (⟨[xo], [xk2, xz2, xs2], a2, c2, M⟩ : El).abs) = false := decide_eq_false (fun h => h_xk (by simp only [El.abs, AE.mk.injEq, List.cons.injEq] at h; simp [h]))
    rw [hne]
    clear hne CS
    go_enter Tryd.func43, Tryd.ntmps43
    go_wp2
    go_ret
    exact ⟨rfl, HW.out⟩
  subst h_xk
  by_cases h_xz : xz = xz2
  rotate_left
  · have hne : decide ((⟨[xo], [xk, xz, xs], a, c, L⟩ : El).abs = (⟨[xo], [xk, xz2, xs2], a2, c2, M⟩ : El).abs) = false := decide_eq_false (fun h => h_xz (by simp only [El.abs, AE.mk.injEq, List.cons.injEq] at h; simp [h]))
    rw [hne]
    clear hne CS
    go_enter Tryd.func43, Tryd.ntmps43
    go_wp2
    go_ret
    exact ⟨rfl, HW.out⟩
  subst h_xz
  by_cases h_xs : xs = xs2
  rotate_left
  · have hne : decide ((⟨[xo], [xk, xz, xs], a, c, L⟩ : El).abs = (⟨[xo], [xk, xz, xs2], a2, c2, M⟩ : El).abs) = false := decide_eq_false (fun h => h_xs (by simp only [El.abs, AE.mk.injEq, List.cons.injEq] at h; simp [h]))
    rw [hne]
    clear hne CS
    go_enter Tryd.func43, Tryd.ntmps43
    go_wp2
    go_ret
    exact ⟨rfl, HW.out⟩
  subst h_xs
  have hne : decide ((⟨[xo], [xk, xz, xs], a, c, L⟩ : El).abs = (⟨[xo], [xk, xz, xs], a2, c2, M⟩ : El).abs) = decide (L = M) := decide_eq_decide.2 (by simp [El.abs])
  rw [hne]
  clear hne
  go_enter Tryd.func43, Tryd.ntmps43
  go_wp2_with (go_at_call 48; refine CS.mono ?_; rintro r w2 ⟨rfl, f2⟩; have H2 := hid (HW.out.trans f2); clear f2 CS HW)
  go_ret
  exact ⟨rfl, H2.out⟩
set_option maxRecDepth 100000 in
set_option maxHeartbeats 4000000 in
theorem link45 {w : World} {B : Nat} {e e2 : El} (h1 : ElOk w B 4 0 e) (h2 : ElOk w B 4 0 e2) (hw : ∀ s ∈ e.l, s.w) (hv : ∀ s ∈ e2.l, s.w) :
    Calls Tryd.prog 45 #[.agg e.cl.toArray, .agg e2.cl.toArray] w fun r w' => r = .returned (.bool (decide (e.abs = e2.abs))) ∧ Fr [] w w' := by
  obtain ⟨p, q, a, c, L⟩ := e
  obtain ⟨p2, q2, a2, c2, M⟩ := e2
  have hs1 := h1.sl
  have hs2 := h2.sl
  obtain ⟨xu, xf, xp, xi, rfl⟩ := len4 (show p.length = 4 from h1.hp)
  obtain ⟨xu2, xf2, xp2, xi2, rfl⟩ := len4 (show p2.length = 4 from h2.hp)
  obtain rfl : q = [] := List.eq_nil_of_length_eq_zero h1.hq
  obtain rfl : q2 = [] := List.eq_nil_of_length_eq_zero h2.hq
  have HW : Hid (Fr [] w ((w.alloc (.cells #[.int .i64 xu, .int .i64 xf, .int .i64 xp, .int .i64 xi, .slice a L.length c] 57)).alloc (.cells #[.int .i64 xu2, .int .i64 xf2, .int .i64 xp2, .int .i64 xi2, .slice a2 M.length c2] 57))) := ((Fr.refl _ _).alloc _).alloc _
  have CS := same48 (hs1.fr HW.out (by simp [Away])) (hs2.fr HW.out (by simp [Away])) hw hv
  clear h1 h2 hw hv hs1 hs2
  change Calls Tryd.prog 45 #[.agg #[.int .i64 xu, .int .i64 xf, .int .i64 xp, .int .i64 xi, .slice a L.length c], .agg #[.int .i64 xu2, .int .i64 xf2, .int .i64 xp2, .int .i64 xi2, .slice a2 M.length c2]] w _
  by_cases h_xu : xu = xu2
  rotate_left
  · have hne : decide ((⟨[xu, xf, xp, xi], [], a, c, L⟩ : El).abs = (⟨[xu2, xf2, xp2, xi2], [], a2, c2, M⟩ : El).abs) = false := decide_eq_false (fun h => h_xu (by simp only [El.abs, AE.mk.injEq, List.cons.injEq] at h; simp [h]))
    rw [hne]
    clear hne CS
    go_enter Tryd.func45, Tryd.ntmps45
    go_wp2
    go_ret
    exact ⟨rfl, HW.out⟩
  subst h_xu
  by_cases h_xf : xf = xf2
  rotate_left
  · have hne : decide ((⟨[xu, xf, xp, xi], [], a, c, L⟩ : El).abs = (⟨[xu, xf2, xp2, xi2], [], a2, c2, M⟩ : El).abs) = false := decide_eq_false (fun h => h_xf (by simp only [El.abs, AE.mk.injEq, List.cons.injEq] at h; simp [h]))
    rw [hne]
    clear hne CS
    go_enter Tryd.func45, Tryd.ntmps45
    go_wp2
    go_ret
    exact ⟨rfl, HW.out⟩
  subst h_xf
  by_cases h_xp : xp = xp2
  rotate_left
  · have hne : decide ((⟨[xu, xf, xp, xi], [], a, c, L⟩ : El).abs = (⟨[xu, xf, xp2, xi2], [], a2, c2, M⟩ : El).abs) = false := decide_eq_false (fun h => h_xp (by simp only [El.abs, AE.mk.injEq, List.cons.injEq] at h; simp [h]))
    rw [hne]
    clear hne CS
    go_enter Tryd.func45, Tryd.ntmps45
    go_wp2
    go_ret
    exact ⟨rfl, HW.out⟩
  subst h_xp
  by_cases h_xi : xi = xi2
  rotate_left
  · have hne : decide ((⟨[xu, xf, xp, xi], [], a, c, L⟩ : El).abs = (⟨[xu, xf, xp, xi2], [], a2, c2, M⟩ : El).abs) = false := decide_eq_false (fun h => h_xi (by simp only [El.abs, AE.mk.injEq, List.cons.injEq] at h; simp [h]))
    rw [hne]
    clear hne CS
    go_enter Tryd.func45, Tryd.ntmps45
    go_wp2
    go_ret
    exact ⟨rfl, HW.out⟩
  subst h_xi
  have hne : decide ((⟨[xu, xf, xp, xi], [], a, c, L⟩ : El).abs = (⟨[xu, xf, xp, xi], [], a2, c2, M⟩ : El).abs) = decide (L = M) := decide_eq_decide.2 (by simp [El.abs])
  rw [hne]
  clear hne
  go_enter Tryd.func45, Tryd.ntmps45
  go_wp2_with (go_at_call 48; refine CS.mono ?_; rintro r w2 ⟨rfl, f2⟩; have H2 := hid (HW.out.trans f2); clear f2 CS HW)
  go_ret
  exact ⟨rfl, H2.out⟩
set_option maxRecDepth 100000 in
set_option maxHeartbeats 4000000 in
theorem virt47 {w : World} {B : Nat} {e e2 : El} (h1 : ElOk w B 1 0 e) (h2 : ElOk w B 1 0 e2) (hw : ∀ s ∈ e.l, s.w) (hv : ∀ s ∈ e2.l, s.w) :
    Calls Tryd.prog 47 #[.agg e.cl.toArray, .agg e2.cl.toArray] w fun r w' => r = .returned (.bool (decide (e.abs = e2.abs))) ∧ Fr [] w w' := by
  obtain ⟨p, q, a, c, L⟩ := e
  obtain ⟨p2, q2, a2, c2, M⟩ := e2
  have hs1 := h1.sl
  have hs2 := h2.sl
  obtain ⟨xr, rfl⟩ := len1 (show p.length = 1 from h1.hp)
  obtain ⟨xr2, rfl⟩ := len1 (show p2.length = 1 from h2.hp)
  obtain rfl : q = [] := List.eq_nil_of_length_eq_zero h1.hq
  obtain rfl : q2 = [] := List.eq_nil_of_length_eq_zero h2.hq
  have HW : Hid (Fr [] w ((w.alloc (.cells #[.int .i64 xr, .slice a L.length c] 59)).alloc (.cells #[.int .i64 xr2, .slice a2 M.length c2] 59))) := ((Fr.refl _ _).alloc _).alloc _
  have CS := same48 (hs1.fr HW.out (by simp [Away])) (hs2.fr HW.out (by simp [Away])) hw hv
  clear h1 h2 hw hv hs1 hs2
  change Calls Tryd.prog 47 #[.agg #[.int .i64 xr, .slice a L.length c], .agg #[.int .i64 xr2, .slice a2 M.length c2]] w _
  by_cases h_xr : xr = xr2
  rotate_left
  · have hne : decide ((⟨[xr], [], a, c, L⟩ : El).abs = (⟨[xr2], [], a2, c2, M⟩ : El).abs) = false := decide_eq_false (fun h => h_xr (by simp only [El.abs, AE.mk.injEq, List.cons.injEq] at h; simp [h]))
    rw [hne]
    clear hne CS
    go_enter Tryd.func47, Tryd.ntmps47
    go_wp2
    go_ret
    exact ⟨rfl, HW.out⟩
  subst h_xr
  have hne : decide ((⟨[xr], [], a, c, L⟩ : El).abs = (⟨[xr], [], a2, c2, M⟩ : El).abs) = decide (L = M) := decide_eq_decide.2 (by simp [El.abs])
  rw [hne]
  clear hne
  go_enter Tryd.func47, Tryd.ntmps47
  go_wp2_with (go_at_call 48; refine CS.mono ?_; rintro r w2 ⟨rfl, f2⟩; have H2 := hid (HW.out.trans f2); clear f2 CS HW)
  go_ret
  exact ⟨rfl, H2.out⟩
end Go.Proofs.YtkogfgbgmifcnaaDoor
