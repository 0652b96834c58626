/-
  What reads a statement; conditions: the parser lies as told.
-/
import Derived.Test.YtekjfddcbcijdaaGreatDoorParI
namespace Go.Proofs.YtekjfddcbcijdaaGreatDoor
open Go.RowKit Go.Shelf
set_option linter.unusedVariables false
set_option linter.unusedSimpArgs false

theorem PS.maps {ts : List Tok} {B pb : Nat} {F : List Nat} {i : Nat} {ns : List PN} {w : World} (h : PS ts B pb F i ns w) : ∃ v0 v1 v2 bd bs bf, w.heap[pb]? = some (.cells #[v0, v1, v2, .map (some bd), .map (some bs), .map (some bf)] 49 (0, 0)) ∧ RM w bd declM ∧ RM w bs stmtM ∧ RM w bf firstM := by
  obtain ⟨tg, tc, nv, bd, bs, bf, L, h1, h2, h3, h4, h5, h6, h7, h8, h9, h10, _⟩ := h.ex
  exact ⟨_, _, _, bd, bs, bf, h1, h6, h8, h10⟩

set_option maxRecDepth 100000 in
set_option maxHeartbeats 1000000 in
theorem stmt_some {ts : List Tok} {B pb : Nat} {F : List Nat} {i : Nat} {ns : List PN} {w : World} {r : Except Nat (List Nat × Nat × List PN)} (h : PS ts B pb F i ns w) {fn : Nat} (hl : stmtM.lookup (nx ts i) = some fn) (eg : ∀ args w, (callFunc fn args).run Tryz.prog w = .ok (.enter fn args) w)
    (C : ∀ w1, Fr [] w w1 → Calls Tryz.prog fn #[ptr pb] w1 (PostS ts B pb F w1 r)) : Calls Tryz.prog 71 #[ptr pb] w (PostS ts B pb F w r) := by
  obtain ⟨v0, v1, v2, bd, bs, bf, hb, _, hm, _⟩ := h.maps
  obtain ⟨_, _, _, _, c4, _, _⟩ := pt_cells hb
  have r4 : ∀ w', Fr [] w w' → w'.cell? ⟨pb, 4, none⟩ = _ := fun w' f => f.cell1 c4 (by simp)
  have HM : Hid (RM w bs stmtM) := hm
  have HLK : Hid (stmtM.lookup (nx ts i) = some fn) := hl
  have f0 : Fr [] w w := Fr.refl _ _
  clear hb hm hl c4
  unfold ptr at *
  rcases r with er | ⟨v, j, ms⟩
  · go_enter Tryz.func71, Tryz.ntmps71
    go_wp2
    go_region_held3 (fun w' => Fr [] w w') (with_reducible (first | assumption | (refine Fr.drew ?_; assumption)))
      (first | (go_at_call 41; refine (next_any (h.fr (S := []) (by first | assumption | exact Fr.drew (Fr.refl _ _)) (by simp))).mono ?_; rintro e w1 ⟨rfl, f1⟩; have f01 : Fr [] w w1 := ((Fr.refl [] w).drew).trans f1; have hlk := (HM.out.fr f01 (by simp)).some HLK.out))
    have f01' : Fr [] w w1 := by assumption
    have C2 := C w1 f01'
    clear C r4
    go_wp2_with fail
    refine C2.mono ?_
    rintro e w2 ⟨rfl, f2⟩
    exact ⟨rfl, rfl, (Tr.of0 f01').ends f2⟩
  · go_enter Tryz.func71, Tryz.ntmps71
    go_wp2
    go_region_held3 (fun w' => Fr [] w w') (with_reducible (first | assumption | (refine Fr.drew ?_; assumption)))
      (first | (go_at_call 41; refine (next_any (h.fr (S := []) (by first | assumption | exact Fr.drew (Fr.refl _ _)) (by simp))).mono ?_; rintro e w1 ⟨rfl, f1⟩; have f01 : Fr [] w w1 := ((Fr.refl [] w).drew).trans f1; have hlk := (HM.out.fr f01 (by simp)).some HLK.out))
    have f01' : Fr [] w w1 := by assumption
    have C2 := C w1 f01'
    clear C r4
    go_wp2_with fail
    refine C2.mono ?_
    rintro e w2 ⟨rfl, F2, h2, t2⟩
    go_wp2
    go_ret
    exact ⟨rfl, F2, h2, (Tr.of0 f01').trans t2⟩
set_option maxRecDepth 100000 in
set_option maxHeartbeats 1000000 in
theorem stmt_none {ts : List Tok} {B pb : Nat} {F : List Nat} {i : Nat} {ns : List PN} {w : World} {r : Except Nat (List Nat × Nat × List PN)} (h : PS ts B pb F i ns w) (hl : stmtM.lookup (nx ts i) = none)
    (C : ∀ w1, Fr [] w w1 → Calls Tryz.prog 81 #[ptr pb] w1 (PostS ts B pb F w1 r)) : Calls Tryz.prog 71 #[ptr pb] w (PostS ts B pb F w r) := by
  obtain ⟨v0, v1, v2, bd, bs, bf, hb, _, hm, _⟩ := h.maps
  obtain ⟨_, _, _, _, c4, _, _⟩ := pt_cells hb
  have r4 : ∀ w', Fr [] w w' → w'.cell? ⟨pb, 4, none⟩ = _ := fun w' f => f.cell1 c4 (by simp)
  have HM : Hid (RM w bs stmtM) := hm
  have HLK : Hid (stmtM.lookup (nx ts i) = none) := hl
  have f0 : Fr [] w w := Fr.refl _ _
  clear hb hm hl c4
  unfold ptr at *
  rcases r with er | ⟨v, j, ms⟩
  · go_enter Tryz.func71, Tryz.ntmps71
    go_wp2
    go_region_held3 (fun w' => Fr [] w w') (with_reducible (first | assumption | (refine Fr.drew ?_; assumption)))
      (first | (go_at_call 41; refine (next_any (h.fr (S := []) (by first | assumption | exact Fr.drew (Fr.refl _ _)) (by simp))).mono ?_; rintro e w1 ⟨rfl, f1⟩; have f01 : Fr [] w w1 := ((Fr.refl [] w).drew).trans f1; have hlk := (HM.out.fr f01 (by simp)).none HLK.out))
    have f01' : Fr [] w w1 := by assumption
    have C2 := C w1 f01'
    clear C r4
    go_wp2_with fail
    refine C2.mono ?_
    rintro e w2 ⟨rfl, f2⟩
    exact ⟨rfl, rfl, (Tr.of0 f01').ends f2⟩
  · go_enter Tryz.func71, Tryz.ntmps71
    go_wp2
    go_region_held3 (fun w' => Fr [] w w') (with_reducible (first | assumption | (refine Fr.drew ?_; assumption)))
      (first | (go_at_call 41; refine (next_any (h.fr (S := []) (by first | assumption | exact Fr.drew (Fr.refl _ _)) (by simp))).mono ?_; rintro e w1 ⟨rfl, f1⟩; have f01 : Fr [] w w1 := ((Fr.refl [] w).drew).trans f1; have hlk := (HM.out.fr f01 (by simp)).none HLK.out))
    have f01' : Fr [] w w1 := by assumption
    have C2 := C w1 f01'
    clear C r4
    go_wp2_with fail
    refine C2.mono ?_
    rintro e w2 ⟨rfl, F2, h2, t2⟩
    go_wp2
    go_ret
    exact ⟨rfl, F2, h2, (Tr.of0 f01').trans t2⟩

set_option maxRecDepth 100000 in
theorem c_stmt {ts : List Tok} {B pb : Nat} (hT : Toks ts) {f i : Nat} {ns : List PN} {w : World} {F : List Nat} {r : Except Nat (List Nat × Nat × List PN)} (H : Hyp ts B pb f) (h0 : PS ts B pb F i ns w) (T0 : Tabs w) (hn : ns.length ≤ 2 * i + 1) (hP : P ts (f + 1) .stmt i ns = some r) : Ctr ts B pb F w r .stmt := by
  simp only [P] at hP
  simp only [Ctr]
  have nn : ∀ l : List UInt8, l ≠ [] → nx ts i = l → nx ts i ≠ [] := fun l hl e => by rw [e]; exact hl
  by_cases e0 : nx ts i = [108, 101, 116]
  · rw [e0, show stmtNT [108, 101, 116] = some (.letS) from rfl] at hP
    refine stmt_some h0 (fn := 22) (by rw [e0]; rfl) (enters_of Tryz.func22 (by kernel_rfl) rfl) (fun w1 f1 => ?_)
    exact H f (.letS) i ns w1 F r (Nat.le_refl _) (h0.fr f1 (by simp)) (T0.fr f1 (by simp)) (nn _ (by decide) e0) hn hP
  by_cases e1 : nx ts i = [105, 102]
  · rw [e1, show stmtNT [105, 102] = some (.choice) from rfl] at hP
    refine stmt_some h0 (fn := 23) (by rw [e1]; rfl) (enters_of Tryz.func23 (by kernel_rfl) rfl) (fun w1 f1 => ?_)
    exact H f (.choice) i ns w1 F r (Nat.le_refl _) (h0.fr f1 (by simp)) (T0.fr f1 (by simp)) (nn _ (by decide) e1) hn hP
  by_cases e2 : nx ts i = [119, 104, 105, 108, 101]
  · rw [e2, show stmtNT [119, 104, 105, 108, 101] = some (.whileS) from rfl] at hP
    refine stmt_some h0 (fn := 24) (by rw [e2]; rfl) (enters_of Tryz.func24 (by kernel_rfl) rfl) (fun w1 f1 => ?_)
    exact H f (.whileS) i ns w1 F r (Nat.le_refl _) (h0.fr f1 (by simp)) (T0.fr f1 (by simp)) (nn _ (by decide) e2) hn hP
  by_cases e3 : nx ts i = [114, 101, 116, 117, 114, 110]
  · rw [e3, show stmtNT [114, 101, 116, 117, 114, 110] = some (.worded 9) from rfl] at hP
    refine stmt_some h0 (fn := 25) (by rw [e3]; rfl) (enters_of Tryz.func25 (by kernel_rfl) rfl) (fun w1 f1 => ?_)
    exact w_70 (H f (.worded 9) i ns w1 F r (Nat.le_refl _) (h0.fr f1 (by simp)) (T0.fr f1 (by simp)) (nn _ (by decide) e3) hn hP)
  by_cases e4 : nx ts i = [111, 117, 116]
  · rw [e4, show stmtNT [111, 117, 116] = some (.worded 10) from rfl] at hP
    refine stmt_some h0 (fn := 26) (by rw [e4]; rfl) (enters_of Tryz.func26 (by kernel_rfl) rfl) (fun w1 f1 => ?_)
    exact w_71 (H f (.worded 10) i ns w1 F r (Nat.le_refl _) (h0.fr f1 (by simp)) (T0.fr f1 (by simp)) (nn _ (by decide) e4) hn hP)
  by_cases e5 : nx ts i = [115, 116, 111, 112]
  · rw [e5, show stmtNT [115, 116, 111, 112] = some (.worded 11) from rfl] at hP
    refine stmt_some h0 (fn := 27) (by rw [e5]; rfl) (enters_of Tryz.func27 (by kernel_rfl) rfl) (fun w1 f1 => ?_)
    exact w_72 (H f (.worded 11) i ns w1 F r (Nat.le_refl _) (h0.fr f1 (by simp)) (T0.fr f1 (by simp)) (nn _ (by decide) e5) hn hP)
  by_cases e6 : nx ts i = [109, 101, 114, 103, 101]
  · rw [e6, show stmtNT [109, 101, 114, 103, 101] = some (.merge) from rfl] at hP
    refine stmt_some h0 (fn := 28) (by rw [e6]; rfl) (enters_of Tryz.func28 (by kernel_rfl) rfl) (fun w1 f1 => ?_)
    exact H f (.merge) i ns w1 F r (Nat.le_refl _) (h0.fr f1 (by simp)) (T0.fr f1 (by simp)) (nn _ (by decide) e6) hn hP
  rw [show stmtNT (nx ts i) = none by unfold stmtNT; rw [if_neg e0, if_neg e1, if_neg e2, if_neg e3, if_neg e4, if_neg e5, if_neg e6]] at hP
  exact stmt_none h0 (by simp [stmtM, List.lookup, beq_eq_false_iff_ne.2 e0, beq_eq_false_iff_ne.2 e1, beq_eq_false_iff_ne.2 e2, beq_eq_false_iff_ne.2 e3, beq_eq_false_iff_ne.2 e4, beq_eq_false_iff_ne.2 e5, beq_eq_false_iff_ne.2 e6]) (fun w1 f1 => H f .setOrDo i ns w1 F r (Nat.le_refl _) (h0.fr f1 (by simp)) (T0.fr f1 (by simp)) trivial hn hP)
end Go.Proofs.YtekjfddcbcijdaaGreatDoor
