/-
  What the parser's calls do that look up what begins with a token; conditions: the parser lies as told.
-/
import Derived.Test.YtekjfddcbcijdaaGreatDoorParH
import Derived.Shelf.Abstract
namespace Go.Proofs.YtekjfddcbcijdaaGreatDoor
open Go.RowKit Go.Shelf
set_option linter.unusedVariables false
set_option linter.unusedSimpArgs false

section
variable {ts : List Tok} {B pb : Nat} {F : List Nat} {w : World} {r : Except Nat (List Nat × Nat × List PN)}
set_option maxRecDepth 100000 in
theorem w_70 (C : Ctr ts B pb F w r (.worded 9)) : Calls Tryz.prog 25 #[ptr pb] w (PostS ts B pb F w r) := by
  simp only [Ctr, ptr] at C ⊢
  rcases r with er | ⟨v, j, ms⟩
  · go_enter Tryz.func25, Tryz.ntmps25
    go_wp2_with fail
    refine C.mono ?_
    rintro e w1 ⟨rfl, f1⟩
    exact ⟨rfl, rfl, f1⟩
  · go_enter Tryz.func25, Tryz.ntmps25
    go_wp2_with fail
    refine C.mono ?_
    rintro e w1 ⟨rfl, F1, h1, t1⟩
    go_wp2
    go_ret
    exact ⟨rfl, F1, h1, t1⟩
set_option maxRecDepth 100000 in
theorem w_71 (C : Ctr ts B pb F w r (.worded 10)) : Calls Tryz.prog 26 #[ptr pb] w (PostS ts B pb F w r) := by
  simp only [Ctr, ptr] at C ⊢
  rcases r with er | ⟨v, j, ms⟩
  · go_enter Tryz.func26, Tryz.ntmps26
    go_wp2_with fail
    refine C.mono ?_
    rintro e w1 ⟨rfl, f1⟩
    exact ⟨rfl, rfl, f1⟩
  · go_enter Tryz.func26, Tryz.ntmps26
    go_wp2_with fail
    refine C.mono ?_
    rintro e w1 ⟨rfl, F1, h1, t1⟩
    go_wp2
    go_ret
    exact ⟨rfl, F1, h1, t1⟩
set_option maxRecDepth 100000 in
theorem w_72 (C : Ctr ts B pb F w r (.worded 11)) : Calls Tryz.prog 27 #[ptr pb] w (PostS ts B pb F w r) := by
  simp only [Ctr, ptr] at C ⊢
  rcases r with er | ⟨v, j, ms⟩
  · go_enter Tryz.func27, Tryz.ntmps27
    go_wp2_with fail
    refine C.mono ?_
    rintro e w1 ⟨rfl, f1⟩
    exact ⟨rfl, rfl, f1⟩
  · go_enter Tryz.func27, Tryz.ntmps27
    go_wp2_with fail
    refine C.mono ?_
    rintro e w1 ⟨rfl, F1, h1, t1⟩
    go_wp2
    go_ret
    exact ⟨rfl, F1, h1, t1⟩
set_option maxRecDepth 100000 in
theorem w_76 (C : Ctr ts B pb F w r (.alone 16)) : Calls Tryz.prog 31 #[ptr pb] w (PostS ts B pb F w r) := by
  simp only [Ctr, ptr] at C ⊢
  rcases r with er | ⟨v, j, ms⟩
  · go_enter Tryz.func31, Tryz.ntmps31
    go_wp2_with fail
    refine C.mono ?_
    rintro e w1 ⟨rfl, f1⟩
    exact ⟨rfl, rfl, f1⟩
  · go_enter Tryz.func31, Tryz.ntmps31
    go_wp2_with fail
    refine C.mono ?_
    rintro e w1 ⟨rfl, F1, h1, t1⟩
    go_wp2
    go_ret
    exact ⟨rfl, F1, h1, t1⟩
set_option maxRecDepth 100000 in
theorem w_77 (C : Ctr ts B pb F w r (.alone 30)) : Calls Tryz.prog 32 #[ptr pb] w (PostS ts B pb F w r) := by
  simp only [Ctr, ptr] at C ⊢
  rcases r with er | ⟨v, j, ms⟩
  · go_enter Tryz.func32, Tryz.ntmps32
    go_wp2_with fail
    refine C.mono ?_
    rintro e w1 ⟨rfl, f1⟩
    exact ⟨rfl, rfl, f1⟩
  · go_enter Tryz.func32, Tryz.ntmps32
    go_wp2_with fail
    refine C.mono ?_
    rintro e w1 ⟨rfl, F1, h1, t1⟩
    go_wp2
    go_ret
    exact ⟨rfl, F1, h1, t1⟩
set_option maxRecDepth 100000 in
theorem w_79 (C : Ctr ts B pb F w r (.about 24)) : Calls Tryz.prog 34 #[ptr pb] w (PostS ts B pb F w r) := by
  simp only [Ctr, ptr] at C ⊢
  rcases r with er | ⟨v, j, ms⟩
  · go_enter Tryz.func34, Tryz.ntmps34
    go_wp2_with fail
    refine C.mono ?_
    rintro e w1 ⟨rfl, f1⟩
    exact ⟨rfl, rfl, f1⟩
  · go_enter Tryz.func34, Tryz.ntmps34
    go_wp2_with fail
    refine C.mono ?_
    rintro e w1 ⟨rfl, F1, h1, t1⟩
    go_wp2
    go_ret
    exact ⟨rfl, F1, h1, t1⟩
set_option maxRecDepth 100000 in
theorem w_80 (C : Ctr ts B pb F w r (.about 25)) : Calls Tryz.prog 35 #[ptr pb] w (PostS ts B pb F w r) := by
  simp only [Ctr, ptr] at C ⊢
  rcases r with er | ⟨v, j, ms⟩
  · go_enter Tryz.func35, Tryz.ntmps35
    go_wp2_with fail
    refine C.mono ?_
    rintro e w1 ⟨rfl, f1⟩
    exact ⟨rfl, rfl, f1⟩
  · go_enter Tryz.func35, Tryz.ntmps35
    go_wp2_with fail
    refine C.mono ?_
    rintro e w1 ⟨rfl, F1, h1, t1⟩
    go_wp2
    go_ret
    exact ⟨rfl, F1, h1, t1⟩
set_option maxRecDepth 100000 in
theorem w_82 (C : Ctr ts B pb F w r (.about 27)) : Calls Tryz.prog 37 #[ptr pb] w (PostS ts B pb F w r) := by
  simp only [Ctr, ptr] at C ⊢
  rcases r with er | ⟨v, j, ms⟩
  · go_enter Tryz.func37, Tryz.ntmps37
    go_wp2_with fail
    refine C.mono ?_
    rintro e w1 ⟨rfl, f1⟩
    exact ⟨rfl, rfl, f1⟩
  · go_enter Tryz.func37, Tryz.ntmps37
    go_wp2_with fail
    refine C.mono ?_
    rintro e w1 ⟨rfl, F1, h1, t1⟩
    go_wp2
    go_ret
    exact ⟨rfl, F1, h1, t1⟩
set_option maxRecDepth 100000 in
theorem w_84 (C : Ctr ts B pb F w r (.about 29)) : Calls Tryz.prog 39 #[ptr pb] w (PostS ts B pb F w r) := by
  simp only [Ctr, ptr] at C ⊢
  rcases r with er | ⟨v, j, ms⟩
  · go_enter Tryz.func39, Tryz.ntmps39
    go_wp2_with fail
    refine C.mono ?_
    rintro e w1 ⟨rfl, f1⟩
    exact ⟨rfl, rfl, f1⟩
  · go_enter Tryz.func39, Tryz.ntmps39
    go_wp2_with fail
    refine C.mono ?_
    rintro e w1 ⟨rfl, F1, h1, t1⟩
    go_wp2
    go_ret
    exact ⟨rfl, F1, h1, t1⟩
set_option maxRecDepth 100000 in
theorem w_81 (C : Ctr ts B pb F w r (.empty 26)) : Calls Tryz.prog 36 #[ptr pb] w (PostS ts B pb F w r) := by
  simp only [Ctr, ptr] at C ⊢
  rcases r with er | ⟨v, j, ms⟩
  · go_enter Tryz.func36, Tryz.ntmps36
    go_wp2_with fail
    refine C.mono ?_
    rintro e w1 ⟨rfl, f1⟩
    exact ⟨rfl, rfl, f1⟩
  · go_enter Tryz.func36, Tryz.ntmps36
    go_wp2_with fail
    refine C.mono ?_
    rintro e w1 ⟨rfl, F1, h1, t1⟩
    go_wp2
    go_ret
    exact ⟨rfl, F1, h1, t1⟩
set_option maxRecDepth 100000 in
theorem w_83 (C : Ctr ts B pb F w r (.empty 28)) : Calls Tryz.prog 38 #[ptr pb] w (PostS ts B pb F w r) := by
  simp only [Ctr, ptr] at C ⊢
  rcases r with er | ⟨v, j, ms⟩
  · go_enter Tryz.func38, Tryz.ntmps38
    go_wp2_with fail
    refine C.mono ?_
    rintro e w1 ⟨rfl, f1⟩
    exact ⟨rfl, rfl, f1⟩
  · go_enter Tryz.func38, Tryz.ntmps38
    go_wp2_with fail
    refine C.mono ?_
    rintro e w1 ⟨rfl, F1, h1, t1⟩
    go_wp2
    go_ret
    exact ⟨rfl, F1, h1, t1⟩
end

set_option maxRecDepth 100000 in
set_option maxHeartbeats 1000000 in
theorem begun_some {ts : List Tok} {B pb : Nat} {F : List Nat} {i : Nat} {ns : List PN} {w : World} {r : Except Nat (List Nat × Nat × List PN)} (h : PS ts B pb F i ns w) {g : Nat} {l : List (List UInt8 × Nat)} (hm : RM w g l) {fn : Nat} (hl : l.lookup (nx ts i) = some fn) (eg : ∀ args w, (callFunc fn args).run Tryz.prog w = .ok (.enter fn args) w)
    (C : ∀ w1, Fr [] w w1 → Calls Tryz.prog fn #[ptr pb] w1 (PostS ts B pb F w1 r)) : Calls Tryz.prog 42 #[ptr pb, .map (some g)] w (PostS ts B pb F w r) := by
  have C1 := next_any h
  have HM : Hid (RM w g l) := hm
  have HLK : Hid (l.lookup (nx ts i) = some fn) := hl
  clear hm hl
  unfold ptr at *
  rcases r with er | ⟨v, j, ms⟩
  · go_enter Tryz.func42, Tryz.ntmps42
    go_wp2_with fail
    refine C1.mono ?_
    rintro e w1 ⟨rfl, f1⟩
    have hlk := (HM.out.fr f1 (by simp)).some HLK.out
    have C2 := C w1 f1
    clear C C1
    go_wp2_with fail
    refine C2.mono ?_
    rintro e w2 ⟨rfl, f2⟩
    exact ⟨rfl, rfl, (Tr.of0 f1).ends f2⟩
  · go_enter Tryz.func42, Tryz.ntmps42
    go_wp2_with fail
    refine C1.mono ?_
    rintro e w1 ⟨rfl, f1⟩
    have hlk := (HM.out.fr f1 (by simp)).some HLK.out
    have C2 := C w1 f1
    clear C C1
    go_wp2_with fail
    refine C2.mono ?_
    rintro e w2 ⟨rfl, F2, h2, t2⟩
    go_wp2
    go_ret
    exact ⟨rfl, F2, h2, (Tr.of0 f1).trans t2⟩
set_option maxRecDepth 100000 in
set_option maxHeartbeats 1000000 in
theorem begun_none {ts : List Tok} {B pb : Nat} {F : List Nat} {i : Nat} {ns : List PN} {w : World} (h : PS ts B pb F i ns w) {g : Nat} {l : List (List UInt8 × Nat)} (hm : RM w g l) (hl : l.lookup (nx ts i) = none) : Calls Tryz.prog 42 #[ptr pb, .map (some g)] w (PostS ts B pb F w (.error i)) := by
  have C1 := next_any h
  have HM : Hid (RM w g l) := hm
  have HLK : Hid (l.lookup (nx ts i) = none) := hl
  clear hm hl
  unfold ptr at *
  go_enter Tryz.func42, Tryz.ntmps42
  go_wp2_with fail
  refine C1.mono ?_
  rintro e w1 ⟨rfl, f1⟩
  have hlk := (HM.out.fr f1 (by simp)).none HLK.out
  have C2 := refuse_any (h.fr f1 (by simp))
  clear C1
  go_wp2_with fail
  refine C2.mono ?_
  rintro e w2 ⟨rfl, f2⟩
  exact ⟨rfl, rfl, (Tr.of0 f1).ends (f2.sub (by simp))⟩

set_option maxRecDepth 100000 in
theorem c_decl {ts : List Tok} {B pb : Nat} (hT : Toks ts) {f i : Nat} {ns : List PN} {w : World} {F : List Nat} {r : Except Nat (List Nat × Nat × List PN)} (H : Hyp ts B pb f) (h0 : PS ts B pb F i ns w) (T0 : Tabs w) (hn : ns.length ≤ 2 * i + 1) (hP : P ts (f + 1) .decl i ns = some r) : Ctr ts B pb F w r .decl := by
  simp only [P] at hP
  simp only [Ctr]
  intro g hg
  have nn : ∀ l : List UInt8, l ≠ [] → nx ts i = l → nx ts i ≠ [] := fun l hl e => by rw [e]; exact hl
  by_cases e0 : nx ts i = [114, 101, 99]
  · rw [e0, show declNT [114, 101, 99] = some (.recd) from rfl] at hP
    refine begun_some h0 hg (fn := 20) (by rw [e0]; rfl) (enters_of Tryz.func20 (by kernel_rfl) rfl) (fun w1 f1 => ?_)
    exact H f (.recd) i ns w1 F r (Nat.le_refl _) (h0.fr f1 (by simp)) (T0.fr f1 (by simp)) (nn _ (by decide) e0) hn hP
  by_cases e1 : nx ts i = [102, 110]
  · rw [e1, show declNT [102, 110] = some (.func) from rfl] at hP
    refine begun_some h0 hg (fn := 21) (by rw [e1]; rfl) (enters_of Tryz.func21 (by kernel_rfl) rfl) (fun w1 f1 => ?_)
    exact H f (.func) i ns w1 F r (Nat.le_refl _) (h0.fr f1 (by simp)) (T0.fr f1 (by simp)) (nn _ (by decide) e1) hn hP
  rw [show declNT (nx ts i) = none by unfold declNT; rw [if_neg e0, if_neg e1]] at hP
  cases hP
  exact begun_none h0 hg (by simp [declM, List.lookup, e0, e1, beq_eq_false_iff_ne.2 e0, beq_eq_false_iff_ne.2 e1])

set_option maxRecDepth 100000 in
theorem c_first {ts : List Tok} {B pb : Nat} (hT : Toks ts) {f i : Nat} {ns : List PN} {w : World} {F : List Nat} {r : Except Nat (List Nat × Nat × List PN)} (H : Hyp ts B pb f) (h0 : PS ts B pb F i ns w) (T0 : Tabs w) (hn : ns.length ≤ 2 * i + 1) (hP : P ts (f + 1) .first i ns = some r) : Ctr ts B pb F w r .first := by
  simp only [P] at hP
  simp only [Ctr]
  intro g hg
  have nn : ∀ l : List UInt8, l ≠ [] → nx ts i = l → nx ts i ≠ [] := fun l hl e => by rw [e]; exact hl
  by_cases e0 : nx ts i = [110, 117, 109, 98, 101, 114]
  · rw [e0, show firstNT [110, 117, 109, 98, 101, 114] = some (.number) from rfl] at hP
    refine begun_some h0 hg (fn := 29) (by rw [e0]; rfl) (enters_of Tryz.func29 (by kernel_rfl) rfl) (fun w1 f1 => ?_)
    exact H f (.number) i ns w1 F r (Nat.le_refl _) (h0.fr f1 (by simp)) (T0.fr f1 (by simp)) (nn _ (by decide) e0) hn hP
  by_cases e1 : nx ts i = [110, 97, 109, 101]
  · rw [e1, show firstNT [110, 97, 109, 101] = some (.nameOrCall) from rfl] at hP
    refine begun_some h0 hg (fn := 30) (by rw [e1]; rfl) (enters_of Tryz.func30 (by kernel_rfl) rfl) (fun w1 f1 => ?_)
    exact H f (.nameOrCall) i ns w1 F r (Nat.le_refl _) (h0.fr f1 (by simp)) (T0.fr f1 (by simp)) (nn _ (by decide) e1) hn hP
  by_cases e2 : nx ts i = [110, 117, 108, 108]
  · rw [e2, show firstNT [110, 117, 108, 108] = some (.alone 16) from rfl] at hP
    refine begun_some h0 hg (fn := 31) (by rw [e2]; rfl) (enters_of Tryz.func31 (by kernel_rfl) rfl) (fun w1 f1 => ?_)
    exact w_76 (H f (.alone 16) i ns w1 F r (Nat.le_refl _) (h0.fr f1 (by simp)) (T0.fr f1 (by simp)) (nn _ (by decide) e2) hn hP)
  by_cases e3 : nx ts i = [114, 111, 111, 116]
  · rw [e3, show firstNT [114, 111, 111, 116] = some (.alone 30) from rfl] at hP
    refine begun_some h0 hg (fn := 32) (by rw [e3]; rfl) (enters_of Tryz.func32 (by kernel_rfl) rfl) (fun w1 f1 => ?_)
    exact w_77 (H f (.alone 30) i ns w1 F r (Nat.le_refl _) (h0.fr f1 (by simp)) (T0.fr f1 (by simp)) (nn _ (by decide) e3) hn hP)
  by_cases e4 : nx ts i = [110, 101, 119]
  · rw [e4, show firstNT [110, 101, 119] = some (.made) from rfl] at hP
    refine begun_some h0 hg (fn := 33) (by rw [e4]; rfl) (enters_of Tryz.func33 (by kernel_rfl) rfl) (fun w1 f1 => ?_)
    exact H f (.made) i ns w1 F r (Nat.le_refl _) (h0.fr f1 (by simp)) (T0.fr f1 (by simp)) (nn _ (by decide) e4) hn hP
  by_cases e5 : nx ts i = [97, 114, 114]
  · rw [e5, show firstNT [97, 114, 114] = some (.about 24) from rfl] at hP
    refine begun_some h0 hg (fn := 34) (by rw [e5]; rfl) (enters_of Tryz.func34 (by kernel_rfl) rfl) (fun w1 f1 => ?_)
    exact w_79 (H f (.about 24) i ns w1 F r (Nat.le_refl _) (h0.fr f1 (by simp)) (T0.fr f1 (by simp)) (nn _ (by decide) e5) hn hP)
  by_cases e6 : nx ts i = [108, 101, 110]
  · rw [e6, show firstNT [108, 101, 110] = some (.about 25) from rfl] at hP
    refine begun_some h0 hg (fn := 35) (by rw [e6]; rfl) (enters_of Tryz.func35 (by kernel_rfl) rfl) (fun w1 f1 => ?_)
    exact w_80 (H f (.about 25) i ns w1 F r (Nat.le_refl _) (h0.fr f1 (by simp)) (T0.fr f1 (by simp)) (nn _ (by decide) e6) hn hP)
  by_cases e7 : nx ts i = [105, 110]
  · rw [e7, show firstNT [105, 110] = some (.empty 26) from rfl] at hP
    refine begun_some h0 hg (fn := 36) (by rw [e7]; rfl) (enters_of Tryz.func36 (by kernel_rfl) rfl) (fun w1 f1 => ?_)
    exact w_81 (H f (.empty 26) i ns w1 F r (Nat.le_refl _) (h0.fr f1 (by simp)) (T0.fr f1 (by simp)) (nn _ (by decide) e7) hn hP)
  by_cases e8 : nx ts i = [105, 109, 103]
  · rw [e8, show firstNT [105, 109, 103] = some (.about 27) from rfl] at hP
    refine begun_some h0 hg (fn := 37) (by rw [e8]; rfl) (enters_of Tryz.func37 (by kernel_rfl) rfl) (fun w1 f1 => ?_)
    exact w_82 (H f (.about 27) i ns w1 F r (Nat.le_refl _) (h0.fr f1 (by simp)) (T0.fr f1 (by simp)) (nn _ (by decide) e8) hn hP)
  by_cases e9 : nx ts i = [115, 105, 122, 101]
  · rw [e9, show firstNT [115, 105, 122, 101] = some (.empty 28) from rfl] at hP
    refine begun_some h0 hg (fn := 38) (by rw [e9]; rfl) (enters_of Tryz.func38 (by kernel_rfl) rfl) (fun w1 f1 => ?_)
    exact w_83 (H f (.empty 28) i ns w1 F r (Nat.le_refl _) (h0.fr f1 (by simp)) (T0.fr f1 (by simp)) (nn _ (by decide) e9) hn hP)
  by_cases e10 : nx ts i = [112, 114, 111, 109, 111, 116, 101]
  · rw [e10, show firstNT [112, 114, 111, 109, 111, 116, 101] = some (.about 29) from rfl] at hP
    refine begun_some h0 hg (fn := 39) (by rw [e10]; rfl) (enters_of Tryz.func39 (by kernel_rfl) rfl) (fun w1 f1 => ?_)
    exact w_84 (H f (.about 29) i ns w1 F r (Nat.le_refl _) (h0.fr f1 (by simp)) (T0.fr f1 (by simp)) (nn _ (by decide) e10) hn hP)
  by_cases e11 : nx ts i = [40]
  · rw [e11, show firstNT [40] = some (.brack) from rfl] at hP
    refine begun_some h0 hg (fn := 40) (by rw [e11]; rfl) (enters_of Tryz.func40 (by kernel_rfl) rfl) (fun w1 f1 => ?_)
    exact H f (.brack) i ns w1 F r (Nat.le_refl _) (h0.fr f1 (by simp)) (T0.fr f1 (by simp)) trivial hn hP
  rw [show firstNT (nx ts i) = none by unfold firstNT; rw [if_neg e0, if_neg e1, if_neg e2, if_neg e3, if_neg e4, if_neg e5, if_neg e6, if_neg e7, if_neg e8, if_neg e9, if_neg e10, if_neg e11]] at hP
  cases hP
  exact begun_none h0 hg (by simp [firstM, List.lookup, beq_eq_false_iff_ne.2 e0, beq_eq_false_iff_ne.2 e1, beq_eq_false_iff_ne.2 e2, beq_eq_false_iff_ne.2 e3, beq_eq_false_iff_ne.2 e4, beq_eq_false_iff_ne.2 e5, beq_eq_false_iff_ne.2 e6, beq_eq_false_iff_ne.2 e7, beq_eq_false_iff_ne.2 e8, beq_eq_false_iff_ne.2 e9, beq_eq_false_iff_ne.2 e10, beq_eq_false_iff_ne.2 e11])
end Go.Proofs.YtekjfddcbcijdaaGreatDoor
