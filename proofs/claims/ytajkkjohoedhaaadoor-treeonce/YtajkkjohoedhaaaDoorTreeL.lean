/-
  Which texts and kids a node may have, by the document: whole; condition: the kinds lie in a row as told.
-/
import Derived.Test.YtajkkjohoedhaaaDoorTreeK
namespace Go.Proofs.YtajkkjohoedhaaaDoor
open Go.RowKit
set_option linter.unusedVariables false
set_option linter.unusedSimpArgs false

theorem dec_ref {s : ByteArray} {n : Nat} (h : num s = some n) (hp : 0 < s.size) : decL s = (decide (48 ≤ s[0].toNat) && decide (s[0].toNat ≤ 57) && (decide (s.size = 1) || !decide (s[0].toNat = 48))) := by
  obtain ⟨l, hl⟩ := head_of hp
  have hsz : s.size = l.length + 1 := by rw [Lib.size_eq, hl]; rfl
  have e2 : s.data.toList.headD 0 = s[0] := by rw [hl]; rfl
  have e3 : (s.data.toList = [48]) ↔ (s[0].toNat = 48 ∧ l.length = 0) := by
    rw [hl]
    constructor
    · intro e
      simp at e
      exact ⟨by rw [e.1]; rfl, by rw [e.2]; rfl⟩
    · rintro ⟨a, b⟩
      have : l = [] := by rw [← List.length_eq_zero_iff]; exact b
      subst this
      have : s[0] = 48 := by apply UInt8.toNat_inj.1; rw [a]; rfl
      rw [this]
  unfold decL
  rw [h, e2, Bool.eq_iff_iff]
  simp only [Option.isSome_some, Bool.true_and, Bool.or_eq_true, decide_eq_true_eq, Bool.and_eq_true, Bool.not_eq_true', decide_eq_false_iff_not, e3]
  omega

set_option maxRecDepth 100000 in
set_option maxHeartbeats 1000000 in
theorem rtext_any (x : Nd) (w : World) (hs : x.text.size ≤ maxLen) (t : Nat) (ls : List UInt8) (hw : wantL x.kind = some (t, ls)) :
    Calls Tryd.prog 25 #[.agg #[.int .i64 x.kind, .string x.text, .slice x.a x.ks.length x.c, .int .i64 x.pl]] w fun e w' => e = .returned (.bool (textL t x.text)) ∧ Fr [] w w' := by
  obtain ⟨k, s, a, c, ks, pl⟩ := x
  simp only at hs hw ⊢
  have f0 : ∀ o, Fr [] w (w.alloc o) := fun o => (Fr.refl _ _).alloc _
  have hE : s.toList.isEmpty = noneL s := by rw [Lib.toList_data]; rfl
  have CN := fun w => nameR_any s w hs
  have CO := fun w => Operator_any s w
  have CM := fun w => numberR_any s w hs
  have hk : 1 ≤ k ∧ k ≤ 30 := by
    refine Decidable.byContradiction fun hn => ?_
    rw [lookup_want k (by omega)] at hw
    cases hw
  by_cases h1 : k = 2 ∨ k = 3 ∨ k = 5 ∨ k = 17 ∨ k = 20 ∨ k = 22 ∨ k = 23
  · have ht : t = 1 := by
      rcases h1 with rfl | rfl | rfl | rfl | rfl | rfl | rfl <;> exact (congrArg Prod.fst (Option.some.inj hw)).symm
    subst ht
    clear hw hk hE CO CM
    rcases h1 with rfl | rfl | rfl | rfl | rfl | rfl | rfl
    all_goals
      go_enter Tryd.func25, Tryd.ntmps25
      go_wp2_with (go_at_call 37; refine (CN _).mono ?_; rintro e w' ⟨rfl, f1⟩)
      go_ret
      exact ⟨rfl, (f0 _).trans f1⟩
  · by_cases h2 : k = 15
    · subst h2
      have ht : t = 2 := (congrArg Prod.fst (Option.some.inj hw)).symm
      subst ht
      clear hw hk hE CO CN h1
      cases hn : num s with
      | none =>
        have HR : Hid (decL s = false) := by unfold Hid decL; rw [hn]; rfl
        rw [hn] at CM
        go_enter Tryd.func25, Tryd.ntmps25
        go_wp2_with (go_at_call 38; refine (CM _).mono ?_; rintro e w' ⟨he, rfl⟩; rw [nOut] at he; subst he)
        go_ret
        exact ⟨by show _ = Ending.returned (.bool (decL s)); rw [HR.out]; rfl, f0 _⟩
      | some n =>
        have hp := num_pos hn
        have HD : Hid _ := dec_ref hn hp
        rw [hn] at CM
        have hb := byte_lt s[0]
        clear hn
        unfold maxLen at hs
        by_cases q1 : 48 ≤ s[0].toNat
        · by_cases q2 : s[0].toNat ≤ 57
          · by_cases q3 : s.size = 1
            · have HR : Hid (decL s = true) := by unfold Hid; rw [HD.out]; simp [q1, q2, q3]
              have q3' : ((s.size : Int) == 1) = true := by simp; omega
              clear HD
              go_enter Tryd.func25, Tryd.ntmps25
              go_wp2_with (go_at_call 38; refine (CM _).mono ?_; rintro e w' ⟨he, rfl⟩; rw [nOut] at he; subst he)
              go_ret
              exact ⟨by show _ = Ending.returned (.bool (decL s)); rw [HR.out]; rfl, f0 _⟩
            · have q3' : ((s.size : Int) == 1) = false := beq_int_false (by omega)
              by_cases q4 : s[0].toNat = 48
              · have HR : Hid (decL s = false) := by unfold Hid; rw [HD.out]; simp [q3, q4]
                clear HD
                have q4' : ((s[0].toNat : Int) == 48) = true := by simp; omega
                go_enter Tryd.func25, Tryd.ntmps25
                go_wp2_with (go_at_call 38; refine (CM _).mono ?_; rintro e w' ⟨he, rfl⟩; rw [nOut] at he; subst he)
                go_ret
                exact ⟨by show _ = Ending.returned (.bool (decL s)); rw [HR.out]; rfl, f0 _⟩
              · have HR : Hid (decL s = true) := by unfold Hid; rw [HD.out]; simp [q1, q2, q4]
                clear HD
                have q4' : ((s[0].toNat : Int) == 48) = false := beq_int_false (by omega)
                go_enter Tryd.func25, Tryd.ntmps25
                go_wp2_with (go_at_call 38; refine (CM _).mono ?_; rintro e w' ⟨he, rfl⟩; rw [nOut] at he; subst he)
                all_goals first | (exfalso; omega) | skip
                go_ret
                exact ⟨congrArg (fun b => Ending.returned (Value.bool b)) (show ((s[0].toNat : Int) != 48) = decL s by rw [HR.out]; simp only [bne, q4', Bool.not_false]), f0 _⟩
          · have HR : Hid (decL s = false) := by unfold Hid; rw [HD.out]; simp [q2]
            clear HD
            go_enter Tryd.func25, Tryd.ntmps25
            go_wp2_with (go_at_call 38; refine (CM _).mono ?_; rintro e w' ⟨he, rfl⟩; rw [nOut] at he; subst he)
            go_ret
            exact ⟨by show _ = Ending.returned (.bool (decL s)); rw [HR.out]; rfl, f0 _⟩
        · have HR : Hid (decL s = false) := by unfold Hid; rw [HD.out]; simp [q1]
          clear HD
          go_enter Tryd.func25, Tryd.ntmps25
          go_wp2_with (go_at_call 38; refine (CM _).mono ?_; rintro e w' ⟨he, rfl⟩; rw [nOut] at he; subst he)
          go_ret
          exact ⟨by show _ = Ending.returned (.bool (decL s)); rw [HR.out]; rfl, f0 _⟩
    · by_cases h3 : k = 18
      · subst h3
        have ht : t = 3 := (congrArg Prod.fst (Option.some.inj hw)).symm
        subst ht
        have hu := un_toList s
        have HT : Hid (textL 3 s = unL s) := rfl
        rw [HT.out]
        clear hw hk hE CO CN CM h1 h2 HT
        generalize unL s = R at hu ⊢
        go_enter Tryd.func25, Tryd.ntmps25
        go_wp2
        all_goals go_ret
        all_goals refine ⟨congrArg (fun b => Ending.returned (Value.bool b)) ?_, f0 _⟩
        all_goals first | (rw [hu, Bool.eq_iff_iff]; simp [unaries, or_assoc]; done) | (simp_all [unaries]; done)
      · by_cases h4 : k = 19
        · subst h4
          have ht : t = 4 := (congrArg Prod.fst (Option.some.inj hw)).symm
          subst ht
          clear hw hk hE CN CM h1 h2 h3
          go_enter Tryd.func25, Tryd.ntmps25
          go_wp2_with (go_at_call 39; refine (CO _).mono ?_; rintro e w' ⟨rfl, f1⟩)
          go_ret
          exact ⟨rfl, (f0 _).trans f1⟩
        · have hc : k = 1 ∨ k = 4 ∨ k = 6 ∨ k = 7 ∨ k = 8 ∨ k = 9 ∨ k = 10 ∨ k = 11 ∨ k = 12 ∨ k = 13 ∨ k = 14 ∨ k = 16 ∨ k = 21 ∨ k = 24 ∨ k = 25 ∨ k = 26 ∨ k = 27 ∨ k = 28 ∨ k = 29 ∨ k = 30 := by omega
          have ht : t = 0 := by
            rcases hc with rfl | rfl | rfl | rfl | rfl | rfl | rfl | rfl | rfl | rfl | rfl | rfl | rfl | rfl | rfl | rfl | rfl | rfl | rfl | rfl <;> exact (congrArg Prod.fst (Option.some.inj hw)).symm
          subst ht
          have b2 : (k == 2) = false := by simp; omega
          have b3 : (k == 3) = false := by simp; omega
          have b5 : (k == 5) = false := by simp; omega
          have b17 : (k == 17) = false := by simp; omega
          have b20 : (k == 20) = false := by simp; omega
          have b22 : (k == 22) = false := by simp; omega
          have b23 : (k == 23) = false := by simp; omega
          have b15 : (k == 15) = false := by simp; omega
          have b18 : (k == 18) = false := by simp; omega
          have b19 : (k == 19) = false := by simp; omega
          clear hw hk CN CM CO h1 h2 h3 h4 hc
          go_enter Tryd.func25, Tryd.ntmps25
          go_wp2
          go_ret
          exact ⟨congrArg (fun b => Ending.returned (Value.bool b)) (by first | rfl | exact hE), f0 _⟩
end Go.Proofs.YtajkkjohoedhaaaDoor
