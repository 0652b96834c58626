/-
  How many brackets are open; condition: the tokens lie as told.
-/
import Derived.Test.YtekjfddcbcijdaaGreatDoorParW
namespace Go.Proofs.YtekjfddcbcijdaaGreatDoor
open Go.RowKit
set_option linter.unusedVariables false
set_option linter.unusedSimpArgs false

def stepO (s : List UInt8) (o : Nat) : Nat := if s = [40] ∨ s = [91] ∨ s = [123] then o + 1 else if s = [41] ∨ s = [93] ∨ s = [125] then o - 1 else o
def tooO : List Tok → Nat → Option Nat
  | [], _ => none
  | t :: r, o => if 150 < stepO t.text o then some t.frm else tooO r (stepO t.text o)
def TooV : Option Nat → Value
  | none => .tuple #[.int .i64 0, .bool false]
  | some p => .tuple #[.int .i64 (p : Nat), .bool true]

theorem TRow.fr {w w' : World} {g : Nat} {ts : List Tok} {S : List Nat} (h : TRow w g ts) (f : Fr S w w') (hg : g ∉ S) : TRow w' g ts := by
  obtain ⟨c, z, h1, h2⟩ := h
  exact ⟨c, z, (f.block _ (Array.getElem?_eq_some_iff.1 h1).1 hg).trans h1, h2⟩
theorem tooO_drop {ts : List Tok} {p o : Nat} (h : p < ts.length) : tooO (ts.drop p) o = if 150 < stepO (tk ts p).text o then some (tk ts p).frm else tooO (ts.drop (p + 1)) (stepO (tk ts p).text o) := by
  have : ts.drop p = tk ts p :: ts.drop (p + 1) := by
    have e := tk_get h
    rw [List.getElem?_eq_getElem h] at e
    rw [← Option.some.inj e]
    exact List.drop_eq_getElem_cons h
  rw [this]
  rfl

set_option maxRecDepth 100000 in
set_option maxHeartbeats 1000000 in
theorem too_any {ts : List Tok} {tg tc : Nat} {w : World} (hR : TRow w tg ts) (htl : ts.length ≤ 200001) (htc : ts.length ≤ tc) :
    Calls Tryz.prog 8 #[.slice (some ⟨tg, 0, none⟩) ts.length tc] w fun e w' => e = .returned (TooV (tooO ts 0)) ∧ Fr [] w w' := by
  have HR : Hid (TRow w tg ts) := hR
  clear hR
  go_enter Tryz.func8, Tryz.ntmps8
  go_wp2
  go_loopw [4, 9] (fun o i wr => ∃ p q : Nat, p ≤ ts.length ∧ i = .int .i64 p ∧ o = .int .i64 q ∧ q ≤ 150 ∧ Fr [] w wr ∧ Hid (tooO (ts.drop p) q = tooO ts 0)) (fun _ i _ => ts.length - (intOf i).toNat)
  case atStart => exact ⟨0, 0, Nat.zero_le _, rfl, rfl, by omega, Fr.refl _ _, rfl⟩
  case round =>
    obtain ⟨p, q, hp, rfl, rfl, hq, fw, HE⟩ := hrel
    by_cases hlt : p < ts.length
    · have hRr := HR.out.fr fw (by simp)
      have c0 := hRr.cell hlt (j := 0) (by omega) (u := .int .i64 ((tk ts p).kind : Nat)) rfl
      have c1 := hRr.cell hlt (j := 1) (by omega) (u := .string ⟨(tk ts p).text.toArray⟩) rfl
      have c2 := hRr.cell hlt (j := 2) (by omega) (u := .int .i64 ((tk ts p).frm : Nat)) rfl
      have c3 := hRr.cell hlt (j := 3) (by omega) (u := .int .i64 ((tk ts p).to : Nat)) rfl
      have c4 := hRr.cell hlt (j := 4) (by omega) (u := .int .i64 ((tk ts p).n : Nat)) rfl
      simp only [Nat.add_zero] at c0
      have HS : Hid (tooO ts 0 = if 150 < stepO (tk ts p).text q then some (tk ts p).frm else tooO (ts.drop (p + 1)) (stepO (tk ts p).text q)) := HE.out.symm.trans (tooO_drop hlt)
      generalize tk ts p = t at *
      clear hRr HE
      have hl2 : (p : Int) < (ts.length : Int) := by omega
      cases h40 : (t.text == [40]) with
      | true =>
        have y40 : t.text = [40] := eq_of_beq h40
        have HO : Hid (stepO t.text q = q + 1) := by unfold Hid stepO; rw [if_pos (by simp [y40])]
        clear y40
        by_cases h150 : (q : Int) + 1 ≤ 150
        · go_wp2
          go_roundw
          case rel => exact ⟨p + 1, q + 1, by omega, by go_num, by go_num, by omega, fw.alloc _, by unfold Hid; have e := HS.out; rw [HO.out, if_neg (by omega)] at e; exact e.symm⟩
          case measure => simp [intOf]; omega
        · have h151 : (150 : Int) < (q : Int) + 1 := by omega
          go_wp2
          have HV : Hid (tooO ts 0 = some t.frm) := by unfold Hid; have e := HS.out; rw [HO.out, if_pos (by omega)] at e; exact e
          refine bodyPost_ret (results_tmp2 rfl _ _ _) rfl ⟨?_, fw.alloc _⟩
          rw [HV.out]
          rfl
      | false =>
        cases h91 : (t.text == [91]) with
        | true =>
          have x40 : ¬ t.text = [40] := fun e => by rw [e] at h40; exact absurd h40 (by decide)
          have y91 : t.text = [91] := eq_of_beq h91
          have HO : Hid (stepO t.text q = q + 1) := by unfold Hid stepO; rw [if_pos (by simp [y91])]
          clear x40 y91
          by_cases h150 : (q : Int) + 1 ≤ 150
          · go_wp2
            go_roundw
            case rel => exact ⟨p + 1, q + 1, by omega, by go_num, by go_num, by omega, fw.alloc _, by unfold Hid; have e := HS.out; rw [HO.out, if_neg (by omega)] at e; exact e.symm⟩
            case measure => simp [intOf]; omega
          · have h151 : (150 : Int) < (q : Int) + 1 := by omega
            go_wp2
            have HV : Hid (tooO ts 0 = some t.frm) := by unfold Hid; have e := HS.out; rw [HO.out, if_pos (by omega)] at e; exact e
            refine bodyPost_ret (results_tmp2 rfl _ _ _) rfl ⟨?_, fw.alloc _⟩
            rw [HV.out]
            rfl
        | false =>
          cases h123 : (t.text == [123]) with
          | true =>
            have x40 : ¬ t.text = [40] := fun e => by rw [e] at h40; exact absurd h40 (by decide)
            have x91 : ¬ t.text = [91] := fun e => by rw [e] at h91; exact absurd h91 (by decide)
            have y123 : t.text = [123] := eq_of_beq h123
            have HO : Hid (stepO t.text q = q + 1) := by unfold Hid stepO; rw [if_pos (by simp [y123])]
            clear x40 x91 y123
            by_cases h150 : (q : Int) + 1 ≤ 150
            · go_wp2
              go_roundw
              case rel => exact ⟨p + 1, q + 1, by omega, by go_num, by go_num, by omega, fw.alloc _, by unfold Hid; have e := HS.out; rw [HO.out, if_neg (by omega)] at e; exact e.symm⟩
              case measure => simp [intOf]; omega
            · have h151 : (150 : Int) < (q : Int) + 1 := by omega
              go_wp2
              have HV : Hid (tooO ts 0 = some t.frm) := by unfold Hid; have e := HS.out; rw [HO.out, if_pos (by omega)] at e; exact e
              refine bodyPost_ret (results_tmp2 rfl _ _ _) rfl ⟨?_, fw.alloc _⟩
              rw [HV.out]
              rfl
          | false =>
            cases h41 : (t.text == [41]) with
            | true =>
              have x40 : ¬ t.text = [40] := fun e => by rw [e] at h40; exact absurd h40 (by decide)
              have x91 : ¬ t.text = [91] := fun e => by rw [e] at h91; exact absurd h91 (by decide)
              have x123 : ¬ t.text = [123] := fun e => by rw [e] at h123; exact absurd h123 (by decide)
              have y41 : t.text = [41] := eq_of_beq h41
              have HO : Hid (stepO t.text q = q - 1) := by unfold Hid stepO; rw [if_neg (by simp [y41]), if_pos (by simp [y41])]
              clear x40 x91 x123 y41
              have hm : max ((q : Int) - 1) 0 ≤ 150 := by omega
              go_wp2
              go_roundw
              case rel => exact ⟨p + 1, q - 1, by omega, by go_num, by congr 1; omega, by omega, fw.alloc _, by unfold Hid; have e := HS.out; rw [HO.out, if_neg (by omega)] at e; exact e.symm⟩
              case measure => simp [intOf]; omega
            | false =>
              cases h93 : (t.text == [93]) with
              | true =>
                have x40 : ¬ t.text = [40] := fun e => by rw [e] at h40; exact absurd h40 (by decide)
                have x91 : ¬ t.text = [91] := fun e => by rw [e] at h91; exact absurd h91 (by decide)
                have x123 : ¬ t.text = [123] := fun e => by rw [e] at h123; exact absurd h123 (by decide)
                have x41 : ¬ t.text = [41] := fun e => by rw [e] at h41; exact absurd h41 (by decide)
                have y93 : t.text = [93] := eq_of_beq h93
                have HO : Hid (stepO t.text q = q - 1) := by unfold Hid stepO; rw [if_neg (by simp [y93]), if_pos (by simp [y93])]
                clear x40 x91 x123 x41 y93
                have hm : max ((q : Int) - 1) 0 ≤ 150 := by omega
                go_wp2
                go_roundw
                case rel => exact ⟨p + 1, q - 1, by omega, by go_num, by congr 1; omega, by omega, fw.alloc _, by unfold Hid; have e := HS.out; rw [HO.out, if_neg (by omega)] at e; exact e.symm⟩
                case measure => simp [intOf]; omega
              | false =>
                cases h125 : (t.text == [125]) with
                | true =>
                  have x40 : ¬ t.text = [40] := fun e => by rw [e] at h40; exact absurd h40 (by decide)
                  have x91 : ¬ t.text = [91] := fun e => by rw [e] at h91; exact absurd h91 (by decide)
                  have x123 : ¬ t.text = [123] := fun e => by rw [e] at h123; exact absurd h123 (by decide)
                  have x41 : ¬ t.text = [41] := fun e => by rw [e] at h41; exact absurd h41 (by decide)
                  have x93 : ¬ t.text = [93] := fun e => by rw [e] at h93; exact absurd h93 (by decide)
                  have y125 : t.text = [125] := eq_of_beq h125
                  have HO : Hid (stepO t.text q = q - 1) := by unfold Hid stepO; rw [if_neg (by simp [y125]), if_pos (by simp [y125])]
                  clear x40 x91 x123 x41 x93 y125
                  have hm : max ((q : Int) - 1) 0 ≤ 150 := by omega
                  go_wp2
                  go_roundw
                  case rel => exact ⟨p + 1, q - 1, by omega, by go_num, by congr 1; omega, by omega, fw.alloc _, by unfold Hid; have e := HS.out; rw [HO.out, if_neg (by omega)] at e; exact e.symm⟩
                  case measure => simp [intOf]; omega
                | false =>
                  have x40 : ¬ t.text = [40] := fun e => by rw [e] at h40; exact absurd h40 (by decide)
                  have x91 : ¬ t.text = [91] := fun e => by rw [e] at h91; exact absurd h91 (by decide)
                  have x123 : ¬ t.text = [123] := fun e => by rw [e] at h123; exact absurd h123 (by decide)
                  have x41 : ¬ t.text = [41] := fun e => by rw [e] at h41; exact absurd h41 (by decide)
                  have x93 : ¬ t.text = [93] := fun e => by rw [e] at h93; exact absurd h93 (by decide)
                  have x125 : ¬ t.text = [125] := fun e => by rw [e] at h125; exact absurd h125 (by decide)
                  have HO : Hid (stepO t.text q = q) := by unfold Hid stepO; rw [if_neg (by simp [x40, x91, x123]), if_neg (by simp [x41, x93, x125])]
                  clear x40 x91 x123 x41 x93 x125
                  have hm : (q : Int) ≤ 150 := by omega
                  go_wp2
                  go_roundw
                  case rel => exact ⟨p + 1, q, by omega, by go_num, rfl, by omega, fw.alloc _, by unfold Hid; have e := HS.out; rw [HO.out, if_neg (by omega)] at e; exact e.symm⟩
                  case measure => simp [intOf]; omega
    · have hpe : p = ts.length := by omega
      subst hpe
      have HV : Hid (tooO ts 0 = none) := by unfold Hid; rw [← HE.out, List.drop_of_length_le (Nat.le_refl _)]; rfl
      have hl2 : ¬ ((ts.length : Int) < (ts.length : Int)) := by omega
      go_wp2
      refine bodyPost_ret (results_tmp2 rfl _ _ _) rfl ⟨?_, fw⟩
      rw [HV.out]
      rfl
end Go.Proofs.YtekjfddcbcijdaaGreatDoor
