/-
  Which instructions write what nobody wants, by the program; conditions: the function lies as told, the tables as the program's text lays them.
-/
import Derived.Test.YtajdnakpljgkpaaDoorLvZ
namespace Go.Proofs.YtajdnakpljgkpaaDoor
open Go.RowKit
set_option linter.unusedVariables false
set_option linter.unusedSimpArgs false

def wantB (P : Nat → Pl) (r : Int) (ks : List Int) : Bool := ks.any (fun k => hasI (P k.toNat).s r)
theorem want_drop {P : Nat → Pl} {r : Int} {ks : List Int} {p : Nat} {k : Int} (h : ks[p]? = some k) : wantB P r (ks.drop p) = (hasI (P k.toNat).s r || wantB P r (ks.drop (p + 1))) := by
  obtain ⟨h1, h2⟩ := List.getElem?_eq_some_iff.1 h
  unfold wantB
  rw [List.drop_eq_getElem_cons h1, h2, List.any_cons]
theorem row_range {X : World} {bp N i : Nat} {P : Nat → Pl} (h : X.rowIs bp 69 (N * 19) (plc P)) (hi : i < N) : X.rangeAt bp (i * 19) (setL (P i).s) := by
  intro j v hv
  have hj : j < 16 := by have := (List.getElem?_eq_some_iff.1 hv).1; rw [setL_len] at this; exact this
  rw [setL_at _ hj] at hv
  injection hv with hv
  rw [h.cell (by omega), plc_s _ _ _ hj, hv]
theorem row_fr {w w' : World} {S : List Nat} {b n : Nat} {t : TypeId} {f : Nat → Value} (h : w.rowIs b t n f) (g : Fr S w w') (hS : b ∉ S) : w'.rowIs b t n f := h.of_block (g.block _ h.lt hS)

set_option maxRecDepth 100000 in
set_option maxHeartbeats 4000000 in
theorem wanted_any (w : World) (bp N : Nat) (P : Nat → Pl) (hrow : w.rowIs bp 69 (N * 19) (plc P)) (hok : ∀ i, i < N → okS (P i).s) (B : Nat) (a : Option Addr) (ks : List Int) (n c : Nat) (hn : ks.length = n) (hn2 : n ≤ 2) (hk : KAt B w a ks) (hks : ∀ k ∈ ks, ∃ m : Nat, k = (m : Int) ∧ m < N) (r : Int) (hN : N ≤ 2000000) :
    Calls Tryd.prog 25 #[.slice (some ⟨bp, 0, none⟩) N N, .slice a n c, .int .i64 r] w fun e w' => e = .returned (.bool (wantB P r ks)) ∧ Fr [] w w' := by
  have HN : Hid (ks.length = n) := hn
  have hnI : (n : Int) ≤ 2 := by omega
  have hNI : (N : Int) ≤ 2000000 := by omega
  have HROW : Hid _ := hrow
  have HOK : Hid _ := hok
  clear hn hrow hok
  go_enter Tryd.func25, Tryd.ntmps25
  go_wp2
  go_loopw [11] (fun i wr => ∃ p : Nat, p ≤ n ∧ i = .int .i64 p ∧ Fr [] w wr ∧ Hid (wantB P r (ks.drop p) = wantB P r ks)) (fun i _ => n - (intOf i).toNat)
  case atStart => exact ⟨0, Nat.zero_le _, rfl, Fr.refl _ _, rfl⟩
  case round =>
    obtain ⟨p, hp, rfl, fw, he⟩ := hrel
    by_cases hlt : p < n
    · have hx : ks[p]? = some (ks[p]'(by rw [HN.out]; exact hlt)) := List.getElem?_eq_getElem _
      generalize ks[p]'(by rw [HN.out]; exact hlt) = k at hx
      obtain ⟨m, rfl, hm⟩ := hks k (List.mem_of_getElem? hx)
      obtain ⟨b, o, rfl, hb, hc⟩ := (hk.fr fw (by simp)) p _ hx
      have hmI : (m : Int) < N := by omega
      have HD : Hid _ := want_drop (P := P) (r := r) hx
      have R1 : Hid _ := row_range (row_fr HROW.out fw (by simp)) hm
      have CH := fun w' => has_any (P m).s r w' (HOK.out m hm)
      have HI1 : Hid ((Tryd.prog.info? 67).map (·.size) = some (setL (P m).s).length) := by unfold Hid; rw [setL_len]; exact info67
      clear hx hk
      go_wp2_with (refine wpList_load_mid rfl 67 (.tmp 18) rfl bp (m * 19) rfl (setL (P m).s) (.array 16 65) R1.out under67 rfl HI1.out ?_)
      refine (CH _).mono ?_
      rintro e w2 ⟨rfl, f2⟩
      have HF2 : Hid (Fr [] w w2) := fw.trans f2
      clear CH f2 hc R1
      cases hh : hasI (P m).s r with
      | true =>
        have HE : Hid (wantB P r ks = true) := by
          have h1 := HD.out
          rw [Int.toNat_natCast, hh, he.out] at h1
          exact h1
        clear hh HD he
        go_wp2
        go_ret
        exact ⟨by rw [HE.out]; rfl, HF2.out⟩
      | false =>
        have HE : Hid (wantB P r (ks.drop (p + 1)) = wantB P r ks) := by
          have h1 := HD.out
          rw [Int.toNat_natCast, hh, he.out, Bool.false_or] at h1
          exact h1.symm
        clear hh HD he
        go_wp2
        go_roundw
        case rel => exact ⟨p + 1, hlt, by go_num, HF2.out, HE⟩
        case measure => simp [intOf]; omega
    · have HE : Hid (wantB P r ks = false) := by
        unfold Hid
        rw [← he.out, List.drop_of_length_le (by rw [HN.out]; omega)]
        rfl
      clear he
      go_wp2
      go_ret
      exact ⟨by rw [HE.out]; rfl, fw⟩
end Go.Proofs.YtajdnakpljgkpaaDoor
