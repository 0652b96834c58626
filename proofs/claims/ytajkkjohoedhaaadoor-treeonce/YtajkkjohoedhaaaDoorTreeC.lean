/-
  Whether kids are those that letters want; condition: the list and the kids lie as told, and all kids are numbers of nodes.
-/
import Derived.Test.YtajkkjohoedhaaaDoorTreeB
namespace Go.Proofs.YtajkkjohoedhaaaDoor
open Go.RowKit
set_option linter.unusedVariables false

theorem fitL_at {s : ByteArray} {p : Nat} (h : p < s.size) (K : List Int) : fitL (s.data.toList.drop p) K = if lowN s[p].toNat = s[p].toNat then (hfit s[p].toNat K && fitL (s.data.toList.drop (p + 1)) (K.drop 1)) else fitL (s.data.toList.drop (p + 1)) (K.drop (cfit (lowN s[p].toNat) K)) := by
  rw [drop_cons s p h]
  rfl

theorem KAt.drop {B : Nat} {w : World} {ad : Addr} {ks : List Int} (h : KAt B w (some ad) ks) (q : Nat) : KAt B w (some (ad.add q)) (ks.drop q) := fun j k hk => by
  rw [List.getElem?_drop] at hk
  obtain ⟨b, o, e, hb, hc⟩ := h _ k hk
  injection e with e
  subst e
  exact ⟨b, o + q, by rw [Addr.add_lit], hb, by rw [Nat.add_assoc]; exact hc⟩
theorem KAt.nil {B : Nat} {w : World} {a : Option Addr} : KAt B w a [] := fun j k hk => by simp at hk

set_option maxRecDepth 100000 in
set_option maxHeartbeats 2000000 in
theorem kidsFit_any (s : ByteArray) (hs : s.size ≤ maxLen) (has : ∀ i (h : i < s.size), (s[i]'h).toNat < 128) (B : Nat) (L : List Nd) (w : World) (a : Option Addr) (len cap : Nat) (hlen : L.length = len) (hL : NAt B w a L) (hm : len ≤ maxLen) (hB : B ≤ w.heap.size)
    (ks : List Int) (ka : Option Addr) (m kc : Nat) (hkm : ks.length = m) (hk : KAt B w ka ks) (hkl : m ≤ maxLen) (hmc : m ≤ kc) (hka : ka = none → kc = 0) (hin : ∀ k ∈ ks, 0 ≤ k ∧ k < len) :
    Calls Tryd.prog 35 #[.string s, .slice a len cap, .slice ka m kc] w fun e w' => e = .returned (.bool (fitL s.data.toList (ks.map (kd L)))) ∧ Fr [] w w' := by
  have CF := fun (c : Nat) (hc : c < 128) (pos : Nat) (q : Nat) (a2 : Option Addr) (m2 c2 : Nat) (e2 : (ks.drop q).length = m2) (h2 : KAt B (w.iter s pos) a2 (ks.drop q)) (hm2 : m2 ≤ maxLen) =>
    countFitting_any c hc B L (w.iter s pos) a len cap hlen (hL.fr (((Fr.refl [] w).alloc _ : Fr [] w (w.iter s pos))) (by simp)) hm (ks.drop q) a2 m2 c2 e2 h2 hm2 (fun k hk' => hin k (List.mem_of_mem_drop hk'))
  have HK : Hid (ks.length = m) := hkm
  have FR : ∀ pos, Fr [] w (w.iter s pos) := fun pos => (Fr.refl [] w).alloc _
  unfold maxLen at hs hkl
  clear hlen hkm hin hL hm
  generalize hKK : ks.map (kd L) = K at *
  have HD : ∀ q, Hid ((ks.drop q).map (kd L) = K.drop q) := fun q => by unfold Hid; rw [← hKK, List.map_drop]
  have HKl : Hid (K.length = m) := by unfold Hid; rw [← hKK]; simp [HK.out]
  clear hKK
  go_enter Tryd.func35, Tryd.ntmps35
  go_wp2
  go_loopw [7] (fun at_ wr => ∃ pos q : Nat, pos ≤ s.size ∧ wr = w.iter s pos ∧ at_ = .int .i64 q ∧ q ≤ m ∧ Hid (fitL (s.data.toList.drop pos) (K.drop q) = fitL s.data.toList K)) (fun _ wr => s.size - wr.iterPos w.heap.size)
  case atStart => exact ⟨0, 0, Nat.zero_le _, rfl, rfl, Nat.zero_le _, rfl⟩
  case round =>
    obtain ⟨pos, q, hps, rfl, rfl, hq, he⟩ := hrel
    have hmu : (w.iter s pos).iterPos w.heap.size = pos := by simp [World.iterPos, World.iter_heap]
    have hmu2 : (w.iter s (pos + 1)).iterPos w.heap.size = pos + 1 := by simp [World.iterPos, World.iter_heap]
    by_cases hp : pos < s.size
    · have hc := has pos hp
      have hnx := fun ty => run_next_ascii (P := Tryd.prog) w s pos ty hp hc
      have HF : Hid _ := fitL_at hp (K.drop q)
      generalize s[pos].toNat = c at *
      have TL := fun w => toLower_any c hc w
      have hc2 := low_lt hc
      have CC := fun a2 c2 hk2 => CF (lowN c) hc2 (pos + 1) q a2 (m - q) c2 (by rw [List.length_drop, HK.out]) hk2 (by unfold maxLen; omega)
      rw [(HD q).out] at CC
      have hle := cfit_le (lowN c) (K.drop q)
      have HLE : Hid (cfit (lowN c) (K.drop q) + q ≤ m) := by unfold Hid; rw [List.length_drop, HKl.out] at hle; omega
      have H0 : Hid _ := cfit0 (lowN c) (K.drop q)
      have HDD : ∀ i, Hid (List.drop i (List.drop q K) = List.drop (q + i) K) := fun i => by unfold Hid; rw [List.drop_drop]
      have forms : (ka = none ∧ kc = 0 ∧ m = 0 ∧ q = 0) ∨ (∃ ad, ka = some ad ∧ kc = m ∧ q = m) ∨ (∃ ad, ka = some ad ∧ kc ≠ q) := by
        cases ka with
        | none => have := hka rfl; exact .inl ⟨rfl, this, by omega, by omega⟩
        | some ad => by_cases e : kc = q
                     · exact .inr (.inl ⟨ad, rfl, by omega, by omega⟩)
                     · exact .inr (.inr ⟨ad, rfl, e⟩)
      have k2 : ∀ ad, m ≤ q → KAt B (w.iter s (pos + 1)) ad (ks.drop q) := fun ad e => by
        have : ks.drop q = [] := by rw [List.drop_eq_nil_iff, HK.out]; omega
        rw [this]; exact KAt.nil
      have hle' := HLE.out
      clear hle CF hka
      generalize hN : cfit (lowN c) (K.drop q) = n at *
      have HA : Hid (lowN c = c → n = 0 → fitL s.data.toList K = false) := fun h1 h2 => by
        rw [← he.out, HF.out, if_pos h1]
        cases hh : hfit c (K.drop q) with
        | false => rfl
        | true => exact absurd h2 (H0.out.2 (by rw [h1]; exact hh))
      have HB : Hid (lowN c = c → n ≠ 0 → fitL (s.data.toList.drop (pos + 1)) (K.drop (q + 1)) = fitL s.data.toList K) := fun h1 h2 => by
        rw [← he.out, HF.out, if_pos h1, (HDD 1).out]
        have hh : hfit c (K.drop q) = true := by have := H0.out.1 h2; rw [h1] at this; exact this
        rw [hh]; rfl
      have HC : Hid (lowN c ≠ c → fitL (s.data.toList.drop (pos + 1)) (K.drop (q + n)) = fitL s.data.toList K) := fun h1 => by
        rw [← he.out, HF.out, if_neg h1, (HDD n).out]
      clear HF H0 HDD he hN HLE
      rcases forms with ⟨rfl, rfl, rfl, rfl⟩ | ⟨ad, rfl, rfl, rfl⟩ | ⟨ad, rfl, hne⟩
      · have C5 := CC none 0 (k2 _ (Nat.le_refl _))
        clear CC k2
        simp only [Nat.sub_zero] at C5
        by_cases h1 : lowN c = c
        · have h1' : ((c : Int) == (lowN c : Int)) = true := by rw [h1]; simp
          have h2 : n = 0 := by omega
          have h2' : ((n : Int) == 0) = true := by simp [h2]
          have HR : Hid _ := HA.out h1 h2
          clear HA HB HC
          clear h1
          clear h2
          go_wp2_with (first | (go_at_call 50; refine (TL _).mono ?_; rintro e w' ⟨rfl, rfl⟩) | (go_at_call 51; refine C5.mono ?_; rintro e w' ⟨rfl, rfl⟩))
          all_goals (go_ret; exact ⟨by rw [HR.out]; rfl, FR _⟩)
        · have h1' : ((c : Int) == (lowN c : Int)) = false := by simp; omega
          have HR : Hid _ := HC.out h1
          clear HA HB HC
          clear h1
          go_wp2_with (first | (go_at_call 50; refine (TL _).mono ?_; rintro e w' ⟨rfl, rfl⟩) | (go_at_call 51; refine C5.mono ?_; rintro e w' ⟨rfl, rfl⟩))
          all_goals
            go_roundw
            case rel => exact ⟨pos + 1, 0 + n, hp, rfl, by go_num, by omega, HR⟩
            case measure => rw [hmu, hmu2]; omega
      · have C5 := CC (some ad) 0 (k2 _ (Nat.le_refl _))
        clear CC k2
        simp only [Nat.sub_self] at C5
        by_cases h1 : lowN c = c
        · have h1' : ((c : Int) == (lowN c : Int)) = true := by rw [h1]; simp
          have h2 : n = 0 := by omega
          have h2' : ((n : Int) == 0) = true := by simp [h2]
          have HR : Hid _ := HA.out h1 h2
          clear HA HB HC
          clear h1
          clear h2
          go_wp2_with (first | (go_at_call 50; refine (TL _).mono ?_; rintro e w' ⟨rfl, rfl⟩) | (go_at_call 51; refine C5.mono ?_; rintro e w' ⟨rfl, rfl⟩))
          all_goals (go_ret; exact ⟨by rw [HR.out]; rfl, FR _⟩)
        · have h1' : ((c : Int) == (lowN c : Int)) = false := by simp; omega
          have HR : Hid _ := HC.out h1
          clear HA HB HC
          clear h1
          go_wp2_with (first | (go_at_call 50; refine (TL _).mono ?_; rintro e w' ⟨rfl, rfl⟩) | (go_at_call 51; refine C5.mono ?_; rintro e w' ⟨rfl, rfl⟩))
          all_goals
            go_roundw
            case rel => exact ⟨pos + 1, _, hp, rfl, by go_num, by omega, HR⟩
            case measure => rw [hmu, hmu2]; omega
      · have C5 := CC (some (ad.add q)) (kc - q) ((hk.fr (FR _) (by simp)).drop q)
        clear CC k2 hk
        by_cases h1 : lowN c = c
        · have h1' : ((c : Int) == (lowN c : Int)) = true := by rw [h1]; simp
          by_cases h2 : n = 0
          · have h2' : ((n : Int) == 0) = true := by simp [h2]
            have HR : Hid _ := HA.out h1 h2
            clear HA HB HC
            clear h1
            clear h2
            go_wp2_with (first | (go_at_call 50; refine (TL _).mono ?_; rintro e w' ⟨rfl, rfl⟩) | (go_at_call 51; refine C5.mono ?_; rintro e w' ⟨rfl, rfl⟩))
            all_goals (go_ret; exact ⟨by rw [HR.out]; rfl, FR _⟩)
          · have h2' : ((n : Int) == 0) = false := by simp [h2]
            have HR : Hid _ := HB.out h1 h2
            clear HA HB HC
            clear h1
            have hn0 : 0 < n := by omega
            clear h2
            go_wp2_with (first | (go_at_call 50; refine (TL _).mono ?_; rintro e w' ⟨rfl, rfl⟩) | (go_at_call 51; refine C5.mono ?_; rintro e w' ⟨rfl, rfl⟩))
            all_goals
              go_roundw
              case rel => exact ⟨pos + 1, q + 1, hp, rfl, by go_num, by omega, HR⟩
              case measure => rw [hmu, hmu2]; omega
        · have h1' : ((c : Int) == (lowN c : Int)) = false := by simp; omega
          have HR : Hid _ := HC.out h1
          clear HA HB HC
          clear h1
          go_wp2_with (first | (go_at_call 50; refine (TL _).mono ?_; rintro e w' ⟨rfl, rfl⟩) | (go_at_call 51; refine C5.mono ?_; rintro e w' ⟨rfl, rfl⟩))
          all_goals
            go_roundw
            case rel => exact ⟨pos + 1, q + n, hp, rfl, by go_num, by omega, HR⟩
            case measure => rw [hmu, hmu2]; omega
    · have hnx := fun ty => run_next_end (P := Tryd.prog) w s pos ty hp
      have HE : Hid (fitL s.data.toList K = decide (q = m)) := by
        unfold Hid
        rw [← he.out, drop_end s pos (by omega)]
        simp only [fitL]
        rw [Bool.eq_iff_iff]
        simp [HKl.out]
        omega
      go_wp2
      go_ret
      refine ⟨?_, FR _⟩
      rw [HE.out]
      refine congrArg (fun b => Ending.returned (Value.bool b)) ?_
      rw [Bool.eq_iff_iff]
      simp
      omega
end Go.Proofs.YtajkkjohoedhaaaDoor
