/-
  A line ahead moves the places of a text, or of its fault, and changes nothing else: the law walked; condition: the tables lie as the program lays them.
-/
import Derived.Test.YtekjfddcbcijdaaGreatDoorAwk
import Derived.Test.YtekjfddcbcijdaaGreatDoorSamA
import Derived.Test.YtekjfddcbcijdaaGreatDoorMovD
namespace Go.Proofs.YtekjfddcbcijdaaGreatDoor
open Go.RowKit
set_option linter.unusedVariables false
set_option linter.unusedSimpArgs false

theorem nat_nil (B : Nat) (w : World) (a : Option Addr) : NAt B w a [] := fun i x h => by simp at h
theorem nat_mono {B B' : Nat} {w : World} {a : Option Addr} {L : List Nd} (h : NAt B w a L) (hB : B ≤ B') : NAt B' w a L := fun i x hx => by
  obtain ⟨b, o, e, hb, c⟩ := h i x hx
  exact ⟨b, o, e, by omega, ⟨c.c0, c.c1, c.c2, c.c3, fun j k hk => by obtain ⟨b', o', e', hb', c'⟩ := c.k j k hk; exact ⟨b', o', e', by omega, c'⟩, c.kl, c.kc, c.kn⟩⟩
theorem ahead_of (s : ByteArray) : Ahead s ((⟨#[47, 47, 32, 97, 32, 108, 105, 110, 101, 10]⟩ : ByteArray) ++ s) := by
  unfold Ahead lineB
  simp
set_option maxRecDepth 100000 in
set_option maxHeartbeats 4000000 in
theorem moves_walk (s : ByteArray) (w : World) (T : Tabs w) : Calls Tryz.prog 3 #[.string s] w fun e w' => e = .returned (.bool true) ∧ Fr [] w w' := by
  have CA := awake_any w T
  go_enter Tryz.func3, Tryz.ntmps3
  go_wp2_with (go_at_call 4; refine CA.mono ?_)
  rintro e w1 ⟨rfl, f1⟩
  clear CA
  by_cases h2 : 2000 < s.size
  · have h2' : (2000 : Int) < (s.size : Int) := by omega
    go_wp2
    go_ret
    exact ⟨rfl, f1⟩
  have h2' : (s.size : Int) ≤ 2000 := by omega
  have hs : s.size ≤ 200000 := by omega
  have hz : ¬ 9223372036854775807 < 10 + s.size := by omega
  have T1 := T.fr f1 (by simp)
  have C1 := prog_any s w1 hs T1
  have HSZ : Hid (s.size ≤ 2000) := by unfold Hid; omega
  clear h2 hs
  cases hp : prgL s with
  | error x =>
    obtain ⟨p, c⟩ := x
    have HC : Hid (c ≠ 0 ∧ c ≤ 60) := prg_err_ne hp
    have HPL : Hid (p ≤ s.size) := prg_err_pl hp
    replace C1 : Calls Tryz.prog 5 #[.string s] w1 fun e w' => e = .returned (.tuple #[.slice none 0 0, .int .i64 (p : Nat), .int .i64 (c : Nat)]) ∧ Fr [] w1 w' := C1.mono fun e w' ⟨h, f⟩ => ⟨by unfold PrgOut at h; rw [hp] at h; exact h, f⟩
    have HP : Hid (prgL s = .error (p, c)) := hp
    clear hp
    go_wp2_with (go_at_call 5; refine C1.mono ?_)
    rintro e w2 ⟨rfl, f2⟩
    clear C1
    go_wp2_with fail
    have hA := ahead_of s
    generalize (⟨#[47, 47, 32, 97, 32, 108, 105, 110, 101, 10]⟩ : ByteArray) ++ s = S' at *
    have C2 := prog_any S' w2 (by have := ahSize hA; have := HSZ.out; omega) (T1.fr f2 (by simp))
    obtain ⟨q, hq, hqq⟩ : ∃ q, prgL S' = .error (q, c) ∧ (q = p + 10 ∨ (q = p ∧ (c = 2 ∨ c = 51))) := by
      have := prg_moved hA
      rw [HP.out] at this
      exact this
    replace C2 : Calls Tryz.prog 5 #[.string S'] w2 fun e w' => e = .returned (.tuple #[.slice none 0 0, .int .i64 (q : Nat), .int .i64 (c : Nat)]) ∧ Fr [] w2 w' := C2.mono fun e w' ⟨h, f⟩ => ⟨by unfold PrgOut at h; rw [hq] at h; exact h, f⟩
    clear hq hA hz h2'
    refine C2.mono ?_
    rintro e w3 ⟨rfl, f3⟩
    clear C2
    have F3 := (f1.trans f2).trans f3
    have C3 := rsame_any 0 w3 [] [] none none 0 0 0 0 rfl rfl (Nat.zero_le _) (Nat.zero_le _) (nat_nil _ _ _) (nat_nil _ _ _)
    have e1 : sameL ([] : List Nd) [] = true := rfl
    rw [e1] at C3
    have hpI : (p : Int) ≤ 2000 := by have := HPL.out; have := HSZ.out; omega
    have bq1 : (((p + 10 : Nat) : Int) == (p : Int)) = false := beq_int_false (by omega)
    have bq2 : (((p + 10 : Nat) : Int) == (p : Int) + 10) = true := by simp
    clear e1
    go_wp2_with (go_at_call 6; refine C3.mono ?_)
    rintro e w4 ⟨rfl, f4⟩
    clear C3
    have F4 := F3.trans f4
    by_cases hc2 : c = 2
    · subst hc2
      rcases hqq with rfl | ⟨rfl, -⟩
      · go_wp2
        go_ret
        exact ⟨rfl, F4⟩
      · go_wp2
        go_ret
        exact ⟨rfl, F4⟩
    have c2 : ((c : Int) == 2) = false := beq_int_false (by omega)
    by_cases hc51 : c = 51
    · subst hc51
      rcases hqq with rfl | ⟨rfl, -⟩
      · go_wp2
        go_ret
        exact ⟨rfl, F4⟩
      · go_wp2
        go_ret
        exact ⟨rfl, F4⟩
    have c51 : ((c : Int) == 51) = false := beq_int_false (by omega)
    have c0 : ((c : Int) == 0) = false := beq_int_false (by have := HC.out; omega)
    obtain rfl : q = p + 10 := by
      rcases hqq with h | ⟨_, h⟩
      · exact h
      · omega
    clear hc2 hc51 hqq
    go_wp2
    go_ret
    exact ⟨rfl, F4⟩
  | ok ms =>
    have HPL : Hid (∀ x ∈ ms, x.pl ≤ s.size + 20) := prg_pl hp
    have HZ : Hid (∀ x ∈ ms, ZOK x) := prg_zero hp
    have HP : Hid (prgL s = .ok ms) := hp
    clear hp
    go_wp2_with (go_at_call 5; refine C1.mono ?_)
    rintro e w2 ⟨hpo, f2⟩
    obtain ⟨a, n, c, L, rfl, hLn, hn, hL, hLx⟩ := mv_nodes HP.out hpo
    clear C1 hpo
    go_wp2_with fail
    have hA := ahead_of s
    generalize (⟨#[47, 47, 32, 97, 32, 108, 105, 110, 101, 10]⟩ : ByteArray) ++ s = S' at *
    have C2 := prog_any S' w2 (by have := ahSize hA; have := HSZ.out; omega) (T1.fr f2 (by simp))
    have HQ : Hid (prgL S' = .ok (ms.map (shN 10))) := by
      have := prg_moved hA
      rw [HP.out] at this
      exact this
    clear hA hz h2'
    refine C2.mono ?_
    rintro e w3 ⟨hpo2, f3⟩
    obtain ⟨a', n', c', L', rfl, hLn', hn', hL', hLx'⟩ := mv_nodes HQ.out hpo2
    clear C2 hpo2
    have hLx2 : L'.map MN.x = (L.map MN.x).map (shN 10) := by rw [hLx', hLx]
    have hnn : n' = n := by
      have := congrArg List.length hLx2
      simp at this
      omega
    subst hnn
    have F3 := (f1.trans f2).trans f3
    have C3 := rsame_any w3.heap.size w3 (L.map ndM) (L'.map ndM) a a' n' n' c c' (by simpa using hLn) (by simpa using hLn') (by unfold maxLen; omega) (by unfold maxLen; omega) (nat_mono (hL.fr f3 (by simp)) f3.size) hL'
    rw [same_moved 10 L L' hLx2] at C3
    have HX : Hid (L'.map MN.x = (L.map MN.x).map (shN 10)) := hLx2
    have HPN : Hid (∀ m ∈ L, m.x.pl ≤ 2020) := fun m hm => by
      have := HPL.out m.x (by rw [← hLx]; exact List.mem_map_of_mem hm)
      have := HSZ.out
      omega
    have HZN : Hid (∀ m ∈ L, ZOK m.x) := fun m hm => HZ.out m.x (by rw [← hLx]; exact List.mem_map_of_mem hm)
    have HLN : Hid (L.length = n') := hLn
    clear hLx hLx' hLx2 HPL HP HQ HZ hLn hLn'
    go_wp2_with (go_at_call 6; refine C3.mono ?_)
    rintro e w4 ⟨rfl, f4⟩
    clear C3
    have F4 := F3.trans f4
    have hA4 := hL.fr (f3.trans f4) (by simp)
    have hB4 := hL'.fr f4 (by simp)
    have hnI : (n' : Int) ≤ 50000 := by omega
    clear hL hL'
    go_wp2_with fail
    go_loopw [60] (fun iv wr => ∃ q : Nat, q ≤ n' ∧ iv = .int .i64 (q : Nat) ∧ Fr [] w4 wr) (fun iv _ => n' - (intOf iv).toNat)
    case atStart => exact ⟨0, Nat.zero_le _, rfl, Fr.refl _ _⟩
    case round =>
      obtain ⟨q, hq, rfl, fr⟩ := hrel
      by_cases hlt : q < n'
      rotate_left
      · have hlt' : ¬ ((q : Int) < (n' : Int)) := by omega
        go_wp2
        go_ret
        exact ⟨rfl, F4.trans fr⟩
      have hlt' : (q : Int) < (n' : Int) := by omega
      obtain ⟨x, hx⟩ : ∃ x, L[q]? = some x := ⟨_, List.getElem?_eq_getElem (by rw [HLN.out]; exact hlt)⟩
      obtain ⟨y, hy, hxy⟩ := moved_at HX.out hx
      have hpx : Hid (x.x.pl ≤ 2020) := HPN.out x (List.mem_of_getElem? hx)
      have hzx : Hid (ZOK x.x) := HZN.out x (List.mem_of_getElem? hx)
      obtain ⟨b1, o1, rfl, hb1, N1⟩ := (hA4.fr fr (by simp)) q (ndM x) (by rw [List.getElem?_map, hx]; rfl)
      obtain ⟨b2, o2, rfl, hb2, N2⟩ := (hB4.fr fr (by simp)) q (ndM y) (by rw [List.getElem?_map, hy]; rfl)
      have c0 := N1.c0
      have c3 := N1.c3
      have d3 := N2.c3
      simp only [ndM, hxy, shN] at c0 c3 d3
      have HQ : Hid (q < n') := hlt
      clear N1 N2 hx hy hxy hlt hA4 hB4
      obtain ⟨⟨kd, tx, kk, pl⟩, xa, xc⟩ := x
      simp only at c0 c3 d3 hpx hzx
      by_cases hk1 : kd = 1
      · subst hk1
        obtain rfl : pl = 0 := hzx.out (.inl rfl)
        simp [plS] at c0 c3 d3
        clear hzx hpx
        go_wp2
        go_roundw
        case rel => exact ⟨q + 1, HQ.out, by go_num, fr⟩
        case measure => simp [intOf]; have := HQ.out; omega
      by_cases hk14 : kd = 14
      · subst hk14
        obtain rfl : pl = 0 := hzx.out (.inr rfl)
        simp [plS] at c0 c3 d3
        clear hzx hpx
        go_wp2
        go_roundw
        case rel => exact ⟨q + 1, HQ.out, by go_num, fr⟩
        case measure => simp [intOf]; have := HQ.out; omega
      have b1 : ((kd : Int) == 1) = false := beq_int_false (by omega)
      have b14 : ((kd : Int) == 14) = false := beq_int_false (by omega)
      have ep : plS 10 kd pl = pl + 10 := by unfold plS; rw [if_neg (by omega)]
      rw [ep] at d3
      have hpI : (pl : Int) ≤ 2020 := by have := hpx.out; omega
      have bq2 : (((pl + 10 : Nat) : Int) == (pl : Int) + 10) = true := by simp
      clear ep hk1 hk14 hzx hpx
      go_wp2
      go_quiet (fail)
      go_wp2
      go_roundw
      case rel => exact ⟨q + 1, HQ.out, by go_num, fr.drewN _⟩
      case measure => simp [intOf]; have := HQ.out; omega
end Go.Proofs.YtekjfddcbcijdaaGreatDoor
