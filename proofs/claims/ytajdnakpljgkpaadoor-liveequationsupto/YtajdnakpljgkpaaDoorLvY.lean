/-
  The registers of a set are told one by one, rising, whatever the caller does with each; conditions: the set and the library's table lie as told.
-/
import Derived.Test.YtajdnakpljgkpaaDoorLvX
namespace Go.Proofs.YtajdnakpljgkpaaDoor
open Go.RowKit Go.Shelf
set_option linter.unusedVariables false
set_option linter.unusedSimpArgs false
attribute [local go_sem] Oper.semAt_some store_func

theorem drop_next {l : List Nat} {j r : Nat} {t : List Nat} (h : l.drop j = r :: t) : l[j]? = some r ∧ l.drop (j + 1) = t ∧ j < l.length := by
  have h1 : l[j]? = some r := by
    have := congrArg (·[0]?) h
    simpa using this
  refine ⟨h1, ?_, (List.getElem?_eq_some_iff.1 h1).1⟩
  have := congrArg (List.drop 1) h
  rw [List.drop_drop] at this
  simpa using this

theorem loadF {W : World} {b o n : Nat} {cs : List Value} (h : W.rangeAt b o cs) (hn : cs.length = n) : (loadCellsFrom ⟨b, o, none⟩ 0 n #[]).run Tryd.prog W = .ok cs.toArray W := by
  subst hn
  have := run_loadCells_list (P := Tryd.prog) W ⟨b, o, none⟩ cs (fun j v hv => by rw [Addr.add_mid]; exact h j v hv)
  simpa [loadCells] using this
theorem range_set {W : World} {b : Nat} {s : Nat → Nat} {t : TypeId} (h : W.heap[b]? = some (.cells (setA s) t (0, 0))) : W.rangeAt b 0 (setL s) := by
  intro j v hv
  have hj : j < 16 := by have := (List.getElem?_eq_some_iff.1 hv).1; rw [setL_len] at this; exact this
  rw [setL_at _ hj] at hv
  injection hv with hv
  rw [Nat.zero_add, ← hv]
  exact at_cells h j (setA_at s hj)

set_option maxRecDepth 100000 in
set_option maxHeartbeats 4000000 in
theorem tell1 (G : Nat → World → Prop) (bx l : Nat) (s : Nat → Nat) (hs : okS s)
    (hK : ∀ j W, G j W → DB W ∧ W.heap[bx]? = some (.cells (setA s) 67 (0, 0)))
    (hY : ∀ j r W, (regsN s 16)[j]? = some r → G j W → YieldAt Fence.wide 0 Tryd.prog l #[.int .i64 (r : Nat)] W (fun e W' => e = .returned (.bool true) ∧ G (j + 1) W'))
    (W : World) (h0 : G 0 W) :
    CallsIn Fence.wide 0 Tryd.prog 46 #[.func (.yield l) #[] #[], .pointer (some ⟨bx, 0, none⟩)] W fun e W' => (∃ v, e = .returned v) ∧ G (regsN s 16).length W' := by
  refine callsIn_of_wp Tryd.func46 rfl trivial ?_ rfl
  simp only [Tryd.ntmps46, List.size_toArray, List.length_cons, List.length_nil, Nat.reduceAdd, Nat.reduceSub, Array.replicate_succ, Array.replicate_zero, List.push_toArray, List.append_toArray, List.nil_append, List.cons_append]
  have hb := (hK 0 W h0).2
  have HZ : Hid (∀ s, (setA s).size = 16) := setA_size
  have c0 : W.cell? ⟨bx, 0, none⟩ = some (.int .u64 (s 0 : Nat)) := at_cells hb 0 (setA_at s (by decide))
  have c1 : W.cell? ⟨bx, 1, none⟩ = some (.int .u64 (s 1 : Nat)) := at_cells hb 1 (setA_at s (by decide))
  have c2 : W.cell? ⟨bx, 2, none⟩ = some (.int .u64 (s 2 : Nat)) := at_cells hb 2 (setA_at s (by decide))
  have c3 : W.cell? ⟨bx, 3, none⟩ = some (.int .u64 (s 3 : Nat)) := at_cells hb 3 (setA_at s (by decide))
  have c4 : W.cell? ⟨bx, 4, none⟩ = some (.int .u64 (s 4 : Nat)) := at_cells hb 4 (setA_at s (by decide))
  have c5 : W.cell? ⟨bx, 5, none⟩ = some (.int .u64 (s 5 : Nat)) := at_cells hb 5 (setA_at s (by decide))
  have c6 : W.cell? ⟨bx, 6, none⟩ = some (.int .u64 (s 6 : Nat)) := at_cells hb 6 (setA_at s (by decide))
  have c7 : W.cell? ⟨bx, 7, none⟩ = some (.int .u64 (s 7 : Nat)) := at_cells hb 7 (setA_at s (by decide))
  have c8 : W.cell? ⟨bx, 8, none⟩ = some (.int .u64 (s 8 : Nat)) := at_cells hb 8 (setA_at s (by decide))
  have c9 : W.cell? ⟨bx, 9, none⟩ = some (.int .u64 (s 9 : Nat)) := at_cells hb 9 (setA_at s (by decide))
  have c10 : W.cell? ⟨bx, 10, none⟩ = some (.int .u64 (s 10 : Nat)) := at_cells hb 10 (setA_at s (by decide))
  have c11 : W.cell? ⟨bx, 11, none⟩ = some (.int .u64 (s 11 : Nat)) := at_cells hb 11 (setA_at s (by decide))
  have c12 : W.cell? ⟨bx, 12, none⟩ = some (.int .u64 (s 12 : Nat)) := at_cells hb 12 (setA_at s (by decide))
  have c13 : W.cell? ⟨bx, 13, none⟩ = some (.int .u64 (s 13 : Nat)) := at_cells hb 13 (setA_at s (by decide))
  have c14 : W.cell? ⟨bx, 14, none⟩ = some (.int .u64 (s 14 : Nat)) := at_cells hb 14 (setA_at s (by decide))
  have c15 : W.cell? ⟨bx, 15, none⟩ = some (.int .u64 (s 15 : Nat)) := at_cells hb 15 (setA_at s (by decide))
  have HTS : Hid (∀ i, i < 16 → (setA s)[i]? = some (.int .u64 (s i : Nat))) := fun i hi => setA_at s hi
  have hts := setA_size s
  have HK : Hid (∀ j W, G j W → DB W) := fun j W h => (hK j W h).1
  have HLit : Hid ((#[.int .u64 (s 0 : Nat), .int .u64 (s 1 : Nat), .int .u64 (s 2 : Nat), .int .u64 (s 3 : Nat), .int .u64 (s 4 : Nat), .int .u64 (s 5 : Nat), .int .u64 (s 6 : Nat), .int .u64 (s 7 : Nat), .int .u64 (s 8 : Nat), .int .u64 (s 9 : Nat), .int .u64 (s 10 : Nat), .int .u64 (s 11 : Nat), .int .u64 (s 12 : Nat), .int .u64 (s 13 : Nat), .int .u64 (s 14 : Nat), .int .u64 (s 15 : Nat)] : Array Value) = setA s) := rfl
  clear hK hb
  gi_wp2
  rw [HLit.out]
  clear HLit c0 c1 c2 c3 c4 c5 c6 c7 c8 c9 c10 c11 c12 c13 c14 c15
  generalize setA s = A at *
  have HRS : Hid (regsN s 16 = regsF s 0 16) := regsN_F s 16
  have HY : Hid _ := hY
  clear hY
  generalize hRL : regsN s 16 = RL at *
  have HRL : Hid _ := hRL
  clear hRL
  gi_loopw [6] (fun i wr => ∃ p j : Nat, p ≤ 16 ∧ i = .int .i64 p ∧ G j wr ∧ Hid (RL.drop j = regsF s p (16 - p)) ∧ Hid (j ≤ RL.length)) (fun i _ => 16 - (intOf i).toNat)
  case atStart => exact ⟨0, 0, by omega, rfl, h0, HRS, Nat.zero_le _⟩
  case round =>
    obtain ⟨p, j, hp, rfl, hg, hd, hj⟩ := hrel
    by_cases hlt : p < 16
    · have hpI : (p : Int) < 16 := by omega
      have htc := fun w' => ix67 A p _ hts hlt (HTS.out p hlt) rfl w'
      have hsp := hs p
      have hd' : Hid (RL.drop j = (bitsL (s p)).map (fun b => p * 64 + b) ++ regsF s (p + 1) (15 - p)) := by
        unfold Hid
        rw [hd.out, show 16 - p = 15 - p + 1 by omega]
        rfl
      clear hd
      generalize s p = y0 at *
      gi_wp2
      gi_loopw [4] (fun i wr => ∃ y j : Nat, i = .int .u64 y ∧ y < 18446744073709551616 ∧ G j wr ∧ Hid (RL.drop j = (bitsL y).map (fun b => p * 64 + b) ++ regsF s (p + 1) (15 - p)) ∧ Hid (j ≤ RL.length)) (fun i _ => (intOf i).toNat)
      case atStart => exact ⟨y0, j, rfl, hsp, hg, hd', hj⟩
      case round =>
        obtain ⟨y, j, rfl, hy, hg, hd, hj⟩ := hrel
        by_cases hy0 : y = 0
        · subst hy0
          have hd2 : Hid (RL.drop j = regsF s (p + 1) (16 - (p + 1))) := by
            unfold Hid
            rw [hd.out, bits_none, show 16 - (p + 1) = 15 - p by omega]
            rfl
          clear hd
          gi_wp2
          go_roundw
          case rel => exact ⟨p + 1, j, hlt, by go_num, hg, hd2, hj⟩
          case measure => simp [intOf]; omega
        · obtain ⟨e1, e2, e3⟩ := bits_next hy0 hy
          have hdn : RL.drop j = (p * 64 + Lib.ctz 64 y) :: ((bitsL (y &&& (y - 1))).map (fun b => p * 64 + b) ++ regsF s (p + 1) (15 - p)) := by
            rw [hd.out, e1]
            rfl
          obtain ⟨g1, g2, g3⟩ := drop_next hdn
          have HD2 : Hid _ := g2
          have HJ2 : Hid (j + 1 ≤ RL.length) := g3
          have CT := tz_any y hy0 hy wr (HK.out j wr hg)
          have hYy := HY.out j _ wr g1 hg
          have hne : ((y : Int) != 0) = true := by simp; omega
          have hand : bits BinOp.and IntKind.u64 (y : Int) ((y : Int) - 1) = ((y &&& (y - 1) : Nat) : Int) := by
            rw [show (y : Int) - 1 = ((y - 1 : Nat) : Int) by omega]
            exact bits_and_u64_nat _ _ hy (by omega)
          have hlt2 : y &&& (y - 1) < y := e2
          have HL2 : Hid (y &&& (y - 1) < y) := e2
          have hc64 : ((Lib.ctz 64 y : Nat) : Int) < 64 := by omega
          clear hdn g1 g2 g3 hd e1 e2 e3 HY hlt2
          generalize hcz : Lib.ctz 64 y = c at *
          generalize hyy : y &&& (y - 1) = y2 at *
          clear hcz hyy
          gi_wp2
          refine ⟨trivial, rfl, (callsIn_wide.2 CT).mono ?_⟩
          rintro e W' ⟨rfl, rfl⟩
          rw [show ((p * 64 + c : Nat) : Int) = (p : Int) * 64 + c by omega] at hYy
          obtain ⟨fn, tmps, assign, body, hyd, hR⟩ := hYy
          clear CT
          gi_wp2
          refine ⟨rfl, hR.mono ?_⟩
          rintro e W2 ⟨rfl, hG2⟩
          clear hR hyd
          have hy2 : y2 < 18446744073709551616 := by have := HL2.out; omega
          gi_wp2
          go_roundw
          case rel => exact ⟨y2, j + 1, rfl, hy2, hG2, HD2, HJ2⟩
          case measure => have := HL2.out; simp [intOf]; omega
    · have hp16 : p = 16 := by omega
      have HE : Hid (j = RL.length) := by
        have h1 := hd.out
        rw [hp16] at h1
        have h2 := congrArg List.length h1
        simp [regsF] at h2
        have := hj.out
        unfold Hid
        omega
      clear hd
      gi_wp2
      go_end0
      rw [HRL.out, ← HE.out]
      exact ⟨⟨_, rfl⟩, hg⟩
end Go.Proofs.YtajdnakpljgkpaaDoor
