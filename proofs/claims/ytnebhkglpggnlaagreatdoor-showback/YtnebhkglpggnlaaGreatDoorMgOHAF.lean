/-
  Texts of the proof, in their order: BakS, BakT; conditions: as each says.
-/
import Derived.Test.YtnebhkglpggnlaaGreatDoorMgCINJ
import Derived.Test.YtnebhkglpggnlaaGreatDoorMgEGKG
import Derived.Test.YtnebhkglpggnlaaGreatDoorMgNCFP
namespace Go.Proofs.YtnebhkglpggnlaaGreatDoor
open Go.RowKit
set_option maxRecDepth 100000
set_option linter.unusedVariables false
set_option linter.unusedSimpArgs false

theorem zeroed {L M : List T5.Nd} {w : World} {base g len c : Nat} (h : T5.TW w base g len c L M) (hL : L.length = len) (hz : ∀ (i : Nat) (y : T5.Nd), i < len → M[i]? = some y → y.pl = 0) : M.map bare5 = L.map z5 := by
  apply List.ext_getElem?
  intro i
  rw [List.getElem?_map, List.getElem?_map]
  by_cases hi : i < len
  · have h1 : M[i]? = some (M[i]'(by rw [h.len]; exact hi)) := List.getElem?_eq_getElem _
    have h2 : L[i]? = some (L[i]'(by rw [hL]; exact hi)) := List.getElem?_eq_getElem _
    generalize M[i]'(by rw [h.len]; exact hi) = y at h1
    generalize L[i]'(by rw [hL]; exact hi) = x at h2
    obtain ⟨e1, e2, e3⟩ := h.eq i x y h2 h1
    rw [h1, h2]
    simp only [Option.map_some, bare5, z5, e1, e2, e3, hz i y hi h1]
  · rw [List.getElem?_eq_none (by rw [h.len]; omega), List.getElem?_eq_none (by omega)]
    rfl
set_option maxHeartbeats 1000000 in
theorem bare_any (B : Nat) (L : List T5.Nd) (w : World) (a : Option Addr) (len cap : Nat) (hlen : L.length = len) (h0 : 0 < len) (hL : T5.NAt B w a L) (hB : B ≤ w.heap.size) (hm : len ≤ 50000) (TT : Tabs w) (ht : ∀ x ∈ L, x.text.size ≤ 200020) (hks : ∀ x ∈ L, x.ks.length ≤ 50000) :
    Calls Tryz.prog 13 #[.slice a len cap] w fun e w' => e = .returned (.string ⟨(lispO (L.map z5)).1.toArray⟩) ∧ Fr [] w w' := by
  have CT := T5.twin_any B L w a len cap hlen hL (fun e => by
    have hx : L[0]? = some (L[0]'(by omega)) := List.getElem?_eq_getElem _
    obtain ⟨b, o, e2, _⟩ := hL 0 _ hx
    rw [e] at e2
    cases e2) hB (by omega) (fun i x hx => by have := hks x (List.mem_of_getElem? hx); omega)
  have HL : Hid (L.length = len) := hlen
  have HT : Hid (∀ x ∈ L, x.text.size ≤ 200020) := ht
  have hlm : len ≤ 2600000000000 := by omega
  clear ht hks hL hlen
  go_enter Tryz.func13, Tryz.ntmps13
  go_wp2_with fail
  refine CT.mono ?_
  rintro e w1 ⟨⟨a', c', rfl, hh⟩, f1⟩
  obtain ⟨g, M1, rfl, hg, hT1⟩ := hh h0
  clear CT hh
  go_wp2
  go_loopw [11] (fun i wr => ∃ p : Nat, p ≤ len ∧ i = .int .i64 p ∧ Fr [] w wr ∧ ∃ M, T5.TW wr w.heap.size g len c' L M ∧ ∀ (i : Nat) (y : T5.Nd), i < p → M[i]? = some y → y.pl = 0) (fun i _ => len - (intOf i).toNat)
  case atStart => exact ⟨0, Nat.zero_le _, rfl, f1, M1, hT1, fun i y hi => by omega⟩
  case round =>
    obtain ⟨p, hp, rfl, fw, M, hT, hz⟩ := hrel
    clear hT1
    by_cases hlt : p < len
    · have hy : M[p]? = some (M[p]'(by rw [hT.len]; exact hlt)) := List.getElem?_eq_getElem _
      generalize M[p]'(by rw [hT.len]; exact hlt) = y at hy
      have c3 : wr.cell? ⟨g, p * 4 + 3, none⟩ = some (.int .i64 y.pl) := hT.cell hy (show 3 < 4 by omega)
      have hfz := hT.own.frozenAt (p * 4 + 3)
      have hgw : g < wr.heap.size := World.block_lt_of_cell? wr _ c3
      have T2 := hT.put (j := 3) (y' := { y with pl := 0 }) hy (by omega) (.int .i64 0) rfl ⟨rfl, rfl, rfl⟩ (hT.ok p y hy)
      have F2 := fw.setCell (p := ⟨g, p * 4 + 3, none⟩) (.inr hg) (.int .i64 0)
      have hz2 : ∀ (i : Nat) (z : T5.Nd), i < p + 1 → (M.set p { y with pl := 0 })[i]? = some z → z.pl = 0 := fun i z hi hh => by
        by_cases e : i = p
        · subst e
          rw [List.getElem?_set_self (by rw [hT.len]; exact hlt)] at hh
          injection hh with hh
          subst hh
          rfl
        · rw [List.getElem?_set_ne (fun e2 => e e2.symm)] at hh
          exact hz i z (by omega) hh
      clear hT hy hz
      go_wp2
      go_roundw
      case rel => exact ⟨p + 1, hlt, by go_num, F2, _, T2, hz2⟩
      case measure => simp [intOf]; omega
    · have e : p = len := by omega
      subst e
      have hM := zeroed hT HL.out hz
      have hMt : ∀ x ∈ M, x.text.size ≤ 200020 ∧ x.pl ≤ 9223372036854775807 := fun x hx => by
        obtain ⟨i, hi⟩ := List.getElem?_of_mem hx
        have hil := (List.getElem?_eq_some_iff.1 hi).1
        have h2 : L[i]? = some (L[i]'(by rw [HL.out, ← hT.len]; exact hil)) := List.getElem?_eq_getElem _
        obtain ⟨_, e2, _⟩ := hT.eq i _ x h2 hi
        refine ⟨?_, by rw [hz i x (by rw [← hT.len]; exact hil) hi]; decide⟩
        rw [e2]
        exact HT.out _ (List.mem_of_getElem? h2)
      have CL := rLisp_any wr.heap.size M wr (some ⟨g, 0, none⟩) p c' hT.len hT.nat hlm (Nat.le_refl _) (TT.fr fw (by simp)) (fun x hx => (hMt x hx).1) (fun x hx => (hMt x hx).2)
      rw [← lispO_bare M, hM] at CL
      rcases hR : lispO (L.map z5) with ⟨R1, R2⟩
      rw [hR] at CL
      have HR : Hid (lispO (L.map z5) = (R1, R2)) := hR
      clear hT hz hM hMt hR
      go_wp2_with fail
      refine CL.mono ?_
      rintro e w3 ⟨rfl, f3⟩
      have F3 := fw.trans f3
      go_wp2
      go_ret
      exact ⟨by rw [HR.out]; rfl, F3⟩
end Go.Proofs.YtnebhkglpggnlaaGreatDoor
namespace Go.Proofs.YtnebhkglpggnlaaGreatDoor
open Go.RowKit
set_option maxRecDepth 100000
set_option linter.unusedVariables false
set_option linter.unusedSimpArgs false

theorem prgL_bad {s : ByteArray} {p c : Nat} (h : prgL s = .error (p, c)) : c ≠ 0 := by
  unfold prgL at h
  rcases hsc : sc s 0 with ⟨ts, _ | ⟨q, d⟩⟩
  · rw [hsc] at h
    simp only at h
    split at h
    · cases h; omega
    · split at h
      · cases h; omega
      · split at h
        · cases h; omega
        · split at h
          · cases h; omega
          · cases h
  · rw [hsc] at h
    cases h
    have h1 := scanL_err (s.size + 1) 0 (s.data.toList.drop 0) (p, c) (show (sc s 0).2 = _ by rw [hsc])
    simp only at h1
    omega
theorem scanR_long (s : ByteArray) (w : World) (hs : 200000 < s.size) : Calls Tryz.prog 18 #[.string s] w fun e w' => e = .returned (.tuple #[.slice none 0 0, .int .i64 0, .int .i64 2]) ∧ Fr [] w w' := by
  have hs' : (200000 : Int) < (s.size : Int) := by omega
  have f1 := Fr.refl [] w
  go_enter Tryz.func18, Tryz.ntmps18
  go_wp2
  exact bodyPost_ret (results_tmp3 rfl _ _ _) rfl ⟨rfl, f1⟩
theorem prgR_long (s : ByteArray) (w : World) (hs : 200000 < s.size) : Calls Tryz.prog 12 #[.string s] w fun e w' => e = .returned (.tuple #[.slice none 0 0, .int .i64 0, .int .i64 2]) ∧ Fr [] w w' := by
  have CS := scanR_long s w hs
  go_enter Tryz.func12, Tryz.ntmps12
  go_wp2_with (go_at_call 18; refine CS.mono ?_)
  rintro e w1 ⟨rfl, f1⟩
  go_wp2
  exact bodyPost_ret (results_tmp3 rfl _ _ _) rfl ⟨rfl, f1⟩
theorem z_bare (L : List T5.Nd) : (L.map bare5).map z5 = L.map z5 := by simp [z5, bare5, Function.comp_def]
/-- What a list that is read as ms is shown as. -/
theorem shown_as {s : ByteArray} {ms : List PN} (h : prgL s = .ok ms) {L : List T5.Nd} (hb : L.map bare5 = ms.map nx5) (hl : (pN (ms.map nx5) (((ms.map nx5).length - 1 : Nat) : Int)).length ≤ 800000) : progO L = (pN (ms.map nx5) (((ms.map nx5).length - 1 : Nat) : Int), 0) := by
  rw [← progO_bare, hb]
  unfold progO shO
  rw [prg_good h]
  simp only [if_true]
  rw [if_pos hl]
theorem few_kids {s : ByteArray} {ms : List PN} (h : prgL s = .ok ms) {L : List T5.Nd} (hb : L.map bare5 = ms.map nx5) (hn : L.length ≤ 50000) : 0 < L.length ∧ ∀ x ∈ L, x.ks.length ≤ 50000 := by
  have hc : T5.checkL L = (0, 0) := by rw [← checkL_bare, hb]; exact prg_good h
  obtain ⟨T, hT, h0, _⟩ := T5.check_zero hc
  refine ⟨by omega, fun x hx => ?_⟩
  obtain ⟨i, hi⟩ := List.getElem?_of_mem hx
  have := kids_few hT hi
  omega
/-- A text that was shown, read anew. -/
theorem again {s : ByteArray} (hs : s.size ≤ 2000) {ms : List PN} (h : prgL s = .ok ms) {t : List UInt8} (ht : pN (ms.map nx5) (((ms.map nx5).length - 1 : Nat) : Int) = t) : (∃ p, prgL ⟨t.toArray⟩ = .error (p, 51)) ∨ prgL ⟨t.toArray⟩ = .error (0, 2) ∨ ∃ m2, prgL ⟨t.toArray⟩ = .ok m2 ∧ pN (m2.map nx5) (((m2.map nx5).length - 1 : Nat) : Int) = t ∧ lispO ((m2.map nx5).map z5) = lispO ((ms.map nx5).map z5) := by
  have hc := prg_good h
  obtain ⟨T, hT, h0, _, hk1, _⟩ := T5.check_zero hc
  have hlt : (ms.map nx5).length - 1 < (ms.map nx5).length := by omega
  have hx : (ms.map nx5)[(((ms.map nx5).length - 1 : Nat) : Int).toNat]? = some ((ms.map nx5)[(ms.map nx5).length - 1]'hlt) := by rw [Int.toNat_natCast]; exact List.getElem?_eq_getElem hlt
  have hk : ((ms.map nx5)[(ms.map nx5).length - 1]'hlt).kind = 1 := by rw [T5.kd, hx] at hk1; exact hk1
  rcases back_read hT hx hk (s := ⟨t.toArray⟩) (by rw [ht]) with hh | hh | ⟨m2, r, h2, hr, hI⟩
  · exact .inl hh
  · exact .inr (.inl hh)
  · have hM := prg_good h2
    exact .inr (.inr ⟨m2, h2, by rw [← ht]; exact (shown_same hc hM hr hI).symm, (bare_same hc hM hr hI).symm⟩)
set_option maxHeartbeats 2000000 in
theorem showBack_walk (s : ByteArray) (w : World) (TT : Tabs w) : Calls Tryz.prog 5 #[.string s] w fun e w' => e = .returned (.bool true) ∧ Fr [] w w' := by
  have CA := awake7_any w TT
  by_cases h2 : s.size ≤ 2000
  rotate_left
  · have h3 : (2000 : Int) < (s.size : Int) := by omega
    go_enter Tryz.func5, Tryz.ntmps5
    go_wp2_with fail
    refine CA.mono ?_
    rintro e w1 ⟨rfl, f1⟩
    go_wp2
    go_ret
    exact ⟨rfl, f1⟩
  have h3 : (s.size : Int) ≤ 2000 := by omega
  have CP := fun w1 (f : Fr [] w w1) => prgR_any s w1 (by omega) (Nat.le_trans TT.len f.size)
  rcases hp : prgL s with ⟨p, c⟩ | ms
  · have hc : ¬ (c : Int) = 0 := by have := prgL_bad hp; omega
    unfold PrgOut at CP
    simp only [hp] at CP
    clear hp
    go_enter Tryz.func5, Tryz.ntmps5
    go_wp2_with fail
    refine CA.mono ?_
    rintro e w1 ⟨rfl, f1⟩
    have C1 := CP w1 f1
    clear CA CP
    go_wp2_with fail
    refine C1.mono ?_
    rintro e w2 ⟨rfl, f2⟩
    have F := f1.trans f2
    go_wp2
    go_ret
    exact ⟨rfl, F⟩
  · have hfit := back_fits h2 hp
    have hag := fun t ht => again h2 hp (t := t) ht
    have hsh := fun L hb => shown_as hp (L := L) hb hfit
    generalize ht : pN (ms.map nx5) (((ms.map nx5).length - 1 : Nat) : Int) = t at hfit hsh
    have hag := hag t ht
    have HP : Hid (prgL s = .ok ms) := hp
    have HS : Hid (s.size ≤ 2000) := h2
    clear ht hp h2
    go_enter Tryz.func5, Tryz.ntmps5
    go_wp2_with fail
    refine CA.mono ?_
    rintro e w1 ⟨rfl, f1⟩
    have C1 := CP w1 f1
    clear CA CP
    go_wp2_with fail
    refine C1.mono ?_
    rintro e w2 ⟨hpo, f2⟩
    obtain ⟨a, n, c, L, rfl, hn, hL, hn5, htx, hpl, hb⟩ := rd5_of (s := s) (by have := HS.out; omega) hpo HP.out
    have F2 := f1.trans f2
    have T2 := TT.fr F2 (by simp)
    have C2 := showP_any w2.heap.size L w2 a n c hn hL (by omega) (Nat.le_refl _) T2 hpl (fun _ => htx)
    rw [hsh L hb] at C2
    obtain ⟨k0, k1⟩ := few_kids HP.out hb (by omega)
    have CB := fun w3 (f : Fr [] w2 w3) => bare_any w2.heap.size L w3 a n c hn (by omega) (hL.fr f (by simp)) f.size hn5 (T2.fr f (by simp)) htx k1
    rw [← z_bare L, hb] at CB
    clear C1 hpo hL hsh hpl htx hb k0 k1 hn hn5
    go_wp2_with fail
    refine C2.mono ?_
    rintro e w3 ⟨rfl, f3⟩
    have F3 := F2.trans f3
    have T3 := T2.fr f3 (by simp)
    clear C2
    have hsz : (⟨t.toArray⟩ : ByteArray).size = t.length := by rw [Lib.size_eq]
    by_cases hlong : 200000 < t.length
    · have C4 := prgR_long ⟨t.toArray⟩ w3 (by omega)
      clear hag CB
      go_wp2_with fail
      refine C4.mono ?_
      rintro e w4 ⟨rfl, f4⟩
      have F4 := F3.trans f4
      go_wp2
      go_ret
      exact ⟨rfl, F4⟩
    have C4 := prgR_any ⟨t.toArray⟩ w3 (by omega) T3.len
    rcases hag with ⟨p, hq⟩ | hq | ⟨m2, hq, ht2, hli⟩
    · unfold PrgOut at C4
      simp only [hq] at C4
      clear CB hq
      go_wp2_with fail
      refine C4.mono ?_
      rintro e w4 ⟨rfl, f4⟩
      have F4 := F3.trans f4
      go_wp2
      go_ret
      exact ⟨rfl, F4⟩
    · unfold PrgOut at C4
      simp only [hq] at C4
      clear CB hq
      go_wp2_with fail
      refine C4.mono ?_
      rintro e w4 ⟨rfl, f4⟩
      have F4 := F3.trans f4
      go_wp2
      go_ret
      exact ⟨rfl, F4⟩
    · have HQ : Hid (prgL ⟨t.toArray⟩ = .ok m2) := hq
      have hsh2 := fun L hb => shown_as hq (L := L) hb (by rw [ht2]; exact hfit)
      rw [ht2] at hsh2
      have HLI : Hid _ := hli
      have HLN : Hid (¬ 200000 < t.length) := hlong
      have HSZ : Hid _ := hsz
      clear hq ht2 hli hlong hfit hsz
      go_wp2_with fail
      refine C4.mono ?_
      rintro e w4 ⟨hpo, f4⟩
      obtain ⟨a', n', c', L', rfl, hn, hL, hn5, htx, hpl, hb⟩ := rd5_of (s := ⟨t.toArray⟩) (by have := HLN.out; have := HSZ.out; omega) hpo HQ.out
      have F4 := F3.trans f4
      have T4 := T3.fr f4 (by simp)
      have C5 := showP_any w4.heap.size L' w4 a' n' c' hn hL (by omega) (Nat.le_refl _) T4 hpl (fun _ => htx)
      rw [hsh2 L' hb] at C5
      obtain ⟨k0, k1⟩ := few_kids HQ.out hb (by omega)
      have CB2 := fun w5 (f : Fr [] w4 w5) => bare_any w4.heap.size L' w5 a' n' c' hn (by omega) (hL.fr f (by simp)) f.size hn5 (T4.fr f (by simp)) htx k1
      rw [← z_bare L', hb, HLI.out] at CB2
      generalize (lispO ((ms.map nx5).map z5)).1 = R at CB CB2
      have f34 := f3.trans f4
      clear C4 hpo hL hsh2 hpl htx hb k0 k1 hn hn5 HLI HQ HP
      go_wp2_with fail
      refine C5.mono ?_
      rintro e w5 ⟨rfl, f5⟩
      have F5 := F4.trans f5
      have C6 := CB2 w5 f5
      have f35 := f34.trans f5
      clear C5 CB2
      go_wp2_with fail
      refine C6.mono ?_
      rintro e w6 ⟨rfl, f6⟩
      have F6 := F5.trans f6
      have C7 := CB w6 (f35.trans f6)
      clear C6 CB
      go_wp2_with fail
      refine C7.mono ?_
      rintro e w7 ⟨rfl, f7⟩
      have F7 := F6.trans f7
      go_wp2
      go_ret
      exact ⟨by simp, F7⟩
end Go.Proofs.YtnebhkglpggnlaaGreatDoor
