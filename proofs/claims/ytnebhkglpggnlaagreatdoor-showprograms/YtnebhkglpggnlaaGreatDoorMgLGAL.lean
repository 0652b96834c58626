/-
  Texts of the proof, in their order: PrtA, PrtB, PrtC, PrtD, PrtE, PrtF, PrtG, PrtH, PrtI, PrtJ, PrtK, PrtL, PrtM, PrtN, PrtO; conditions: as each says.
-/
import Derived.Test.YtnebhkglpggnlaaGreatDoorMgNCFP
namespace Go.Proofs.YtnebhkglpggnlaaGreatDoor
open Go.RowKit
set_option linter.unusedVariables false
set_option linter.unusedSimpArgs false

set_option maxRecDepth 100000 in
set_option maxHeartbeats 1000000 in
theorem level_any (s : List UInt8) (w : World) : Calls Tryz.prog 99 #[.string ⟨s.toArray⟩] w fun e w' => e = .returned (.int .i64 (opT s : Nat)) ∧ w' = w := by
  by_cases e0 : s = [42]
  · subst e0
    go_enter Tryz.func99, Tryz.ntmps99
    go_wp2
    go_ret
    exact ⟨rfl, rfl⟩
  by_cases e1 : s = [47]
  · subst e1
    go_enter Tryz.func99, Tryz.ntmps99
    go_wp2
    go_ret
    exact ⟨rfl, rfl⟩
  by_cases e2 : s = [37]
  · subst e2
    go_enter Tryz.func99, Tryz.ntmps99
    go_wp2
    go_ret
    exact ⟨rfl, rfl⟩
  by_cases e3 : s = [43]
  · subst e3
    go_enter Tryz.func99, Tryz.ntmps99
    go_wp2
    go_ret
    exact ⟨rfl, rfl⟩
  by_cases e4 : s = [45]
  · subst e4
    go_enter Tryz.func99, Tryz.ntmps99
    go_wp2
    go_ret
    exact ⟨rfl, rfl⟩
  by_cases e5 : s = [60, 60]
  · subst e5
    go_enter Tryz.func99, Tryz.ntmps99
    go_wp2
    go_ret
    exact ⟨rfl, rfl⟩
  by_cases e6 : s = [62, 62]
  · subst e6
    go_enter Tryz.func99, Tryz.ntmps99
    go_wp2
    go_ret
    exact ⟨rfl, rfl⟩
  by_cases e7 : s = [38]
  · subst e7
    go_enter Tryz.func99, Tryz.ntmps99
    go_wp2
    go_ret
    exact ⟨rfl, rfl⟩
  by_cases e8 : s = [124]
  · subst e8
    go_enter Tryz.func99, Tryz.ntmps99
    go_wp2
    go_ret
    exact ⟨rfl, rfl⟩
  by_cases e9 : s = [94]
  · subst e9
    go_enter Tryz.func99, Tryz.ntmps99
    go_wp2
    go_ret
    exact ⟨rfl, rfl⟩
  have h0 : opT s = 0 := by unfold opT; simp [e0, e1, e2, e3, e4, e5, e6, e7, e8, e9]
  rw [h0]
  have b0 : (s == [42]) = false := by simpa using e0
  have b1 : (s == [47]) = false := by simpa using e1
  have b2 : (s == [37]) = false := by simpa using e2
  have b3 : (s == [43]) = false := by simpa using e3
  have b4 : (s == [45]) = false := by simpa using e4
  have b5 : (s == [60, 60]) = false := by simpa using e5
  have b6 : (s == [62, 62]) = false := by simpa using e6
  have b7 : (s == [38]) = false := by simpa using e7
  have b8 : (s == [124]) = false := by simpa using e8
  have b9 : (s == [94]) = false := by simpa using e9
  go_enter Tryz.func99, Tryz.ntmps99
  go_wp2
  go_ret
  exact ⟨rfl, rfl⟩
set_option maxRecDepth 100000 in
set_option maxHeartbeats 1000000 in
theorem strength_any (kind : Int) (text : ByteArray) (v : Value) (pl : Int) (w : World) : Calls Tryz.prog 82 #[.agg #[.int .i64 kind, .string text, v, .int .i64 pl]] w fun e w' => e = .returned (.int .i64 ((if kind = 19 then opT text.data.toList else if kind = 18 then 6 else 7 : Nat) : Nat)) ∧ Fr [] w w' := by
  have f1 : Fr [] w (w.alloc (.cells #[.int .i64 kind, .string text, v, .int .i64 pl] 36)) := (Fr.refl _ _).alloc _
  by_cases h1 : kind = 19
  · subst h1
    rw [if_pos rfl]
    have CO := fun w1 => level_any text.data.toList w1
    have e0 : (⟨text.data.toList.toArray⟩ : ByteArray) = text := by cases text; rfl
    rw [e0] at CO
    go_enter Tryz.func82, Tryz.ntmps82
    go_wp2_with fail
    refine (CO _).mono ?_
    rintro e w1 ⟨rfl, rfl⟩
    go_wp2
    go_ret
    exact ⟨rfl, f1⟩
  · rw [if_neg h1]
    by_cases h2 : kind = 18
    · subst h2
      rw [if_pos rfl]
      go_enter Tryz.func82, Tryz.ntmps82
      go_wp2
      go_ret
      exact ⟨rfl, f1⟩
    · rw [if_neg h2]
      go_enter Tryz.func82, Tryz.ntmps82
      go_wp2
      go_ret
      exact ⟨rfl, f1⟩
/-- Texts that are not too long. -/
structure Bnd (L : List T5.Nd) : Prop where
  e : ∀ n, n < L.length → (eN L (n : Nat)).length ≤ 100000000000
  s : ∀ ab n, n < L.length → ab + n ≤ 50001 → (sN L ab (n : Nat)).length ≤ 100000000000
  b : ∀ ab n, n < L.length → ab + n ≤ 50001 → (bN L ab (n : Nat)).length ≤ 100000000000
  d : ∀ n, n < L.length → (dN L (n : Nat)).length ≤ 100000000000
  p : ∀ n, n < L.length → (pN L (n : Nat)).length ≤ 100000000000
theorem bnd_of {L : List T5.Nd} {T : List Bool} (h : T5.nodesL L L.length = .ok T) (hl : L.length ≤ 50000) (ht : ∀ x ∈ L, x.text.size ≤ 200020) : Bnd L := by
  have hK := kids_of h
  exact ⟨fun n hn => Nat.le_trans (eN_len hK 50001 (n + 1) _ (by simp)) (sz_le h hl ht hn), fun ab n hn ha => Nat.le_trans (sN_len hK 50001 (n + 1) ab _ (by simp) (by simpa using ha)) (sz_le h hl ht hn), fun ab n hn ha => Nat.le_trans (bN_len hK (A := 50001) (by simpa using ha)) (sz_le h hl ht hn), fun n hn => Nat.le_trans (dN_len hK (A := 50001) (by simp only [Int.toNat_natCast]; omega)) (sz_le h hl ht hn), fun n hn => Nat.le_trans (pN_len hK (A := 50001) (by simp only [Int.toNat_natCast]; omega)) (sz_le h hl ht hn)⟩
/-- What is said of expressions ahead of f. -/
def RE (L : List T5.Nd) (B : Nat) (a : Option Addr) (len cap f : Nat) : Prop := ∀ (n : Nat) (w : World), n < f → n < len → T5.isEx (T5.kd L (n : Nat)) = true → T5.NAt B w a L → B ≤ w.heap.size → Calls Tryz.prog 63 #[.slice a len cap, .int .i64 (n : Nat)] w fun e w' => e = .returned (.string ⟨(eN L n).toArray⟩) ∧ Fr [] w w'
theorem strE {z : ByteArray} {l : List UInt8} (h : z.data.toList = l) : Ending.returned (Value.string z) = Ending.returned (Value.string ⟨l.toArray⟩) := by rw [ba_of h]
section
variable {L : List T5.Nd} {B : Nat} {a : Option Addr} {len cap : Nat}
set_option maxRecDepth 100000 in
set_option maxHeartbeats 2000000 in
theorem held_any (K : Cst L B a len) (N : Bnd L) {f : Nat} (hE : RE L B a len cap f) {n : Nat} (hf : n < f) (hn : n < len) (hex : T5.isEx (T5.kd L (n : Nat)) = true) {t : Nat} (ht : t ≤ 7) {w : World} (hL : T5.NAt B w a L) (hB : B ≤ w.heap.size) :
    Calls Tryz.prog 81 #[.slice a len cap, .int .i64 (n : Nat), .int .i64 (t : Nat)] w fun e w' => e = .returned (.string ⟨(hN L n t).toArray⟩) ∧ Fr [] w w' := by
  have hln := K.ln
  obtain ⟨x, hx⟩ : ∃ x, L[n]? = some x := ⟨_, List.getElem?_eq_getElem (by omega)⟩
  obtain ⟨b, o, rfl, hb, c0, c1, c2, c3⟩ := NAt.cells hL hx
  have hnI : (n : Int) < len := by omega
  have hlm : (len : Int) ≤ 50000 := by have := K.few; omega
  have et : (if x.kind = 19 then opT x.text.data.toList else if x.kind = 18 then 6 else 7 : Nat) = tightN x := rfl
  have eg := tg_eq hx
  have CT := strength_any x.kind x.text (.slice x.a x.ks.length x.c) x.pl w
  rw [et] at CT
  have hEl := N.e n (by omega)
  have CE := fun w1 (f1 : Fr [] w w1) => hE n w1 hf hn hex (hL.fr f1 (by simp)) (Nat.le_trans hB f1.size)
  have htl := tightN_le x
  generalize tightN x = tn at *
  by_cases hc : tn < t
  · have HH : Hid (hN L n t = 40 :: (eN L n ++ [41])) := by unfold Hid hN heldB; rw [eg, if_pos hc]
    have hcI : (tn : Int) < t := by omega
    generalize eN L n = S at *
    have q1 : ¬ 9223372036854775807 < 1 + S.length := by omega
    have q2 : ¬ 9223372036854775807 < 1 + S.length + 1 := by omega
    clear hx hL hE K N
    go_enter Tryz.func81, Tryz.ntmps81
    go_wp2_with fail
    refine CT.mono ?_
    rintro e w1 ⟨rfl, f1⟩
    have C2 := CE w1 f1
    clear CT CE
    go_wp2_with fail
    refine C2.mono ?_
    rintro e w2 ⟨rfl, f2⟩
    go_wp2
    go_ret
    exact ⟨by rw [HH.out]; exact strE (by simp [data_app]), f1.trans f2⟩
  · have HH : Hid (hN L n t = eN L n) := by unfold Hid hN heldB; rw [eg, if_neg hc]
    have hcI : ¬ ((tn : Int) < t) := by omega
    clear hx hL hE K N
    go_enter Tryz.func81, Tryz.ntmps81
    go_wp2_with fail
    refine CT.mono ?_
    rintro e w1 ⟨rfl, f1⟩
    have C2 := CE w1 f1
    clear CT CE
    go_wp2_with fail
    refine C2.mono ?_
    rintro e w2 ⟨rfl, f2⟩
    go_wp2
    go_ret
    exact ⟨by rw [HH.out]; rfl, f1.trans f2⟩
set_option maxRecDepth 100000 in
set_option maxHeartbeats 2000000 in
theorem list_any (K : Cst L B a len) {f : Nat} (hE : RE L B a len cap f) (ks : List Int) (hks : ∀ k ∈ ks, 0 ≤ k ∧ k.toNat < f ∧ k.toNat < len ∧ T5.isEx (T5.kd L k) = true) {xa : Option Addr} {xc : Nat} {w : World} (hka : T5.KAt B w xa ks) (hkc : ks.length ≤ xc) (hkn : ks.length ≤ 100000) (hL : T5.NAt B w a L) (hB : B ≤ w.heap.size) (hl : (joinC (ks.map (eN L))).length ≤ 100000000000) :
    Calls Tryz.prog 30 #[.slice a len cap, .slice xa ks.length xc] w fun e w' => e = .returned (.string ⟨(joinC (ks.map (eN L))).toArray⟩) ∧ Fr [] w w' := by
  have HKS : Hid (∀ k ∈ ks, 0 ≤ k ∧ k.toNat < f ∧ k.toNat < len ∧ T5.isEx (T5.kd L k) = true) := hks
  have HKA : Hid (T5.KAt B w xa ks) := hka
  have HLN : Hid ((joinC (ks.map (eN L))).length ≤ 100000000000) := hl
  have HE : Hid (RE L B a len cap f) := hE
  have hknI : (ks.length : Int) ≤ 100000 := by omega
  have hkcI : (ks.length : Int) ≤ xc := by omega
  have HB : Hid (B ≤ w.heap.size) := hB
  clear hks hka hl hE K hB
  go_enter Tryz.func30, Tryz.ntmps30
  go_wp2
  go_loopw [5, 10] (fun sv iv wr => ∃ (q : Nat) (A : List UInt8), q ≤ ks.length ∧ iv = .int .i64 (q : Nat) ∧ sv = .string ⟨A.toArray⟩ ∧ Fr [] w wr ∧ Hid (A = joinC ((ks.take q).map (eN L)))) (fun _ iv _ => ks.length - (intOf iv).toNat)
  case atStart => exact ⟨0, [], Nat.zero_le _, rfl, rfl, Fr.refl _ _, by unfold Hid; simp [joinC]⟩
  case round =>
    obtain ⟨q, A, hq, rfl, rfl, fr, HA⟩ := hrel
    by_cases hlt : q < ks.length
    · obtain ⟨k, hk⟩ : ∃ k, ks[q]? = some k := ⟨_, List.getElem?_eq_getElem hlt⟩
      obtain ⟨kb, ko, rfl, hkb, kc0⟩ := HKA.out q k hk
      have kc := fr.cell1 kc0 (by simp)
      obtain ⟨hk0, hk1, hk2, hkx⟩ := HKS.out k (List.mem_of_getElem? hk)
      have HJ : Hid (joinC ((ks.take (q + 1)).map (eN L)) = joinC ((ks.take q).map (eN L)) ++ ((if q = 0 then [] else [44, 32]) ++ eN L k)) := join_next (eN L) hk
      have HTK2 := map_take_len (eN L) ks (q + 1)
      rw [HJ.out, ← HA.out] at HTK2
      simp only [List.length_append] at HTK2
      have hln := HLN.out
      have ek : ((k.toNat : Nat) : Int) = k := by omega
      have CE := HE.out k.toNat wr hk1 hk2 (by rw [ek]; exact hkx) (hL.fr fr (by simp)) (Nat.le_trans HB.out fr.size)
      rw [ek] at CE
      generalize eN L k = S at *
      have hltI : (q : Int) < ks.length := by omega
      have HX : Hid (q < ks.length) := hlt
      clear kc0 hlt hk
      by_cases hq0 : q = 0
      · subst hq0
        simp only [Nat.add_zero] at kc
        have q1 : ¬ 9223372036854775807 < A.length + S.length := by simp at HTK2; omega
        clear HTK2 hln
        go_wp2_with fail
        refine CE.mono ?_
        rintro e w2 ⟨rfl, f2⟩
        clear CE
        go_wp2
        go_roundw
        case rel => exact ⟨1, A ++ S, HX.out, rfl, by rw [← ba_app], fr.trans f2, by unfold Hid; rw [HJ.out, HA.out]; simp⟩
        case measure => have := HX.out; simp [intOf]; omega
      · have hq1 : (0 : Int) < q := by omega
        have HQ0 : Hid (¬ q = 0) := hq0
        rw [if_neg hq0] at HTK2
        have q0 : ¬ 9223372036854775807 < A.length + 2 := by simp at HTK2; omega
        have q1 : ¬ 9223372036854775807 < A.length + 2 + S.length := by simp at HTK2; omega
        clear HTK2 hln hq0
        go_wp2_with fail
        refine CE.mono ?_
        rintro e w2 ⟨rfl, f2⟩
        clear CE
        go_wp2
        go_roundw
        case rel => exact ⟨q + 1, A ++ ([44, 32] ++ S), HX.out, by go_num, by rw [← List.append_assoc, ← ba_app, ← ba_app], fr.trans f2, by unfold Hid; rw [HJ.out, HA.out, if_neg HQ0.out]⟩
        case measure => have := HX.out; simp [intOf]; omega
    · have hqe : q = ks.length := by omega
      have hlt' : ¬ ((q : Int) < ks.length) := by omega
      have HF : Hid (A = joinC (ks.map (eN L))) := by unfold Hid; rw [HA.out, hqe, List.take_length]
      clear hqe
      go_wp2
      go_ret
      exact ⟨by rw [← HF.out]; rfl, fr⟩
end
end Go.Proofs.YtnebhkglpggnlaaGreatDoor
namespace Go.Proofs.YtnebhkglpggnlaaGreatDoor
open Go.RowKit
set_option linter.unusedVariables false
set_option linter.unusedSimpArgs false

section
variable {L : List T5.Nd} {B : Nat} {a : Option Addr} {len cap : Nat}
theorem ind_step (ab : Nat) : (⟨(ind (ab + 1)).toArray⟩ : ByteArray) = ⟨(ind ab).toArray⟩ ++ ⟨#[32, 32, 32, 32]⟩ := by
  have e : ind (ab + 1) = ind ab ++ [32, 32, 32, 32] := by
    unfold ind
    rw [show 4 * (ab + 1) = 4 * ab + 4 by omega, ← List.replicate_append_replicate]
    rfl
  rw [e, ← ba_app]
/-- What is said of blocks ahead of f, so far in. -/
def RBlo (L : List T5.Nd) (B : Nat) (a : Option Addr) (len cap ab f : Nat) : Prop := ∀ (n : Nat) (w : World), n < f → n < len → ab + n ≤ 50001 → T5.kd L (n : Nat) = 4 → T5.NAt B w a L → B ≤ w.heap.size → Calls Tryz.prog 31 #[.slice a len cap, .int .i64 (n : Nat), .string ⟨(ind ab).toArray⟩] w fun e w' => e = .returned (.string ⟨(bN L ab n).toArray⟩) ∧ Fr [] w w'
set_option maxRecDepth 100000 in
set_option maxHeartbeats 2000000 in
theorem rexpr_15 (K : Cst L B a len) (N : Bnd L) {f : Nat} (hE : RE L B a len cap f) {n : Nat} {x : T5.Nd} (hx : L[n]? = some x) (hk : x.kind = 15) (hf : n ≤ f) {w : World} (hL : T5.NAt B w a L) (hB : B ≤ w.heap.size) :
    Calls Tryz.prog 63 #[.slice a len cap, .int .i64 (n : Nat)] w fun e w' => e = .returned (.string ⟨(eN L n).toArray⟩) ∧ Fr [] w w' := by
  skip
  have hn : n < L.length := (List.getElem?_eq_some_iff.1 hx).1
  have hln := K.ln
  have hlm : (len : Int) ≤ 50000 := by have := K.few; omega
  have hnI : (n : Int) < len := by omega
  have HE : Hid (eN L n = x.text.data.toList) := by unfold Hid; rw [eN_eq K.shp.kids (k := n) (by simpa using hx)]; simp [exprX, hk, atK, tx]
  have hsz : (x.text.data.toList : List UInt8).length ≤ 100000000000 := by have := N.e n hn; rw [HE.out] at this; exact this
  try simp only [List.length_append, List.length_cons, List.length_nil] at hsz
  have hxs : x.text.data.toList.length = x.text.size := (Lib.size_eq _).symm
  try rw [hxs] at hsz
  obtain ⟨b, o, rfl, hb, NC⟩ := hL n x hx
  have n0 := NC.c0
  have n1 := NC.c1
  have n2 := NC.c2
  have n3 := NC.c3
  clear NC hE K N hx
  obtain ⟨xk, xt, xa, xc, xks, xp⟩ := x
  simp only at *
  subst hk
  clear hsz hxs
  have f1 : Fr [] w (w.alloc (.cells #[.int .i64 15, .string xt, .slice xa xks.length xc, .int .i64 xp] 36)) := (Fr.refl _ _).alloc _
  have b1 := heap_alloc_new w (.cells #[.int .i64 15, .string xt, .slice xa xks.length xc, .int .i64 xp] 36)
  go_enter Tryz.func63, Tryz.ntmps63
  go_wp2
  go_ret
  exact ⟨by rw [HE.out]; exact strE rfl, f1⟩
set_option maxRecDepth 100000 in
set_option maxHeartbeats 2000000 in
theorem rexpr_17 (K : Cst L B a len) (N : Bnd L) {f : Nat} (hE : RE L B a len cap f) {n : Nat} {x : T5.Nd} (hx : L[n]? = some x) (hk : x.kind = 17) (hf : n ≤ f) {w : World} (hL : T5.NAt B w a L) (hB : B ≤ w.heap.size) :
    Calls Tryz.prog 63 #[.slice a len cap, .int .i64 (n : Nat)] w fun e w' => e = .returned (.string ⟨(eN L n).toArray⟩) ∧ Fr [] w w' := by
  skip
  have hn : n < L.length := (List.getElem?_eq_some_iff.1 hx).1
  have hln := K.ln
  have hlm : (len : Int) ≤ 50000 := by have := K.few; omega
  have hnI : (n : Int) < len := by omega
  have HE : Hid (eN L n = x.text.data.toList) := by unfold Hid; rw [eN_eq K.shp.kids (k := n) (by simpa using hx)]; simp [exprX, hk, atK, tx]
  have hsz : (x.text.data.toList : List UInt8).length ≤ 100000000000 := by have := N.e n hn; rw [HE.out] at this; exact this
  try simp only [List.length_append, List.length_cons, List.length_nil] at hsz
  have hxs : x.text.data.toList.length = x.text.size := (Lib.size_eq _).symm
  try rw [hxs] at hsz
  obtain ⟨b, o, rfl, hb, NC⟩ := hL n x hx
  have n0 := NC.c0
  have n1 := NC.c1
  have n2 := NC.c2
  have n3 := NC.c3
  clear NC hE K N hx
  obtain ⟨xk, xt, xa, xc, xks, xp⟩ := x
  simp only at *
  subst hk
  clear hsz hxs
  have f1 : Fr [] w (w.alloc (.cells #[.int .i64 17, .string xt, .slice xa xks.length xc, .int .i64 xp] 36)) := (Fr.refl _ _).alloc _
  have b1 := heap_alloc_new w (.cells #[.int .i64 17, .string xt, .slice xa xks.length xc, .int .i64 xp] 36)
  go_enter Tryz.func63, Tryz.ntmps63
  go_wp2
  go_ret
  exact ⟨by rw [HE.out]; exact strE rfl, f1⟩
set_option maxRecDepth 100000 in
set_option maxHeartbeats 2000000 in
theorem rexpr_16 (K : Cst L B a len) (N : Bnd L) {f : Nat} (hE : RE L B a len cap f) {n : Nat} {x : T5.Nd} (hx : L[n]? = some x) (hk : x.kind = 16) (hf : n ≤ f) {w : World} (hL : T5.NAt B w a L) (hB : B ≤ w.heap.size) :
    Calls Tryz.prog 63 #[.slice a len cap, .int .i64 (n : Nat)] w fun e w' => e = .returned (.string ⟨(eN L n).toArray⟩) ∧ Fr [] w w' := by
  skip
  have hn : n < L.length := (List.getElem?_eq_some_iff.1 hx).1
  have hln := K.ln
  have hlm : (len : Int) ≤ 50000 := by have := K.few; omega
  have hnI : (n : Int) < len := by omega
  have HE : Hid (eN L n = [110, 117, 108, 108]) := by unfold Hid; rw [eN_eq K.shp.kids (k := n) (by simpa using hx)]; simp [exprX, hk, atK, tx, wordB]
  have hsz : ([110, 117, 108, 108] : List UInt8).length ≤ 100000000000 := by have := N.e n hn; rw [HE.out] at this; exact this
  try simp only [List.length_append, List.length_cons, List.length_nil] at hsz
  have hxs : x.text.data.toList.length = x.text.size := (Lib.size_eq _).symm
  try rw [hxs] at hsz
  obtain ⟨b, o, rfl, hb, NC⟩ := hL n x hx
  have n0 := NC.c0
  have n1 := NC.c1
  have n2 := NC.c2
  have n3 := NC.c3
  clear NC hE K N hx
  obtain ⟨xk, xt, xa, xc, xks, xp⟩ := x
  simp only at *
  subst hk
  clear hsz hxs
  have f1 : Fr [] w (w.alloc (.cells #[.int .i64 16, .string xt, .slice xa xks.length xc, .int .i64 xp] 36)) := (Fr.refl _ _).alloc _
  have b1 := heap_alloc_new w (.cells #[.int .i64 16, .string xt, .slice xa xks.length xc, .int .i64 xp] 36)
  go_enter Tryz.func63, Tryz.ntmps63
  go_wp2
  go_ret
  exact ⟨by rw [HE.out]; exact strE (by simp [data_app]), f1⟩
set_option maxRecDepth 100000 in
set_option maxHeartbeats 2000000 in
theorem rexpr_30 (K : Cst L B a len) (N : Bnd L) {f : Nat} (hE : RE L B a len cap f) {n : Nat} {x : T5.Nd} (hx : L[n]? = some x) (hk : x.kind = 30) (hf : n ≤ f) {w : World} (hL : T5.NAt B w a L) (hB : B ≤ w.heap.size) :
    Calls Tryz.prog 63 #[.slice a len cap, .int .i64 (n : Nat)] w fun e w' => e = .returned (.string ⟨(eN L n).toArray⟩) ∧ Fr [] w w' := by
  skip
  have hn : n < L.length := (List.getElem?_eq_some_iff.1 hx).1
  have hln := K.ln
  have hlm : (len : Int) ≤ 50000 := by have := K.few; omega
  have hnI : (n : Int) < len := by omega
  have HE : Hid (eN L n = [114, 111, 111, 116]) := by unfold Hid; rw [eN_eq K.shp.kids (k := n) (by simpa using hx)]; simp [exprX, hk, atK, tx, wordB]
  have hsz : ([114, 111, 111, 116] : List UInt8).length ≤ 100000000000 := by have := N.e n hn; rw [HE.out] at this; exact this
  try simp only [List.length_append, List.length_cons, List.length_nil] at hsz
  have hxs : x.text.data.toList.length = x.text.size := (Lib.size_eq _).symm
  try rw [hxs] at hsz
  obtain ⟨b, o, rfl, hb, NC⟩ := hL n x hx
  have n0 := NC.c0
  have n1 := NC.c1
  have n2 := NC.c2
  have n3 := NC.c3
  clear NC hE K N hx
  obtain ⟨xk, xt, xa, xc, xks, xp⟩ := x
  simp only at *
  subst hk
  clear hsz hxs
  have f1 : Fr [] w (w.alloc (.cells #[.int .i64 30, .string xt, .slice xa xks.length xc, .int .i64 xp] 36)) := (Fr.refl _ _).alloc _
  have b1 := heap_alloc_new w (.cells #[.int .i64 30, .string xt, .slice xa xks.length xc, .int .i64 xp] 36)
  go_enter Tryz.func63, Tryz.ntmps63
  go_wp2
  go_ret
  exact ⟨by rw [HE.out]; exact strE (by simp [data_app]), f1⟩
set_option maxRecDepth 100000 in
set_option maxHeartbeats 2000000 in
theorem rexpr_26 (K : Cst L B a len) (N : Bnd L) {f : Nat} (hE : RE L B a len cap f) {n : Nat} {x : T5.Nd} (hx : L[n]? = some x) (hk : x.kind = 26) (hf : n ≤ f) {w : World} (hL : T5.NAt B w a L) (hB : B ≤ w.heap.size) :
    Calls Tryz.prog 63 #[.slice a len cap, .int .i64 (n : Nat)] w fun e w' => e = .returned (.string ⟨(eN L n).toArray⟩) ∧ Fr [] w w' := by
  have hks := K.shp.nil hx (by simp [hk])
  have hn : n < L.length := (List.getElem?_eq_some_iff.1 hx).1
  have hln := K.ln
  have hlm : (len : Int) ≤ 50000 := by have := K.few; omega
  have hnI : (n : Int) < len := by omega
  have HE : Hid (eN L n = [105, 110, 40, 41]) := by unfold Hid; rw [eN_eq K.shp.kids (k := n) (by simpa using hx)]; simp [exprX, hk, hks, atK, tx, wordB, joinC]
  have hsz : ([105, 110, 40, 41] : List UInt8).length ≤ 100000000000 := by have := N.e n hn; rw [HE.out] at this; exact this
  try simp only [List.length_append, List.length_cons, List.length_nil] at hsz
  have hxs : x.text.data.toList.length = x.text.size := (Lib.size_eq _).symm
  try rw [hxs] at hsz
  obtain ⟨b, o, rfl, hb, NC⟩ := hL n x hx
  have n0 := NC.c0
  have n1 := NC.c1
  have n2 := NC.c2
  have n3 := NC.c3
  clear NC hE K N hx
  obtain ⟨xk, xt, xa, xc, xks, xp⟩ := x
  simp only at *
  subst hk
  subst hks
  simp only [List.length_nil] at n2
  clear hsz hxs
  have f1 : Fr [] w (w.alloc (.cells #[.int .i64 26, .string xt, .slice xa 0 xc, .int .i64 xp] 36)) := (Fr.refl _ _).alloc _
  have b1 := heap_alloc_new w (.cells #[.int .i64 26, .string xt, .slice xa 0 xc, .int .i64 xp] 36)
  go_enter Tryz.func63, Tryz.ntmps63
  go_wp2
  go_ret
  exact ⟨by rw [HE.out]; exact strE (by simp [data_app]), f1⟩
set_option maxRecDepth 100000 in
set_option maxHeartbeats 2000000 in
theorem rexpr_28 (K : Cst L B a len) (N : Bnd L) {f : Nat} (hE : RE L B a len cap f) {n : Nat} {x : T5.Nd} (hx : L[n]? = some x) (hk : x.kind = 28) (hf : n ≤ f) {w : World} (hL : T5.NAt B w a L) (hB : B ≤ w.heap.size) :
    Calls Tryz.prog 63 #[.slice a len cap, .int .i64 (n : Nat)] w fun e w' => e = .returned (.string ⟨(eN L n).toArray⟩) ∧ Fr [] w w' := by
  have hks := K.shp.nil hx (by simp [hk])
  have hn : n < L.length := (List.getElem?_eq_some_iff.1 hx).1
  have hln := K.ln
  have hlm : (len : Int) ≤ 50000 := by have := K.few; omega
  have hnI : (n : Int) < len := by omega
  have HE : Hid (eN L n = [115, 105, 122, 101, 40, 41]) := by unfold Hid; rw [eN_eq K.shp.kids (k := n) (by simpa using hx)]; simp [exprX, hk, hks, atK, tx, wordB, joinC]
  have hsz : ([115, 105, 122, 101, 40, 41] : List UInt8).length ≤ 100000000000 := by have := N.e n hn; rw [HE.out] at this; exact this
  try simp only [List.length_append, List.length_cons, List.length_nil] at hsz
  have hxs : x.text.data.toList.length = x.text.size := (Lib.size_eq _).symm
  try rw [hxs] at hsz
  obtain ⟨b, o, rfl, hb, NC⟩ := hL n x hx
  have n0 := NC.c0
  have n1 := NC.c1
  have n2 := NC.c2
  have n3 := NC.c3
  clear NC hE K N hx
  obtain ⟨xk, xt, xa, xc, xks, xp⟩ := x
  simp only at *
  subst hk
  subst hks
  simp only [List.length_nil] at n2
  clear hsz hxs
  have f1 : Fr [] w (w.alloc (.cells #[.int .i64 28, .string xt, .slice xa 0 xc, .int .i64 xp] 36)) := (Fr.refl _ _).alloc _
  have b1 := heap_alloc_new w (.cells #[.int .i64 28, .string xt, .slice xa 0 xc, .int .i64 xp] 36)
  go_enter Tryz.func63, Tryz.ntmps63
  go_wp2
  go_ret
  exact ⟨by rw [HE.out]; exact strE (by simp [data_app]), f1⟩
set_option maxRecDepth 100000 in
set_option maxHeartbeats 2000000 in
theorem rexpr_23 (K : Cst L B a len) (N : Bnd L) {f : Nat} (hE : RE L B a len cap f) {n : Nat} {x : T5.Nd} (hx : L[n]? = some x) (hk : x.kind = 23) (hf : n ≤ f) {w : World} (hL : T5.NAt B w a L) (hB : B ≤ w.heap.size) :
    Calls Tryz.prog 63 #[.slice a len cap, .int .i64 (n : Nat)] w fun e w' => e = .returned (.string ⟨(eN L n).toArray⟩) ∧ Fr [] w w' := by
  skip
  have hn : n < L.length := (List.getElem?_eq_some_iff.1 hx).1
  have hln := K.ln
  have hlm : (len : Int) ≤ 50000 := by have := K.few; omega
  have hnI : (n : Int) < len := by omega
  have HE : Hid (eN L n = [110, 101, 119, 32] ++ (x.text.data.toList)) := by unfold Hid; rw [eN_eq K.shp.kids (k := n) (by simpa using hx)]; simp [exprX, hk, atK, tx]
  have hsz : ([110, 101, 119, 32] ++ (x.text.data.toList) : List UInt8).length ≤ 100000000000 := by have := N.e n hn; rw [HE.out] at this; exact this
  try simp only [List.length_append, List.length_cons, List.length_nil] at hsz
  have hxs : x.text.data.toList.length = x.text.size := (Lib.size_eq _).symm
  try rw [hxs] at hsz
  obtain ⟨b, o, rfl, hb, NC⟩ := hL n x hx
  have n0 := NC.c0
  have n1 := NC.c1
  have n2 := NC.c2
  have n3 := NC.c3
  clear NC hE K N hx
  obtain ⟨xk, xt, xa, xc, xks, xp⟩ := x
  simp only at *
  subst hk
  have q1 : ¬ 9223372036854775807 < 4 + xt.size := by omega
  clear hsz hxs
  have f1 : Fr [] w (w.alloc (.cells #[.int .i64 23, .string xt, .slice xa xks.length xc, .int .i64 xp] 36)) := (Fr.refl _ _).alloc _
  have b1 := heap_alloc_new w (.cells #[.int .i64 23, .string xt, .slice xa xks.length xc, .int .i64 xp] 36)
  go_enter Tryz.func63, Tryz.ntmps63
  go_wp2
  go_ret
  exact ⟨by rw [HE.out]; exact strE (by simp [data_app]), f1⟩
end
end Go.Proofs.YtnebhkglpggnlaaGreatDoor
namespace Go.Proofs.YtnebhkglpggnlaaGreatDoor
open Go.RowKit
set_option linter.unusedVariables false
set_option linter.unusedSimpArgs false

section
variable {L : List T5.Nd} {B : Nat} {a : Option Addr} {len cap : Nat}
set_option maxRecDepth 100000 in
set_option maxHeartbeats 2000000 in
theorem rexpr_24 (K : Cst L B a len) (N : Bnd L) {f : Nat} (hE : RE L B a len cap f) {n : Nat} {x : T5.Nd} (hx : L[n]? = some x) (hk : x.kind = 24) (hf : n ≤ f) {w : World} (hL : T5.NAt B w a L) (hB : B ≤ w.heap.size) :
    Calls Tryz.prog 63 #[.slice a len cap, .int .i64 (n : Nat)] w fun e w' => e = .returned (.string ⟨(eN L n).toArray⟩) ∧ Fr [] w w' := by
  obtain ⟨k0, hks, hex0⟩ := K.shp.one hx (by simp [hk])
  obtain ⟨hk0a, hk0b⟩ := K.shp.kids n x hx k0 (by simp [hks])
  have ek0 : ((k0.toNat : Nat) : Int) = k0 := by omega
  have hn : n < L.length := (List.getElem?_eq_some_iff.1 hx).1
  have hln := K.ln
  have hlm : (len : Int) ≤ 50000 := by have := K.few; omega
  have hnI : (n : Int) < len := by omega
  have HE : Hid (eN L n = [97, 114, 114, 40] ++ (eN L k0 ++ ([41]))) := by unfold Hid; rw [eN_eq K.shp.kids (k := n) (by simpa using hx)]; simp [exprX, hk, hks, atK, tx, wordB, joinC]
  have hsz : ([97, 114, 114, 40] ++ (eN L k0 ++ ([41])) : List UInt8).length ≤ 100000000000 := by have := N.e n hn; rw [HE.out] at this; exact this
  try simp only [List.length_append, List.length_cons, List.length_nil] at hsz
  have hxs : x.text.data.toList.length = x.text.size := (Lib.size_eq _).symm
  try rw [hxs] at hsz
  obtain ⟨b, o, rfl, hb, NC⟩ := hL n x hx
  have n0 := NC.c0
  have n1 := NC.c1
  have n2 := NC.c2
  have n3 := NC.c3
  obtain ⟨kb, ko, hxa, hkb, kc0⟩ := NC.k 0 k0 (by simp [hks])
  have C1 := fun w' (f' : Fr [] w w') => hE k0.toNat w' (by omega) (by omega) (by rw [ek0]; exact hex0) (hL.fr f' (by simp)) (Nat.le_trans hB f'.size)
  simp only [ek0] at C1
  clear NC hE K N hx
  obtain ⟨xk, xt, xa, xc, xks, xp⟩ := x
  simp only at *
  subst hk
  subst hks hxa
  simp only [List.length_cons, List.length_nil, Nat.zero_add] at n2
  generalize eN L k0 = S1 at *
  have q1 : ¬ 9223372036854775807 < 4 + S1.length := by omega
  have q2 : ¬ 9223372036854775807 < 4 + S1.length + 1 := by omega
  clear hsz hxs
  have f1 : Fr [] w (w.alloc (.cells #[.int .i64 24, .string xt, .slice (some ⟨kb, ko, none⟩) 1 xc, .int .i64 xp] 36)) := (Fr.refl _ _).alloc _
  have b1 := heap_alloc_new w (.cells #[.int .i64 24, .string xt, .slice (some ⟨kb, ko, none⟩) 1 xc, .int .i64 xp] 36)
  have kd0 := f1.cell1 kc0 (by simp)
  simp only [Nat.add_zero] at kd0
  go_enter Tryz.func63, Tryz.ntmps63
  have F0 := f1
  have D1 := C1 _ f1
  go_wp2_with fail
  refine D1.mono ?_
  rintro e w31 ⟨rfl, f31⟩
  have g31 := f1.trans f31
  go_wp2
  go_ret
  exact ⟨by rw [HE.out]; exact strE (by simp [data_app]), g31⟩
set_option maxRecDepth 100000 in
set_option maxHeartbeats 2000000 in
theorem rexpr_25 (K : Cst L B a len) (N : Bnd L) {f : Nat} (hE : RE L B a len cap f) {n : Nat} {x : T5.Nd} (hx : L[n]? = some x) (hk : x.kind = 25) (hf : n ≤ f) {w : World} (hL : T5.NAt B w a L) (hB : B ≤ w.heap.size) :
    Calls Tryz.prog 63 #[.slice a len cap, .int .i64 (n : Nat)] w fun e w' => e = .returned (.string ⟨(eN L n).toArray⟩) ∧ Fr [] w w' := by
  obtain ⟨k0, hks, hex0⟩ := K.shp.one hx (by simp [hk])
  obtain ⟨hk0a, hk0b⟩ := K.shp.kids n x hx k0 (by simp [hks])
  have ek0 : ((k0.toNat : Nat) : Int) = k0 := by omega
  have hn : n < L.length := (List.getElem?_eq_some_iff.1 hx).1
  have hln := K.ln
  have hlm : (len : Int) ≤ 50000 := by have := K.few; omega
  have hnI : (n : Int) < len := by omega
  have HE : Hid (eN L n = [108, 101, 110, 40] ++ (eN L k0 ++ ([41]))) := by unfold Hid; rw [eN_eq K.shp.kids (k := n) (by simpa using hx)]; simp [exprX, hk, hks, atK, tx, wordB, joinC]
  have hsz : ([108, 101, 110, 40] ++ (eN L k0 ++ ([41])) : List UInt8).length ≤ 100000000000 := by have := N.e n hn; rw [HE.out] at this; exact this
  try simp only [List.length_append, List.length_cons, List.length_nil] at hsz
  have hxs : x.text.data.toList.length = x.text.size := (Lib.size_eq _).symm
  try rw [hxs] at hsz
  obtain ⟨b, o, rfl, hb, NC⟩ := hL n x hx
  have n0 := NC.c0
  have n1 := NC.c1
  have n2 := NC.c2
  have n3 := NC.c3
  obtain ⟨kb, ko, hxa, hkb, kc0⟩ := NC.k 0 k0 (by simp [hks])
  have C1 := fun w' (f' : Fr [] w w') => hE k0.toNat w' (by omega) (by omega) (by rw [ek0]; exact hex0) (hL.fr f' (by simp)) (Nat.le_trans hB f'.size)
  simp only [ek0] at C1
  clear NC hE K N hx
  obtain ⟨xk, xt, xa, xc, xks, xp⟩ := x
  simp only at *
  subst hk
  subst hks hxa
  simp only [List.length_cons, List.length_nil, Nat.zero_add] at n2
  generalize eN L k0 = S1 at *
  have q1 : ¬ 9223372036854775807 < 4 + S1.length := by omega
  have q2 : ¬ 9223372036854775807 < 4 + S1.length + 1 := by omega
  clear hsz hxs
  have f1 : Fr [] w (w.alloc (.cells #[.int .i64 25, .string xt, .slice (some ⟨kb, ko, none⟩) 1 xc, .int .i64 xp] 36)) := (Fr.refl _ _).alloc _
  have b1 := heap_alloc_new w (.cells #[.int .i64 25, .string xt, .slice (some ⟨kb, ko, none⟩) 1 xc, .int .i64 xp] 36)
  have kd0 := f1.cell1 kc0 (by simp)
  simp only [Nat.add_zero] at kd0
  go_enter Tryz.func63, Tryz.ntmps63
  have F0 := f1
  have D1 := C1 _ f1
  go_wp2_with fail
  refine D1.mono ?_
  rintro e w31 ⟨rfl, f31⟩
  have g31 := f1.trans f31
  go_wp2
  go_ret
  exact ⟨by rw [HE.out]; exact strE (by simp [data_app]), g31⟩
set_option maxRecDepth 100000 in
set_option maxHeartbeats 2000000 in
theorem rexpr_27 (K : Cst L B a len) (N : Bnd L) {f : Nat} (hE : RE L B a len cap f) {n : Nat} {x : T5.Nd} (hx : L[n]? = some x) (hk : x.kind = 27) (hf : n ≤ f) {w : World} (hL : T5.NAt B w a L) (hB : B ≤ w.heap.size) :
    Calls Tryz.prog 63 #[.slice a len cap, .int .i64 (n : Nat)] w fun e w' => e = .returned (.string ⟨(eN L n).toArray⟩) ∧ Fr [] w w' := by
  obtain ⟨k0, hks, hex0⟩ := K.shp.one hx (by simp [hk])
  obtain ⟨hk0a, hk0b⟩ := K.shp.kids n x hx k0 (by simp [hks])
  have ek0 : ((k0.toNat : Nat) : Int) = k0 := by omega
  have hn : n < L.length := (List.getElem?_eq_some_iff.1 hx).1
  have hln := K.ln
  have hlm : (len : Int) ≤ 50000 := by have := K.few; omega
  have hnI : (n : Int) < len := by omega
  have HE : Hid (eN L n = [105, 109, 103, 40] ++ (eN L k0 ++ ([41]))) := by unfold Hid; rw [eN_eq K.shp.kids (k := n) (by simpa using hx)]; simp [exprX, hk, hks, atK, tx, wordB, joinC]
  have hsz : ([105, 109, 103, 40] ++ (eN L k0 ++ ([41])) : List UInt8).length ≤ 100000000000 := by have := N.e n hn; rw [HE.out] at this; exact this
  try simp only [List.length_append, List.length_cons, List.length_nil] at hsz
  have hxs : x.text.data.toList.length = x.text.size := (Lib.size_eq _).symm
  try rw [hxs] at hsz
  obtain ⟨b, o, rfl, hb, NC⟩ := hL n x hx
  have n0 := NC.c0
  have n1 := NC.c1
  have n2 := NC.c2
  have n3 := NC.c3
  obtain ⟨kb, ko, hxa, hkb, kc0⟩ := NC.k 0 k0 (by simp [hks])
  have C1 := fun w' (f' : Fr [] w w') => hE k0.toNat w' (by omega) (by omega) (by rw [ek0]; exact hex0) (hL.fr f' (by simp)) (Nat.le_trans hB f'.size)
  simp only [ek0] at C1
  clear NC hE K N hx
  obtain ⟨xk, xt, xa, xc, xks, xp⟩ := x
  simp only at *
  subst hk
  subst hks hxa
  simp only [List.length_cons, List.length_nil, Nat.zero_add] at n2
  generalize eN L k0 = S1 at *
  have q1 : ¬ 9223372036854775807 < 4 + S1.length := by omega
  have q2 : ¬ 9223372036854775807 < 4 + S1.length + 1 := by omega
  clear hsz hxs
  have f1 : Fr [] w (w.alloc (.cells #[.int .i64 27, .string xt, .slice (some ⟨kb, ko, none⟩) 1 xc, .int .i64 xp] 36)) := (Fr.refl _ _).alloc _
  have b1 := heap_alloc_new w (.cells #[.int .i64 27, .string xt, .slice (some ⟨kb, ko, none⟩) 1 xc, .int .i64 xp] 36)
  have kd0 := f1.cell1 kc0 (by simp)
  simp only [Nat.add_zero] at kd0
  go_enter Tryz.func63, Tryz.ntmps63
  have F0 := f1
  have D1 := C1 _ f1
  go_wp2_with fail
  refine D1.mono ?_
  rintro e w31 ⟨rfl, f31⟩
  have g31 := f1.trans f31
  go_wp2
  go_ret
  exact ⟨by rw [HE.out]; exact strE (by simp [data_app]), g31⟩
set_option maxRecDepth 100000 in
set_option maxHeartbeats 2000000 in
theorem rexpr_29 (K : Cst L B a len) (N : Bnd L) {f : Nat} (hE : RE L B a len cap f) {n : Nat} {x : T5.Nd} (hx : L[n]? = some x) (hk : x.kind = 29) (hf : n ≤ f) {w : World} (hL : T5.NAt B w a L) (hB : B ≤ w.heap.size) :
    Calls Tryz.prog 63 #[.slice a len cap, .int .i64 (n : Nat)] w fun e w' => e = .returned (.string ⟨(eN L n).toArray⟩) ∧ Fr [] w w' := by
  obtain ⟨k0, hks, hex0⟩ := K.shp.one hx (by simp [hk])
  obtain ⟨hk0a, hk0b⟩ := K.shp.kids n x hx k0 (by simp [hks])
  have ek0 : ((k0.toNat : Nat) : Int) = k0 := by omega
  have hn : n < L.length := (List.getElem?_eq_some_iff.1 hx).1
  have hln := K.ln
  have hlm : (len : Int) ≤ 50000 := by have := K.few; omega
  have hnI : (n : Int) < len := by omega
  have HE : Hid (eN L n = [112, 114, 111, 109, 111, 116, 101, 40] ++ (eN L k0 ++ ([41]))) := by unfold Hid; rw [eN_eq K.shp.kids (k := n) (by simpa using hx)]; simp [exprX, hk, hks, atK, tx, wordB, joinC]
  have hsz : ([112, 114, 111, 109, 111, 116, 101, 40] ++ (eN L k0 ++ ([41])) : List UInt8).length ≤ 100000000000 := by have := N.e n hn; rw [HE.out] at this; exact this
  try simp only [List.length_append, List.length_cons, List.length_nil] at hsz
  have hxs : x.text.data.toList.length = x.text.size := (Lib.size_eq _).symm
  try rw [hxs] at hsz
  obtain ⟨b, o, rfl, hb, NC⟩ := hL n x hx
  have n0 := NC.c0
  have n1 := NC.c1
  have n2 := NC.c2
  have n3 := NC.c3
  obtain ⟨kb, ko, hxa, hkb, kc0⟩ := NC.k 0 k0 (by simp [hks])
  have C1 := fun w' (f' : Fr [] w w') => hE k0.toNat w' (by omega) (by omega) (by rw [ek0]; exact hex0) (hL.fr f' (by simp)) (Nat.le_trans hB f'.size)
  simp only [ek0] at C1
  clear NC hE K N hx
  obtain ⟨xk, xt, xa, xc, xks, xp⟩ := x
  simp only at *
  subst hk
  subst hks hxa
  simp only [List.length_cons, List.length_nil, Nat.zero_add] at n2
  generalize eN L k0 = S1 at *
  have q1 : ¬ 9223372036854775807 < 8 + S1.length := by omega
  have q2 : ¬ 9223372036854775807 < 8 + S1.length + 1 := by omega
  clear hsz hxs
  have f1 : Fr [] w (w.alloc (.cells #[.int .i64 29, .string xt, .slice (some ⟨kb, ko, none⟩) 1 xc, .int .i64 xp] 36)) := (Fr.refl _ _).alloc _
  have b1 := heap_alloc_new w (.cells #[.int .i64 29, .string xt, .slice (some ⟨kb, ko, none⟩) 1 xc, .int .i64 xp] 36)
  have kd0 := f1.cell1 kc0 (by simp)
  simp only [Nat.add_zero] at kd0
  go_enter Tryz.func63, Tryz.ntmps63
  have F0 := f1
  have D1 := C1 _ f1
  go_wp2_with fail
  refine D1.mono ?_
  rintro e w31 ⟨rfl, f31⟩
  have g31 := f1.trans f31
  go_wp2
  go_ret
  exact ⟨by rw [HE.out]; exact strE (by simp [data_app]), g31⟩
end
end Go.Proofs.YtnebhkglpggnlaaGreatDoor
namespace Go.Proofs.YtnebhkglpggnlaaGreatDoor
open Go.RowKit
set_option linter.unusedVariables false
set_option linter.unusedSimpArgs false

section
variable {L : List T5.Nd} {B : Nat} {a : Option Addr} {len cap : Nat}
set_option maxRecDepth 100000 in
set_option maxHeartbeats 2000000 in
theorem rexpr_18 (K : Cst L B a len) (N : Bnd L) {f : Nat} (hE : RE L B a len cap f) {n : Nat} {x : T5.Nd} (hx : L[n]? = some x) (hk : x.kind = 18) (hf : n ≤ f) {w : World} (hL : T5.NAt B w a L) (hB : B ≤ w.heap.size) :
    Calls Tryz.prog 63 #[.slice a len cap, .int .i64 (n : Nat)] w fun e w' => e = .returned (.string ⟨(eN L n).toArray⟩) ∧ Fr [] w w' := by
  obtain ⟨k0, hks, hex0⟩ := K.shp.one hx (by simp [hk])
  obtain ⟨hk0a, hk0b⟩ := K.shp.kids n x hx k0 (by simp [hks])
  have ek0 : ((k0.toNat : Nat) : Int) = k0 := by omega
  have hn : n < L.length := (List.getElem?_eq_some_iff.1 hx).1
  have hln := K.ln
  have hlm : (len : Int) ≤ 50000 := by have := K.few; omega
  have hnI : (n : Int) < len := by omega
  have HE : Hid (eN L n = x.text.data.toList ++ (hN L k0 (6))) := by unfold Hid; rw [eN_eq K.shp.kids (k := n) (by simpa using hx)]; simp [exprX, hk, hks, atK, tx]
  have hsz : (x.text.data.toList ++ (hN L k0 (6)) : List UInt8).length ≤ 100000000000 := by have := N.e n hn; rw [HE.out] at this; exact this
  try simp only [List.length_append, List.length_cons, List.length_nil] at hsz
  have hxs : x.text.data.toList.length = x.text.size := (Lib.size_eq _).symm
  try rw [hxs] at hsz
  obtain ⟨b, o, rfl, hb, NC⟩ := hL n x hx
  have n0 := NC.c0
  have n1 := NC.c1
  have n2 := NC.c2
  have n3 := NC.c3
  obtain ⟨kb, ko, hxa, hkb, kc0⟩ := NC.k 0 k0 (by simp [hks])
  have C1 := fun w' (f' : Fr [] w w') => held_any K N hE (n := k0.toNat) (by omega) (by omega) (by rw [ek0]; exact hex0) (t := 6) (by omega) (hL.fr f' (by simp)) (Nat.le_trans hB f'.size)
  simp only [ek0] at C1
  clear NC hE K N hx
  obtain ⟨xk, xt, xa, xc, xks, xp⟩ := x
  simp only at *
  subst hk
  subst hks hxa
  simp only [List.length_cons, List.length_nil, Nat.zero_add] at n2
  generalize hN L k0 (6) = S1 at *
  have q1 : ¬ 9223372036854775807 < xt.size + S1.length := by omega
  clear hsz hxs
  have f1 : Fr [] w (w.alloc (.cells #[.int .i64 18, .string xt, .slice (some ⟨kb, ko, none⟩) 1 xc, .int .i64 xp] 36)) := (Fr.refl _ _).alloc _
  have b1 := heap_alloc_new w (.cells #[.int .i64 18, .string xt, .slice (some ⟨kb, ko, none⟩) 1 xc, .int .i64 xp] 36)
  have kd0 := f1.cell1 kc0 (by simp)
  simp only [Nat.add_zero] at kd0
  go_enter Tryz.func63, Tryz.ntmps63
  go_wp2
  generalize w.alloc (.cells #[.int .i64 18, .string xt, .slice (some ⟨kb, ko, none⟩) 1 xc, .int .i64 xp] 36) = w1 at *
  generalize w.heap.size = g at *
  have s1 : ∀ w', Fr [] w1 w' → w'.cell? ⟨g, 1, none⟩ = _ := fun w' f => f.cell1 (at_cells b1 1 rfl) (by simp)
  have s2 : ∀ w', Fr [] w1 w' → w'.cell? ⟨g, 2, none⟩ = _ := fun w' f => f.cell1 (at_cells b1 2 rfl) (by simp)
  have r0 : ∀ w', Fr [] w1 w' → w'.cell? ⟨kb, ko, none⟩ = _ := fun w' f => f.cell1 kd0 (by simp)
  have fA : Fr [] w1 w1 := Fr.refl _ _
  go_region_held3 (fun w' => Fr [] w1 w') (with_reducible (first | assumption | (refine Fr.drew ?_; assumption)))
    (first
      | (go_at_call 81; refine (C1 _ (f1.trans (by first | assumption | exact Fr.drew (Fr.refl _ _)))).mono ?_; rintro e w31 ⟨rfl, f31⟩; have g31 : Fr [] w1 w31 := (by first | assumption | exact Fr.drew (Fr.refl _ _) : Fr [] w1 _).trans f31))
  all_goals (go_wp2; go_ret; exact ⟨by rw [HE.out]; exact strE (by simp [data_app]), f1.trans (by assumption)⟩)
set_option maxRecDepth 100000 in
set_option maxHeartbeats 2000000 in
theorem rexpr_20 (K : Cst L B a len) (N : Bnd L) {f : Nat} (hE : RE L B a len cap f) {n : Nat} {x : T5.Nd} (hx : L[n]? = some x) (hk : x.kind = 20) (hf : n ≤ f) {w : World} (hL : T5.NAt B w a L) (hB : B ≤ w.heap.size) :
    Calls Tryz.prog 63 #[.slice a len cap, .int .i64 (n : Nat)] w fun e w' => e = .returned (.string ⟨(eN L n).toArray⟩) ∧ Fr [] w w' := by
  obtain ⟨k0, hks, hex0⟩ := K.shp.one hx (by simp [hk])
  obtain ⟨hk0a, hk0b⟩ := K.shp.kids n x hx k0 (by simp [hks])
  have ek0 : ((k0.toNat : Nat) : Int) = k0 := by omega
  have hn : n < L.length := (List.getElem?_eq_some_iff.1 hx).1
  have hln := K.ln
  have hlm : (len : Int) ≤ 50000 := by have := K.few; omega
  have hnI : (n : Int) < len := by omega
  have HE : Hid (eN L n = hN L k0 (7) ++ ([46] ++ (x.text.data.toList))) := by unfold Hid; rw [eN_eq K.shp.kids (k := n) (by simpa using hx)]; simp [exprX, hk, hks, atK, tx]
  have hsz : (hN L k0 (7) ++ ([46] ++ (x.text.data.toList)) : List UInt8).length ≤ 100000000000 := by have := N.e n hn; rw [HE.out] at this; exact this
  try simp only [List.length_append, List.length_cons, List.length_nil] at hsz
  have hxs : x.text.data.toList.length = x.text.size := (Lib.size_eq _).symm
  try rw [hxs] at hsz
  obtain ⟨b, o, rfl, hb, NC⟩ := hL n x hx
  have n0 := NC.c0
  have n1 := NC.c1
  have n2 := NC.c2
  have n3 := NC.c3
  obtain ⟨kb, ko, hxa, hkb, kc0⟩ := NC.k 0 k0 (by simp [hks])
  have C0 := fun w' (f' : Fr [] w w') => held_any K N hE (n := k0.toNat) (by omega) (by omega) (by rw [ek0]; exact hex0) (t := 7) (by omega) (hL.fr f' (by simp)) (Nat.le_trans hB f'.size)
  simp only [ek0] at C0
  clear NC hE K N hx
  obtain ⟨xk, xt, xa, xc, xks, xp⟩ := x
  simp only at *
  subst hk
  subst hks hxa
  simp only [List.length_cons, List.length_nil, Nat.zero_add] at n2
  generalize hN L k0 (7) = S0 at *
  have q1 : ¬ 9223372036854775807 < S0.length + 1 := by omega
  have q2 : ¬ 9223372036854775807 < S0.length + 1 + xt.size := by omega
  clear hsz hxs
  have f1 : Fr [] w (w.alloc (.cells #[.int .i64 20, .string xt, .slice (some ⟨kb, ko, none⟩) 1 xc, .int .i64 xp] 36)) := (Fr.refl _ _).alloc _
  have b1 := heap_alloc_new w (.cells #[.int .i64 20, .string xt, .slice (some ⟨kb, ko, none⟩) 1 xc, .int .i64 xp] 36)
  have kd0 := f1.cell1 kc0 (by simp)
  simp only [Nat.add_zero] at kd0
  go_enter Tryz.func63, Tryz.ntmps63
  go_wp2
  generalize w.alloc (.cells #[.int .i64 20, .string xt, .slice (some ⟨kb, ko, none⟩) 1 xc, .int .i64 xp] 36) = w1 at *
  generalize w.heap.size = g at *
  have s1 : ∀ w', Fr [] w1 w' → w'.cell? ⟨g, 1, none⟩ = _ := fun w' f => f.cell1 (at_cells b1 1 rfl) (by simp)
  have s2 : ∀ w', Fr [] w1 w' → w'.cell? ⟨g, 2, none⟩ = _ := fun w' f => f.cell1 (at_cells b1 2 rfl) (by simp)
  have r0 : ∀ w', Fr [] w1 w' → w'.cell? ⟨kb, ko, none⟩ = _ := fun w' f => f.cell1 kd0 (by simp)
  have fA : Fr [] w1 w1 := Fr.refl _ _
  go_region_held3 (fun w' => Fr [] w1 w') (with_reducible (first | assumption | (refine Fr.drew ?_; assumption)))
    (first
      | (go_at_call 81; refine (C0 _ (f1.trans (by first | assumption | exact Fr.drew (Fr.refl _ _)))).mono ?_; rintro e w30 ⟨rfl, f30⟩; have g30 : Fr [] w1 w30 := (by first | assumption | exact Fr.drew (Fr.refl _ _) : Fr [] w1 _).trans f30))
  all_goals (go_wp2; go_ret; exact ⟨by rw [HE.out]; exact strE (by simp [data_app]), f1.trans (by assumption)⟩)
set_option maxRecDepth 100000 in
set_option maxHeartbeats 2000000 in
theorem rexpr_22 (K : Cst L B a len) (N : Bnd L) {f : Nat} (hE : RE L B a len cap f) {n : Nat} {x : T5.Nd} (hx : L[n]? = some x) (hk : x.kind = 22) (hf : n ≤ f) {w : World} (hL : T5.NAt B w a L) (hB : B ≤ w.heap.size) :
    Calls Tryz.prog 63 #[.slice a len cap, .int .i64 (n : Nat)] w fun e w' => e = .returned (.string ⟨(eN L n).toArray⟩) ∧ Fr [] w w' := by
  have hmany := K.shp.many hx (by simp [hk])
  have hn : n < L.length := (List.getElem?_eq_some_iff.1 hx).1
  have hln := K.ln
  have hlm : (len : Int) ≤ 50000 := by have := K.few; omega
  have hnI : (n : Int) < len := by omega
  have HE : Hid (eN L n = x.text.data.toList ++ ([40] ++ (joinC (x.ks.map (eN L)) ++ ([41])))) := by unfold Hid; rw [eN_eq K.shp.kids (k := n) (by simpa using hx)]; simp [exprX, hk, atK, tx]
  have hsz : (x.text.data.toList ++ ([40] ++ (joinC (x.ks.map (eN L)) ++ ([41]))) : List UInt8).length ≤ 100000000000 := by have := N.e n hn; rw [HE.out] at this; exact this
  try simp only [List.length_append, List.length_cons, List.length_nil] at hsz
  have hxs : x.text.data.toList.length = x.text.size := (Lib.size_eq _).symm
  try rw [hxs] at hsz
  obtain ⟨b, o, rfl, hb, NC⟩ := hL n x hx
  have n0 := NC.c0
  have n1 := NC.c1
  have n2 := NC.c2
  have n3 := NC.c3
  have HKA := NC.k
  have HKC := NC.kc
  have HKF := K.kf n x hx
  have HKD := K.shp.kids n x hx
  have C2 := fun w' (f' : Fr [] w w') => list_any K hE x.ks (fun k hk => by have := HKD k hk; exact ⟨this.1, by omega, by omega, hmany k hk⟩) (HKA.fr f' (by simp)) HKC (by omega) (hL.fr f' (by simp)) (Nat.le_trans hB f'.size) (by omega)
  clear NC hE K N hx
  obtain ⟨xk, xt, xa, xc, xks, xp⟩ := x
  simp only at *
  subst hk
  generalize joinC (xks.map (eN L)) = S2 at *
  have q1 : ¬ 9223372036854775807 < xt.size + 1 := by omega
  have q2 : ¬ 9223372036854775807 < xt.size + 1 + S2.length := by omega
  have q3 : ¬ 9223372036854775807 < xt.size + 1 + S2.length + 1 := by omega
  clear hsz hxs
  have f1 : Fr [] w (w.alloc (.cells #[.int .i64 22, .string xt, .slice xa xks.length xc, .int .i64 xp] 36)) := (Fr.refl _ _).alloc _
  have b1 := heap_alloc_new w (.cells #[.int .i64 22, .string xt, .slice xa xks.length xc, .int .i64 xp] 36)
  go_enter Tryz.func63, Tryz.ntmps63
  go_wp2
  generalize w.alloc (.cells #[.int .i64 22, .string xt, .slice xa xks.length xc, .int .i64 xp] 36) = w1 at *
  generalize w.heap.size = g at *
  have s1 : ∀ w', Fr [] w1 w' → w'.cell? ⟨g, 1, none⟩ = _ := fun w' f => f.cell1 (at_cells b1 1 rfl) (by simp)
  have s2 : ∀ w', Fr [] w1 w' → w'.cell? ⟨g, 2, none⟩ = _ := fun w' f => f.cell1 (at_cells b1 2 rfl) (by simp)
  have fA : Fr [] w1 w1 := Fr.refl _ _
  go_region_held3 (fun w' => Fr [] w1 w') (with_reducible (first | assumption | (refine Fr.drew ?_; assumption)))
    (first
      | (go_at_call 30; refine (C2 _ (f1.trans (by first | assumption | exact Fr.drew (Fr.refl _ _)))).mono ?_; rintro e w32 ⟨rfl, f32⟩; have g32 : Fr [] w1 w32 := (by first | assumption | exact Fr.drew (Fr.refl _ _) : Fr [] w1 _).trans f32))
  all_goals (go_wp2; go_ret; exact ⟨by rw [HE.out]; exact strE (by simp [data_app]), f1.trans (by assumption)⟩)
end
end Go.Proofs.YtnebhkglpggnlaaGreatDoor
namespace Go.Proofs.YtnebhkglpggnlaaGreatDoor
open Go.RowKit
set_option linter.unusedVariables false
set_option linter.unusedSimpArgs false

section
variable {L : List T5.Nd} {B : Nat} {a : Option Addr} {len cap : Nat}
set_option maxRecDepth 100000 in
set_option maxHeartbeats 2000000 in
theorem rexpr_21 (K : Cst L B a len) (N : Bnd L) {f : Nat} (hE : RE L B a len cap f) {n : Nat} {x : T5.Nd} (hx : L[n]? = some x) (hk : x.kind = 21) (hf : n ≤ f) {w : World} (hL : T5.NAt B w a L) (hB : B ≤ w.heap.size) :
    Calls Tryz.prog 63 #[.slice a len cap, .int .i64 (n : Nat)] w fun e w' => e = .returned (.string ⟨(eN L n).toArray⟩) ∧ Fr [] w w' := by
  obtain ⟨k0, k1, hks, hex0, hex1⟩ := K.shp.two hx (by simp [hk])
  obtain ⟨hk0a, hk0b⟩ := K.shp.kids n x hx k0 (by simp [hks])
  have ek0 : ((k0.toNat : Nat) : Int) = k0 := by omega
  obtain ⟨hk1a, hk1b⟩ := K.shp.kids n x hx k1 (by simp [hks])
  have ek1 : ((k1.toNat : Nat) : Int) = k1 := by omega
  have hn : n < L.length := (List.getElem?_eq_some_iff.1 hx).1
  have hln := K.ln
  have hlm : (len : Int) ≤ 50000 := by have := K.few; omega
  have hnI : (n : Int) < len := by omega
  have HE : Hid (eN L n = hN L k0 (7) ++ ([91] ++ (eN L k1 ++ ([93])))) := by unfold Hid; rw [eN_eq K.shp.kids (k := n) (by simpa using hx)]; simp [exprX, hk, hks, atK, tx]
  have hsz : (hN L k0 (7) ++ ([91] ++ (eN L k1 ++ ([93]))) : List UInt8).length ≤ 100000000000 := by have := N.e n hn; rw [HE.out] at this; exact this
  try simp only [List.length_append, List.length_cons, List.length_nil] at hsz
  have hxs : x.text.data.toList.length = x.text.size := (Lib.size_eq _).symm
  try rw [hxs] at hsz
  obtain ⟨b, o, rfl, hb, NC⟩ := hL n x hx
  have n0 := NC.c0
  have n1 := NC.c1
  have n2 := NC.c2
  have n3 := NC.c3
  obtain ⟨kb, ko, hxa, hkb, kc0⟩ := NC.k 0 k0 (by simp [hks])
  obtain ⟨kb', ko', hxa', hkb', kc1⟩ := NC.k 1 k1 (by simp [hks])
  rw [hxa] at hxa'
  cases hxa'
  have C0 := fun w' (f' : Fr [] w w') => held_any K N hE (n := k0.toNat) (by omega) (by omega) (by rw [ek0]; exact hex0) (t := 7) (by omega) (hL.fr f' (by simp)) (Nat.le_trans hB f'.size)
  simp only [ek0] at C0
  have C2 := fun w' (f' : Fr [] w w') => hE k1.toNat w' (by omega) (by omega) (by rw [ek1]; exact hex1) (hL.fr f' (by simp)) (Nat.le_trans hB f'.size)
  simp only [ek1] at C2
  clear NC hE K N hx
  obtain ⟨xk, xt, xa, xc, xks, xp⟩ := x
  simp only at *
  subst hk
  subst hks hxa
  simp only [List.length_cons, List.length_nil, Nat.zero_add] at n2
  generalize hN L k0 (7) = S0 at *
  generalize eN L k1 = S2 at *
  have q1 : ¬ 9223372036854775807 < S0.length + 1 := by omega
  have q2 : ¬ 9223372036854775807 < S0.length + 1 + S2.length := by omega
  have q3 : ¬ 9223372036854775807 < S0.length + 1 + S2.length + 1 := by omega
  clear hsz hxs
  have f1 : Fr [] w (w.alloc (.cells #[.int .i64 21, .string xt, .slice (some ⟨kb, ko, none⟩) 2 xc, .int .i64 xp] 36)) := (Fr.refl _ _).alloc _
  have b1 := heap_alloc_new w (.cells #[.int .i64 21, .string xt, .slice (some ⟨kb, ko, none⟩) 2 xc, .int .i64 xp] 36)
  have kd0 := f1.cell1 kc0 (by simp)
  have kd1 := f1.cell1 kc1 (by simp)
  simp only [Nat.add_zero] at kd0
  go_enter Tryz.func63, Tryz.ntmps63
  go_wp2
  generalize w.alloc (.cells #[.int .i64 21, .string xt, .slice (some ⟨kb, ko, none⟩) 2 xc, .int .i64 xp] 36) = w1 at *
  generalize w.heap.size = g at *
  have s1 : ∀ w', Fr [] w1 w' → w'.cell? ⟨g, 1, none⟩ = _ := fun w' f => f.cell1 (at_cells b1 1 rfl) (by simp)
  have s2 : ∀ w', Fr [] w1 w' → w'.cell? ⟨g, 2, none⟩ = _ := fun w' f => f.cell1 (at_cells b1 2 rfl) (by simp)
  have r0 : ∀ w', Fr [] w1 w' → w'.cell? ⟨kb, ko, none⟩ = _ := fun w' f => f.cell1 kd0 (by simp)
  have r1 : ∀ w', Fr [] w1 w' → w'.cell? ⟨kb, ko + 1, none⟩ = _ := fun w' f => f.cell1 kd1 (by simp)
  have fA : Fr [] w1 w1 := Fr.refl _ _
  go_region_held3 (fun w' => Fr [] w1 w') (with_reducible (first | assumption | (refine Fr.drew ?_; assumption)))
    (first
      | (go_at_call_of 81 k0; refine (C0 _ (f1.trans (by first | assumption | exact Fr.drew (Fr.refl _ _)))).mono ?_; rintro e w30 ⟨rfl, f30⟩; have g30 : Fr [] w1 w30 := (by first | assumption | exact Fr.drew (Fr.refl _ _) : Fr [] w1 _).trans f30)
      | (go_at_call_of 63 k1; refine (C2 _ (f1.trans (by first | assumption | exact Fr.drew (Fr.refl _ _)))).mono ?_; rintro e w32 ⟨rfl, f32⟩; have g32 : Fr [] w1 w32 := (by first | assumption | exact Fr.drew (Fr.refl _ _) : Fr [] w1 _).trans f32))
  all_goals (go_wp2; go_ret; exact ⟨by rw [HE.out]; exact strE (by simp [data_app]), f1.trans (by assumption)⟩)
end
end Go.Proofs.YtnebhkglpggnlaaGreatDoor
namespace Go.Proofs.YtnebhkglpggnlaaGreatDoor
open Go.RowKit
set_option linter.unusedVariables false
set_option linter.unusedSimpArgs false

section
variable {L : List T5.Nd} {B : Nat} {a : Option Addr} {len cap : Nat}
set_option maxRecDepth 100000 in
set_option maxHeartbeats 2000000 in
theorem rexpr_19a (K : Cst L B a len) (N : Bnd L) {f : Nat} (hE : RE L B a len cap f) {n : Nat} {x : T5.Nd} (hx : L[n]? = some x) (hk : x.kind = 19) (htz : opT x.text.data.toList = 0) (hf : n ≤ f) {w : World} (hL : T5.NAt B w a L) (hB : B ≤ w.heap.size) :
    Calls Tryz.prog 63 #[.slice a len cap, .int .i64 (n : Nat)] w fun e w' => e = .returned (.string ⟨(eN L n).toArray⟩) ∧ Fr [] w w' := by
  obtain ⟨k0, k1, hks, hex0, hex1⟩ := K.shp.two hx (by simp [hk])
  obtain ⟨hk0a, hk0b⟩ := K.shp.kids n x hx k0 (by simp [hks])
  have ek0 : ((k0.toNat : Nat) : Int) = k0 := by omega
  obtain ⟨hk1a, hk1b⟩ := K.shp.kids n x hx k1 (by simp [hks])
  have ek1 : ((k1.toNat : Nat) : Int) = k1 := by omega
  have hn : n < L.length := (List.getElem?_eq_some_iff.1 hx).1
  have hln := K.ln
  have hlm : (len : Int) ≤ 50000 := by have := K.few; omega
  have hnI : (n : Int) < len := by omega
  have HE : Hid (eN L n = hN L k0 (1) ++ ([32] ++ (x.text.data.toList ++ ([32] ++ (hN L k1 (1)))))) := by unfold Hid; rw [eN_eq K.shp.kids (k := n) (by simpa using hx)]; simp [exprX, hk, hks, atK, tx, htz]
  have hsz : (hN L k0 (1) ++ ([32] ++ (x.text.data.toList ++ ([32] ++ (hN L k1 (1))))) : List UInt8).length ≤ 100000000000 := by have := N.e n hn; rw [HE.out] at this; exact this
  try simp only [List.length_append, List.length_cons, List.length_nil] at hsz
  have hxs : x.text.data.toList.length = x.text.size := (Lib.size_eq _).symm
  try rw [hxs] at hsz
  obtain ⟨b, o, rfl, hb, NC⟩ := hL n x hx
  have n0 := NC.c0
  have n1 := NC.c1
  have n2 := NC.c2
  have n3 := NC.c3
  obtain ⟨kb, ko, hxa, hkb, kc0⟩ := NC.k 0 k0 (by simp [hks])
  obtain ⟨kb', ko', hxa', hkb', kc1⟩ := NC.k 1 k1 (by simp [hks])
  rw [hxa] at hxa'
  cases hxa'
  have C0 := fun w' (f' : Fr [] w w') => held_any K N hE (n := k0.toNat) (by omega) (by omega) (by rw [ek0]; exact hex0) (t := 1) (by omega) (hL.fr f' (by simp)) (Nat.le_trans hB f'.size)
  simp only [ek0] at C0
  have C4 := fun w' (f' : Fr [] w w') => held_any K N hE (n := k1.toNat) (by omega) (by omega) (by rw [ek1]; exact hex1) (t := 1) (by omega) (hL.fr f' (by simp)) (Nat.le_trans hB f'.size)
  simp only [ek1] at C4
  have CT := fun w' => strength_any x.kind x.text (.slice x.a x.ks.length x.c) x.pl w'
  clear NC hE K N hx
  obtain ⟨xk, xt, xa, xc, xks, xp⟩ := x
  simp only at *
  subst hk
  subst hks hxa
  simp only [List.length_cons, List.length_nil, Nat.zero_add] at n2
  have et : (if (19 : Int) = 19 then opT xt.data.toList else if (19 : Int) = 18 then 6 else 7 : Nat) = 0 := by rw [if_pos rfl]; exact htz
  rw [et] at CT
  generalize hN L k0 (1) = S0 at *
  generalize hN L k1 (1) = S4 at *
  have q1 : ¬ 9223372036854775807 < S0.length + 1 := by omega
  have q2 : ¬ 9223372036854775807 < S0.length + 1 + xt.size := by omega
  have q3 : ¬ 9223372036854775807 < S0.length + 1 + xt.size + 1 := by omega
  have q4 : ¬ 9223372036854775807 < S0.length + 1 + xt.size + 1 + S4.length := by omega
  clear hsz hxs
  have f1 : Fr [] w (w.alloc (.cells #[.int .i64 19, .string xt, .slice (some ⟨kb, ko, none⟩) 2 xc, .int .i64 xp] 36)) := (Fr.refl _ _).alloc _
  have b1 := heap_alloc_new w (.cells #[.int .i64 19, .string xt, .slice (some ⟨kb, ko, none⟩) 2 xc, .int .i64 xp] 36)
  have kd0 := f1.cell1 kc0 (by simp)
  have kd1 := f1.cell1 kc1 (by simp)
  simp only [Nat.add_zero] at kd0
  go_enter Tryz.func63, Tryz.ntmps63
  go_wp2_with fail
  refine (CT _).mono ?_
  rintro e wt ⟨rfl, ft⟩
  have f1 := f1.trans ft
  have b1 := (ft.block _ (Array.getElem?_eq_some_iff.1 b1).1 (by simp)).trans b1
  have kd0 := ft.cell1 kd0 (by simp)
  have kd1 := ft.cell1 kd1 (by simp)
  clear CT
  go_wp2
  generalize w.heap.size = g at *
  have s1 : ∀ w', Fr [] wt w' → w'.cell? ⟨g, 1, none⟩ = _ := fun w' f => f.cell1 (at_cells b1 1 rfl) (by simp)
  have s2 : ∀ w', Fr [] wt w' → w'.cell? ⟨g, 2, none⟩ = _ := fun w' f => f.cell1 (at_cells b1 2 rfl) (by simp)
  have r0 : ∀ w', Fr [] wt w' → w'.cell? ⟨kb, ko, none⟩ = _ := fun w' f => f.cell1 kd0 (by simp)
  have r1 : ∀ w', Fr [] wt w' → w'.cell? ⟨kb, ko + 1, none⟩ = _ := fun w' f => f.cell1 kd1 (by simp)
  have fA : Fr [] wt wt := Fr.refl _ _
  go_region_held3 (fun w' => Fr [] wt w') (with_reducible (first | assumption | (refine Fr.drew ?_; assumption)))
    (first
      | (go_at_call_of 81 k0; refine (C0 _ (f1.trans (by first | assumption | exact Fr.drew (Fr.refl _ _)))).mono ?_; rintro e w30 ⟨rfl, f30⟩; have g30 : Fr [] wt w30 := (by first | assumption | exact Fr.drew (Fr.refl _ _) : Fr [] wt _).trans f30)
      | (go_at_call_of 81 k1; refine (C4 _ (f1.trans (by first | assumption | exact Fr.drew (Fr.refl _ _)))).mono ?_; rintro e w34 ⟨rfl, f34⟩; have g34 : Fr [] wt w34 := (by first | assumption | exact Fr.drew (Fr.refl _ _) : Fr [] wt _).trans f34))
  all_goals (go_wp2; go_ret; exact ⟨by rw [HE.out]; exact strE (by simp [data_app]), f1.trans (by assumption)⟩)
end
end Go.Proofs.YtnebhkglpggnlaaGreatDoor
namespace Go.Proofs.YtnebhkglpggnlaaGreatDoor
open Go.RowKit
set_option linter.unusedVariables false
set_option linter.unusedSimpArgs false

section
variable {L : List T5.Nd} {B : Nat} {a : Option Addr} {len cap : Nat}
set_option maxRecDepth 100000 in
set_option maxHeartbeats 2000000 in
theorem rexpr_19b (K : Cst L B a len) (N : Bnd L) {f : Nat} (hE : RE L B a len cap f) {n : Nat} {x : T5.Nd} (hx : L[n]? = some x) (hk : x.kind = 19) (htz : opT x.text.data.toList ≠ 0) (hf : n ≤ f) {w : World} (hL : T5.NAt B w a L) (hB : B ≤ w.heap.size) :
    Calls Tryz.prog 63 #[.slice a len cap, .int .i64 (n : Nat)] w fun e w' => e = .returned (.string ⟨(eN L n).toArray⟩) ∧ Fr [] w w' := by
  obtain ⟨k0, k1, hks, hex0, hex1⟩ := K.shp.two hx (by simp [hk])
  obtain ⟨hk0a, hk0b⟩ := K.shp.kids n x hx k0 (by simp [hks])
  have ek0 : ((k0.toNat : Nat) : Int) = k0 := by omega
  obtain ⟨hk1a, hk1b⟩ := K.shp.kids n x hx k1 (by simp [hks])
  have ek1 : ((k1.toNat : Nat) : Int) = k1 := by omega
  have hn : n < L.length := (List.getElem?_eq_some_iff.1 hx).1
  have hln := K.ln
  have hlm : (len : Int) ≤ 50000 := by have := K.few; omega
  have hnI : (n : Int) < len := by omega
  have hop5 := opT_le x.text.data.toList
  have hmx : max (opT x.text.data.toList) 1 = opT x.text.data.toList := by omega
  have HE : Hid (eN L n = hN L k0 (opT x.text.data.toList) ++ ([32] ++ (x.text.data.toList ++ ([32] ++ (hN L k1 (opT x.text.data.toList + 1)))))) := by unfold Hid; rw [eN_eq K.shp.kids (k := n) (by simpa using hx)]; simp [exprX, hk, hks, atK, tx, hmx]
  have hsz : (hN L k0 (opT x.text.data.toList) ++ ([32] ++ (x.text.data.toList ++ ([32] ++ (hN L k1 (opT x.text.data.toList + 1))))) : List UInt8).length ≤ 100000000000 := by have := N.e n hn; rw [HE.out] at this; exact this
  try simp only [List.length_append, List.length_cons, List.length_nil] at hsz
  have hxs : x.text.data.toList.length = x.text.size := (Lib.size_eq _).symm
  try rw [hxs] at hsz
  obtain ⟨b, o, rfl, hb, NC⟩ := hL n x hx
  have n0 := NC.c0
  have n1 := NC.c1
  have n2 := NC.c2
  have n3 := NC.c3
  obtain ⟨kb, ko, hxa, hkb, kc0⟩ := NC.k 0 k0 (by simp [hks])
  obtain ⟨kb', ko', hxa', hkb', kc1⟩ := NC.k 1 k1 (by simp [hks])
  rw [hxa] at hxa'
  cases hxa'
  have C0 := fun w' (f' : Fr [] w w') => held_any K N hE (n := k0.toNat) (by omega) (by omega) (by rw [ek0]; exact hex0) (t := opT x.text.data.toList) (by omega) (hL.fr f' (by simp)) (Nat.le_trans hB f'.size)
  simp only [ek0] at C0
  have C4 := fun w' (f' : Fr [] w w') => held_any K N hE (n := k1.toNat) (by omega) (by omega) (by rw [ek1]; exact hex1) (t := opT x.text.data.toList + 1) (by omega) (hL.fr f' (by simp)) (Nat.le_trans hB f'.size)
  simp only [ek1] at C4
  have CT := fun w' => strength_any x.kind x.text (.slice x.a x.ks.length x.c) x.pl w'
  clear NC hE K N hx
  obtain ⟨xk, xt, xa, xc, xks, xp⟩ := x
  simp only at *
  subst hk
  subst hks hxa
  simp only [List.length_cons, List.length_nil, Nat.zero_add] at n2
  have et : (if (19 : Int) = 19 then opT xt.data.toList else if (19 : Int) = 18 then 6 else 7 : Nat) = opT xt.data.toList := if_pos rfl
  rw [et] at CT
  generalize opT xt.data.toList = tn at *
  have hw1 := wrap_small tn hop5
  have htzI : ((tn : Nat) : Int) ≠ 0 := by omega
  have htzB : (((tn : Nat) : Int) == 0) = false := by simpa using htzI
  have hw2 : ((tn + 1 : Nat) : Int) = IntKind.i64.wrap ((tn : Int) + 1) := hw1.symm
  simp only [hw2] at C4
  clear hw1 hw2 hmx et
  generalize hN L k0 tn = S0 at *
  generalize hN L k1 (tn + 1) = S4 at *
  have q1 : ¬ 9223372036854775807 < S0.length + 1 := by omega
  have q2 : ¬ 9223372036854775807 < S0.length + 1 + xt.size := by omega
  have q3 : ¬ 9223372036854775807 < S0.length + 1 + xt.size + 1 := by omega
  have q4 : ¬ 9223372036854775807 < S0.length + 1 + xt.size + 1 + S4.length := by omega
  clear hsz hxs
  have f1 : Fr [] w (w.alloc (.cells #[.int .i64 19, .string xt, .slice (some ⟨kb, ko, none⟩) 2 xc, .int .i64 xp] 36)) := (Fr.refl _ _).alloc _
  have b1 := heap_alloc_new w (.cells #[.int .i64 19, .string xt, .slice (some ⟨kb, ko, none⟩) 2 xc, .int .i64 xp] 36)
  have kd0 := f1.cell1 kc0 (by simp)
  have kd1 := f1.cell1 kc1 (by simp)
  simp only [Nat.add_zero] at kd0
  go_enter Tryz.func63, Tryz.ntmps63
  go_wp2_with fail
  refine (CT _).mono ?_
  rintro e wt ⟨rfl, ft⟩
  have f1 := f1.trans ft
  have b1 := (ft.block _ (Array.getElem?_eq_some_iff.1 b1).1 (by simp)).trans b1
  have kd0 := ft.cell1 kd0 (by simp)
  have kd1 := ft.cell1 kd1 (by simp)
  clear CT
  go_wp2
  generalize w.heap.size = g at *
  have s1 : ∀ w', Fr [] wt w' → w'.cell? ⟨g, 1, none⟩ = _ := fun w' f => f.cell1 (at_cells b1 1 rfl) (by simp)
  have s2 : ∀ w', Fr [] wt w' → w'.cell? ⟨g, 2, none⟩ = _ := fun w' f => f.cell1 (at_cells b1 2 rfl) (by simp)
  have r0 : ∀ w', Fr [] wt w' → w'.cell? ⟨kb, ko, none⟩ = _ := fun w' f => f.cell1 kd0 (by simp)
  have r1 : ∀ w', Fr [] wt w' → w'.cell? ⟨kb, ko + 1, none⟩ = _ := fun w' f => f.cell1 kd1 (by simp)
  have fA : Fr [] wt wt := Fr.refl _ _
  go_region_held3 (fun w' => Fr [] wt w') (with_reducible (first | assumption | (refine Fr.drew ?_; assumption)))
    (first
      | (go_at_call_of 81 k0; refine (C0 _ (f1.trans (by first | assumption | exact Fr.drew (Fr.refl _ _)))).mono ?_; rintro e w30 ⟨rfl, f30⟩; have g30 : Fr [] wt w30 := (by first | assumption | exact Fr.drew (Fr.refl _ _) : Fr [] wt _).trans f30)
      | (go_at_call_of 81 k1; refine (C4 _ (f1.trans (by first | assumption | exact Fr.drew (Fr.refl _ _)))).mono ?_; rintro e w34 ⟨rfl, f34⟩; have g34 : Fr [] wt w34 := (by first | assumption | exact Fr.drew (Fr.refl _ _) : Fr [] wt _).trans f34))
  all_goals (go_wp2; go_ret; exact ⟨by rw [HE.out]; exact strE (by simp [data_app]), f1.trans (by assumption)⟩)
end
end Go.Proofs.YtnebhkglpggnlaaGreatDoor
namespace Go.Proofs.YtnebhkglpggnlaaGreatDoor
open Go.RowKit
set_option linter.unusedVariables false
set_option linter.unusedSimpArgs false

section
variable {L : List T5.Nd} {B : Nat} {a : Option Addr} {len cap : Nat}
set_option maxRecDepth 100000 in
set_option maxHeartbeats 2000000 in
theorem rstmt_5 (K : Cst L B a len) (N : Bnd L) {f : Nat} (hE : RE L B a len cap f) {ab : Nat} (hR : RBlo L B a len cap (ab + 1) f) {n : Nat} {x : T5.Nd} (hx : L[n]? = some x) (hk : x.kind = 5) (hf : n ≤ f) (hab : ab + n ≤ 50001) {w : World} (hL : T5.NAt B w a L) (hB : B ≤ w.heap.size) :
    Calls Tryz.prog 64 #[.slice a len cap, .int .i64 (n : Nat), .string ⟨(ind ab).toArray⟩] w fun e w' => e = .returned (.string ⟨(sN L ab n).toArray⟩) ∧ Fr [] w w' := by
  obtain ⟨k0, hks, hex0⟩ := K.shp.one hx (by simp [hk])
  obtain ⟨hk0a, hk0b⟩ := K.shp.kids n x hx k0 (by simp [hks])
  have ek0 : ((k0.toNat : Nat) : Int) = k0 := by omega
  have hn : n < L.length := (List.getElem?_eq_some_iff.1 hx).1
  have hln := K.ln
  have hlm : (len : Int) ≤ 50000 := by have := K.few; omega
  have hnI : (n : Int) < len := by omega
  have HE : Hid (sN L ab n = ind ab ++ ([108, 101, 116, 32] ++ (x.text.data.toList ++ ([32, 61, 32] ++ (eN L k0 ++ ([59, 10])))))) := by unfold Hid; rw [sN_eq K.shp.kids (k := n) (by simpa using hx)]; simp [stmtX, hk, hks, atK, tx, wordB]
  have hsz : (ind ab ++ ([108, 101, 116, 32] ++ (x.text.data.toList ++ ([32, 61, 32] ++ (eN L k0 ++ ([59, 10]))))) : List UInt8).length ≤ 100000000000 := by have := N.s ab n hn hab; rw [HE.out] at this; exact this
  try simp only [List.length_append, List.length_cons, List.length_nil] at hsz
  have hxs : x.text.data.toList.length = x.text.size := (Lib.size_eq _).symm
  try rw [hxs] at hsz
  obtain ⟨b, o, rfl, hb, NC⟩ := hL n x hx
  have n0 := NC.c0
  have n1 := NC.c1
  have n2 := NC.c2
  have n3 := NC.c3
  obtain ⟨kb, ko, hxa, hkb, kc0⟩ := NC.k 0 k0 (by simp [hks])
  have C4 := fun w' (f' : Fr [] w w') => hE k0.toNat w' (by omega) (by omega) (by rw [ek0]; exact hex0) (hL.fr f' (by simp)) (Nat.le_trans hB f'.size)
  simp only [ek0] at C4
  clear NC hE hR K N hx
  obtain ⟨xk, xt, xa, xc, xks, xp⟩ := x
  simp only at *
  subst hk
  subst hks hxa
  simp only [List.length_cons, List.length_nil, Nat.zero_add] at n2
  generalize ind ab = I at *
  generalize eN L k0 = S4 at *
  have q1 : ¬ 9223372036854775807 < I.length + 4 := by omega
  have q2 : ¬ 9223372036854775807 < I.length + 4 + xt.size := by omega
  have q3 : ¬ 9223372036854775807 < I.length + 4 + xt.size + 3 := by omega
  have q4 : ¬ 9223372036854775807 < I.length + 4 + xt.size + 3 + S4.length := by omega
  have q5 : ¬ 9223372036854775807 < I.length + 4 + xt.size + 3 + S4.length + 2 := by omega
  clear hsz hxs
  have f1 : Fr [] w (w.alloc (.cells #[.int .i64 5, .string xt, .slice (some ⟨kb, ko, none⟩) 1 xc, .int .i64 xp] 36)) := (Fr.refl _ _).alloc _
  have b1 := heap_alloc_new w (.cells #[.int .i64 5, .string xt, .slice (some ⟨kb, ko, none⟩) 1 xc, .int .i64 xp] 36)
  have kd0 := f1.cell1 kc0 (by simp)
  simp only [Nat.add_zero] at kd0
  go_enter Tryz.func64, Tryz.ntmps64
  go_wp2
  generalize w.alloc (.cells #[.int .i64 5, .string xt, .slice (some ⟨kb, ko, none⟩) 1 xc, .int .i64 xp] 36) = w1 at *
  generalize w.heap.size = g at *
  have s1 : ∀ w', Fr [] w1 w' → w'.cell? ⟨g, 1, none⟩ = _ := fun w' f => f.cell1 (at_cells b1 1 rfl) (by simp)
  have s2 : ∀ w', Fr [] w1 w' → w'.cell? ⟨g, 2, none⟩ = _ := fun w' f => f.cell1 (at_cells b1 2 rfl) (by simp)
  have r0 : ∀ w', Fr [] w1 w' → w'.cell? ⟨kb, ko, none⟩ = _ := fun w' f => f.cell1 kd0 (by simp)
  have fA : Fr [] w1 w1 := Fr.refl _ _
  go_region_held3 (fun w' => Fr [] w1 w') (with_reducible (first | assumption | (refine Fr.drew ?_; assumption)))
    (first
      | (go_at_call 63; refine (C4 _ (f1.trans (by first | assumption | exact Fr.drew (Fr.refl _ _)))).mono ?_; rintro e w34 ⟨rfl, f34⟩; have g34 : Fr [] w1 w34 := (by first | assumption | exact Fr.drew (Fr.refl _ _) : Fr [] w1 _).trans f34))
  all_goals (go_wp2; go_ret; exact ⟨by rw [HE.out]; exact strE (by simp [data_app]), f1.trans (by assumption)⟩)
set_option maxRecDepth 100000 in
set_option maxHeartbeats 2000000 in
theorem rstmt_6 (K : Cst L B a len) (N : Bnd L) {f : Nat} (hE : RE L B a len cap f) {ab : Nat} (hR : RBlo L B a len cap (ab + 1) f) {n : Nat} {x : T5.Nd} (hx : L[n]? = some x) (hk : x.kind = 6) (hf : n ≤ f) (hab : ab + n ≤ 50001) {w : World} (hL : T5.NAt B w a L) (hB : B ≤ w.heap.size) :
    Calls Tryz.prog 64 #[.slice a len cap, .int .i64 (n : Nat), .string ⟨(ind ab).toArray⟩] w fun e w' => e = .returned (.string ⟨(sN L ab n).toArray⟩) ∧ Fr [] w w' := by
  obtain ⟨k0, k1, hks, hex0, hex1⟩ := K.shp.two hx (by simp [hk])
  obtain ⟨hk0a, hk0b⟩ := K.shp.kids n x hx k0 (by simp [hks])
  have ek0 : ((k0.toNat : Nat) : Int) = k0 := by omega
  obtain ⟨hk1a, hk1b⟩ := K.shp.kids n x hx k1 (by simp [hks])
  have ek1 : ((k1.toNat : Nat) : Int) = k1 := by omega
  have hn : n < L.length := (List.getElem?_eq_some_iff.1 hx).1
  have hln := K.ln
  have hlm : (len : Int) ≤ 50000 := by have := K.few; omega
  have hnI : (n : Int) < len := by omega
  have HE : Hid (sN L ab n = ind ab ++ (eN L k0 ++ ([32, 61, 32] ++ (eN L k1 ++ ([59, 10]))))) := by unfold Hid; rw [sN_eq K.shp.kids (k := n) (by simpa using hx)]; simp [stmtX, hk, hks, atK, tx, wordB]
  have hsz : (ind ab ++ (eN L k0 ++ ([32, 61, 32] ++ (eN L k1 ++ ([59, 10])))) : List UInt8).length ≤ 100000000000 := by have := N.s ab n hn hab; rw [HE.out] at this; exact this
  try simp only [List.length_append, List.length_cons, List.length_nil] at hsz
  have hxs : x.text.data.toList.length = x.text.size := (Lib.size_eq _).symm
  try rw [hxs] at hsz
  obtain ⟨b, o, rfl, hb, NC⟩ := hL n x hx
  have n0 := NC.c0
  have n1 := NC.c1
  have n2 := NC.c2
  have n3 := NC.c3
  obtain ⟨kb, ko, hxa, hkb, kc0⟩ := NC.k 0 k0 (by simp [hks])
  obtain ⟨kb', ko', hxa', hkb', kc1⟩ := NC.k 1 k1 (by simp [hks])
  rw [hxa] at hxa'
  cases hxa'
  have C1 := fun w' (f' : Fr [] w w') => hE k0.toNat w' (by omega) (by omega) (by rw [ek0]; exact hex0) (hL.fr f' (by simp)) (Nat.le_trans hB f'.size)
  simp only [ek0] at C1
  have C3 := fun w' (f' : Fr [] w w') => hE k1.toNat w' (by omega) (by omega) (by rw [ek1]; exact hex1) (hL.fr f' (by simp)) (Nat.le_trans hB f'.size)
  simp only [ek1] at C3
  clear NC hE hR K N hx
  obtain ⟨xk, xt, xa, xc, xks, xp⟩ := x
  simp only at *
  subst hk
  subst hks hxa
  simp only [List.length_cons, List.length_nil, Nat.zero_add] at n2
  generalize ind ab = I at *
  generalize eN L k0 = S1 at *
  generalize eN L k1 = S3 at *
  have q1 : ¬ 9223372036854775807 < I.length + S1.length := by omega
  have q2 : ¬ 9223372036854775807 < I.length + S1.length + 3 := by omega
  have q3 : ¬ 9223372036854775807 < I.length + S1.length + 3 + S3.length := by omega
  have q4 : ¬ 9223372036854775807 < I.length + S1.length + 3 + S3.length + 2 := by omega
  clear hsz hxs
  have f1 : Fr [] w (w.alloc (.cells #[.int .i64 6, .string xt, .slice (some ⟨kb, ko, none⟩) 2 xc, .int .i64 xp] 36)) := (Fr.refl _ _).alloc _
  have b1 := heap_alloc_new w (.cells #[.int .i64 6, .string xt, .slice (some ⟨kb, ko, none⟩) 2 xc, .int .i64 xp] 36)
  have kd0 := f1.cell1 kc0 (by simp)
  have kd1 := f1.cell1 kc1 (by simp)
  simp only [Nat.add_zero] at kd0
  go_enter Tryz.func64, Tryz.ntmps64
  go_wp2
  generalize w.alloc (.cells #[.int .i64 6, .string xt, .slice (some ⟨kb, ko, none⟩) 2 xc, .int .i64 xp] 36) = w1 at *
  generalize w.heap.size = g at *
  have s1 : ∀ w', Fr [] w1 w' → w'.cell? ⟨g, 1, none⟩ = _ := fun w' f => f.cell1 (at_cells b1 1 rfl) (by simp)
  have s2 : ∀ w', Fr [] w1 w' → w'.cell? ⟨g, 2, none⟩ = _ := fun w' f => f.cell1 (at_cells b1 2 rfl) (by simp)
  have r0 : ∀ w', Fr [] w1 w' → w'.cell? ⟨kb, ko, none⟩ = _ := fun w' f => f.cell1 kd0 (by simp)
  have r1 : ∀ w', Fr [] w1 w' → w'.cell? ⟨kb, ko + 1, none⟩ = _ := fun w' f => f.cell1 kd1 (by simp)
  have fA : Fr [] w1 w1 := Fr.refl _ _
  go_region_held3 (fun w' => Fr [] w1 w') (with_reducible (first | assumption | (refine Fr.drew ?_; assumption)))
    (first
      | (go_at_call_of 63 k0; refine (C1 _ (f1.trans (by first | assumption | exact Fr.drew (Fr.refl _ _)))).mono ?_; rintro e w31 ⟨rfl, f31⟩; have g31 : Fr [] w1 w31 := (by first | assumption | exact Fr.drew (Fr.refl _ _) : Fr [] w1 _).trans f31)
      | (go_at_call_of 63 k1; refine (C3 _ (f1.trans (by first | assumption | exact Fr.drew (Fr.refl _ _)))).mono ?_; rintro e w33 ⟨rfl, f33⟩; have g33 : Fr [] w1 w33 := (by first | assumption | exact Fr.drew (Fr.refl _ _) : Fr [] w1 _).trans f33))
  all_goals (go_wp2; go_ret; exact ⟨by rw [HE.out]; exact strE (by simp [data_app]), f1.trans (by assumption)⟩)
end
end Go.Proofs.YtnebhkglpggnlaaGreatDoor
namespace Go.Proofs.YtnebhkglpggnlaaGreatDoor
open Go.RowKit
set_option linter.unusedVariables false
set_option linter.unusedSimpArgs false

section
variable {L : List T5.Nd} {B : Nat} {a : Option Addr} {len cap : Nat}
set_option maxRecDepth 100000 in
set_option maxHeartbeats 2000000 in
theorem rstmt_8 (K : Cst L B a len) (N : Bnd L) {f : Nat} (hE : RE L B a len cap f) {ab : Nat} (hR : RBlo L B a len cap (ab + 1) f) {n : Nat} {x : T5.Nd} (hx : L[n]? = some x) (hk : x.kind = 8) (hf : n ≤ f) (hab : ab + n ≤ 50001) {w : World} (hL : T5.NAt B w a L) (hB : B ≤ w.heap.size) :
    Calls Tryz.prog 64 #[.slice a len cap, .int .i64 (n : Nat), .string ⟨(ind ab).toArray⟩] w fun e w' => e = .returned (.string ⟨(sN L ab n).toArray⟩) ∧ Fr [] w w' := by
  obtain ⟨k0, k1, hks, hex0, hbk1⟩ := K.shp.whl hx hk
  obtain ⟨hk0a, hk0b⟩ := K.shp.kids n x hx k0 (by simp [hks])
  have ek0 : ((k0.toNat : Nat) : Int) = k0 := by omega
  obtain ⟨hk1a, hk1b⟩ := K.shp.kids n x hx k1 (by simp [hks])
  have ek1 : ((k1.toNat : Nat) : Int) = k1 := by omega
  have hn : n < L.length := (List.getElem?_eq_some_iff.1 hx).1
  have hln := K.ln
  have hlm : (len : Int) ≤ 50000 := by have := K.few; omega
  have hnI : (n : Int) < len := by omega
  have HE : Hid (sN L ab n = ind ab ++ ([119, 104, 105, 108, 101, 32] ++ (eN L k0 ++ ([32, 123, 10] ++ (bN L (ab + 1) k1 ++ (ind ab ++ ([125, 10]))))))) := by unfold Hid; rw [sN_eq K.shp.kids (k := n) (by simpa using hx)]; simp [stmtX, hk, hks, atK, tx, wordB]
  have hsz : (ind ab ++ ([119, 104, 105, 108, 101, 32] ++ (eN L k0 ++ ([32, 123, 10] ++ (bN L (ab + 1) k1 ++ (ind ab ++ ([125, 10])))))) : List UInt8).length ≤ 100000000000 := by have := N.s ab n hn hab; rw [HE.out] at this; exact this
  try simp only [List.length_append, List.length_cons, List.length_nil] at hsz
  have hxs : x.text.data.toList.length = x.text.size := (Lib.size_eq _).symm
  try rw [hxs] at hsz
  obtain ⟨b, o, rfl, hb, NC⟩ := hL n x hx
  have n0 := NC.c0
  have n1 := NC.c1
  have n2 := NC.c2
  have n3 := NC.c3
  obtain ⟨kb, ko, hxa, hkb, kc0⟩ := NC.k 0 k0 (by simp [hks])
  obtain ⟨kb', ko', hxa', hkb', kc1⟩ := NC.k 1 k1 (by simp [hks])
  rw [hxa] at hxa'
  cases hxa'
  have C2 := fun w' (f' : Fr [] w w') => hE k0.toNat w' (by omega) (by omega) (by rw [ek0]; exact hex0) (hL.fr f' (by simp)) (Nat.le_trans hB f'.size)
  simp only [ek0] at C2
  have C4 := fun w' (f' : Fr [] w w') => hR k1.toNat w' (by omega) (by omega) (by omega) (by rw [ek1]; exact hbk1) (hL.fr f' (by simp)) (Nat.le_trans hB f'.size)
  simp only [ek1, ind_step] at C4
  clear NC hE hR K N hx
  obtain ⟨xk, xt, xa, xc, xks, xp⟩ := x
  simp only at *
  subst hk
  subst hks hxa
  simp only [List.length_cons, List.length_nil, Nat.zero_add] at n2
  generalize ind ab = I at *
  generalize eN L k0 = S2 at *
  generalize bN L (ab + 1) k1 = S4 at *
  have q1 : ¬ 9223372036854775807 < I.length + 6 := by omega
  have q2 : ¬ 9223372036854775807 < I.length + 6 + S2.length := by omega
  have q3 : ¬ 9223372036854775807 < I.length + 6 + S2.length + 3 := by omega
  have q4 : ¬ 9223372036854775807 < I.length + 6 + S2.length + 3 + S4.length := by omega
  have q5 : ¬ 9223372036854775807 < I.length + 6 + S2.length + 3 + S4.length + I.length := by omega
  have q6 : ¬ 9223372036854775807 < I.length + 6 + S2.length + 3 + S4.length + I.length + 2 := by omega
  have qI : ¬ 9223372036854775807 < I.length + 4 := by omega
  clear hsz hxs
  have f1 : Fr [] w (w.alloc (.cells #[.int .i64 8, .string xt, .slice (some ⟨kb, ko, none⟩) 2 xc, .int .i64 xp] 36)) := (Fr.refl _ _).alloc _
  have b1 := heap_alloc_new w (.cells #[.int .i64 8, .string xt, .slice (some ⟨kb, ko, none⟩) 2 xc, .int .i64 xp] 36)
  have kd0 := f1.cell1 kc0 (by simp)
  have kd1 := f1.cell1 kc1 (by simp)
  simp only [Nat.add_zero] at kd0
  go_enter Tryz.func64, Tryz.ntmps64
  go_wp2
  generalize w.alloc (.cells #[.int .i64 8, .string xt, .slice (some ⟨kb, ko, none⟩) 2 xc, .int .i64 xp] 36) = w1 at *
  generalize w.heap.size = g at *
  have s1 : ∀ w', Fr [] w1 w' → w'.cell? ⟨g, 1, none⟩ = _ := fun w' f => f.cell1 (at_cells b1 1 rfl) (by simp)
  have s2 : ∀ w', Fr [] w1 w' → w'.cell? ⟨g, 2, none⟩ = _ := fun w' f => f.cell1 (at_cells b1 2 rfl) (by simp)
  have r0 : ∀ w', Fr [] w1 w' → w'.cell? ⟨kb, ko, none⟩ = _ := fun w' f => f.cell1 kd0 (by simp)
  have r1 : ∀ w', Fr [] w1 w' → w'.cell? ⟨kb, ko + 1, none⟩ = _ := fun w' f => f.cell1 kd1 (by simp)
  have fA : Fr [] w1 w1 := Fr.refl _ _
  go_region_held3 (fun w' => Fr [] w1 w') (with_reducible (first | assumption | (refine Fr.drew ?_; assumption)))
    (first
      | (go_at_call_of 63 k0; refine (C2 _ (f1.trans (by first | assumption | exact Fr.drew (Fr.refl _ _)))).mono ?_; rintro e w32 ⟨rfl, f32⟩; have g32 : Fr [] w1 w32 := (by first | assumption | exact Fr.drew (Fr.refl _ _) : Fr [] w1 _).trans f32)
      | (go_at_call_of 31 k1; refine (C4 _ (f1.trans (by first | assumption | exact Fr.drew (Fr.refl _ _)))).mono ?_; rintro e w34 ⟨rfl, f34⟩; have g34 : Fr [] w1 w34 := (by first | assumption | exact Fr.drew (Fr.refl _ _) : Fr [] w1 _).trans f34))
  all_goals (go_wp2; go_ret; exact ⟨by rw [HE.out]; exact strE (by simp [data_app]), f1.trans (by assumption)⟩)
end
end Go.Proofs.YtnebhkglpggnlaaGreatDoor
namespace Go.Proofs.YtnebhkglpggnlaaGreatDoor
open Go.RowKit
set_option linter.unusedVariables false
set_option linter.unusedSimpArgs false

section
variable {L : List T5.Nd} {B : Nat} {a : Option Addr} {len cap : Nat}
set_option maxRecDepth 100000 in
set_option maxHeartbeats 2000000 in
theorem rstmt_9 (K : Cst L B a len) (N : Bnd L) {f : Nat} (hE : RE L B a len cap f) {ab : Nat} (hR : RBlo L B a len cap (ab + 1) f) {n : Nat} {x : T5.Nd} (hx : L[n]? = some x) (hk : x.kind = 9) (hf : n ≤ f) (hab : ab + n ≤ 50001) {w : World} (hL : T5.NAt B w a L) (hB : B ≤ w.heap.size) :
    Calls Tryz.prog 64 #[.slice a len cap, .int .i64 (n : Nat), .string ⟨(ind ab).toArray⟩] w fun e w' => e = .returned (.string ⟨(sN L ab n).toArray⟩) ∧ Fr [] w w' := by
  obtain ⟨k0, hks, hex0⟩ := K.shp.one hx (by simp [hk])
  obtain ⟨hk0a, hk0b⟩ := K.shp.kids n x hx k0 (by simp [hks])
  have ek0 : ((k0.toNat : Nat) : Int) = k0 := by omega
  have hn : n < L.length := (List.getElem?_eq_some_iff.1 hx).1
  have hln := K.ln
  have hlm : (len : Int) ≤ 50000 := by have := K.few; omega
  have hnI : (n : Int) < len := by omega
  have HE : Hid (sN L ab n = ind ab ++ ([114, 101, 116, 117, 114, 110, 32] ++ (eN L k0 ++ ([59, 10])))) := by unfold Hid; rw [sN_eq K.shp.kids (k := n) (by simpa using hx)]; simp [stmtX, hk, hks, atK, tx, wordB]
  have hsz : (ind ab ++ ([114, 101, 116, 117, 114, 110, 32] ++ (eN L k0 ++ ([59, 10]))) : List UInt8).length ≤ 100000000000 := by have := N.s ab n hn hab; rw [HE.out] at this; exact this
  try simp only [List.length_append, List.length_cons, List.length_nil] at hsz
  have hxs : x.text.data.toList.length = x.text.size := (Lib.size_eq _).symm
  try rw [hxs] at hsz
  obtain ⟨b, o, rfl, hb, NC⟩ := hL n x hx
  have n0 := NC.c0
  have n1 := NC.c1
  have n2 := NC.c2
  have n3 := NC.c3
  obtain ⟨kb, ko, hxa, hkb, kc0⟩ := NC.k 0 k0 (by simp [hks])
  have C2 := fun w' (f' : Fr [] w w') => hE k0.toNat w' (by omega) (by omega) (by rw [ek0]; exact hex0) (hL.fr f' (by simp)) (Nat.le_trans hB f'.size)
  simp only [ek0] at C2
  clear NC hE hR K N hx
  obtain ⟨xk, xt, xa, xc, xks, xp⟩ := x
  simp only at *
  subst hk
  subst hks hxa
  simp only [List.length_cons, List.length_nil, Nat.zero_add] at n2
  generalize ind ab = I at *
  generalize eN L k0 = S2 at *
  have q1 : ¬ 9223372036854775807 < I.length + 7 := by omega
  have q2 : ¬ 9223372036854775807 < I.length + 7 + S2.length := by omega
  have q3 : ¬ 9223372036854775807 < I.length + 7 + S2.length + 2 := by omega
  clear hsz hxs
  have f1 : Fr [] w (w.alloc (.cells #[.int .i64 9, .string xt, .slice (some ⟨kb, ko, none⟩) 1 xc, .int .i64 xp] 36)) := (Fr.refl _ _).alloc _
  have b1 := heap_alloc_new w (.cells #[.int .i64 9, .string xt, .slice (some ⟨kb, ko, none⟩) 1 xc, .int .i64 xp] 36)
  have kd0 := f1.cell1 kc0 (by simp)
  simp only [Nat.add_zero] at kd0
  go_enter Tryz.func64, Tryz.ntmps64
  have F0 := f1
  have D2 := C2 _ f1
  go_wp2_with fail
  refine D2.mono ?_
  rintro e w32 ⟨rfl, f32⟩
  have g32 := f1.trans f32
  go_wp2
  go_ret
  exact ⟨by rw [HE.out]; exact strE (by simp [data_app]), g32⟩
set_option maxRecDepth 100000 in
set_option maxHeartbeats 2000000 in
theorem rstmt_10 (K : Cst L B a len) (N : Bnd L) {f : Nat} (hE : RE L B a len cap f) {ab : Nat} (hR : RBlo L B a len cap (ab + 1) f) {n : Nat} {x : T5.Nd} (hx : L[n]? = some x) (hk : x.kind = 10) (hf : n ≤ f) (hab : ab + n ≤ 50001) {w : World} (hL : T5.NAt B w a L) (hB : B ≤ w.heap.size) :
    Calls Tryz.prog 64 #[.slice a len cap, .int .i64 (n : Nat), .string ⟨(ind ab).toArray⟩] w fun e w' => e = .returned (.string ⟨(sN L ab n).toArray⟩) ∧ Fr [] w w' := by
  obtain ⟨k0, hks, hex0⟩ := K.shp.one hx (by simp [hk])
  obtain ⟨hk0a, hk0b⟩ := K.shp.kids n x hx k0 (by simp [hks])
  have ek0 : ((k0.toNat : Nat) : Int) = k0 := by omega
  have hn : n < L.length := (List.getElem?_eq_some_iff.1 hx).1
  have hln := K.ln
  have hlm : (len : Int) ≤ 50000 := by have := K.few; omega
  have hnI : (n : Int) < len := by omega
  have HE : Hid (sN L ab n = ind ab ++ ([111, 117, 116, 32] ++ (eN L k0 ++ ([59, 10])))) := by unfold Hid; rw [sN_eq K.shp.kids (k := n) (by simpa using hx)]; simp [stmtX, hk, hks, atK, tx, wordB]
  have hsz : (ind ab ++ ([111, 117, 116, 32] ++ (eN L k0 ++ ([59, 10]))) : List UInt8).length ≤ 100000000000 := by have := N.s ab n hn hab; rw [HE.out] at this; exact this
  try simp only [List.length_append, List.length_cons, List.length_nil] at hsz
  have hxs : x.text.data.toList.length = x.text.size := (Lib.size_eq _).symm
  try rw [hxs] at hsz
  obtain ⟨b, o, rfl, hb, NC⟩ := hL n x hx
  have n0 := NC.c0
  have n1 := NC.c1
  have n2 := NC.c2
  have n3 := NC.c3
  obtain ⟨kb, ko, hxa, hkb, kc0⟩ := NC.k 0 k0 (by simp [hks])
  have C2 := fun w' (f' : Fr [] w w') => hE k0.toNat w' (by omega) (by omega) (by rw [ek0]; exact hex0) (hL.fr f' (by simp)) (Nat.le_trans hB f'.size)
  simp only [ek0] at C2
  clear NC hE hR K N hx
  obtain ⟨xk, xt, xa, xc, xks, xp⟩ := x
  simp only at *
  subst hk
  subst hks hxa
  simp only [List.length_cons, List.length_nil, Nat.zero_add] at n2
  generalize ind ab = I at *
  generalize eN L k0 = S2 at *
  have q1 : ¬ 9223372036854775807 < I.length + 4 := by omega
  have q2 : ¬ 9223372036854775807 < I.length + 4 + S2.length := by omega
  have q3 : ¬ 9223372036854775807 < I.length + 4 + S2.length + 2 := by omega
  clear hsz hxs
  have f1 : Fr [] w (w.alloc (.cells #[.int .i64 10, .string xt, .slice (some ⟨kb, ko, none⟩) 1 xc, .int .i64 xp] 36)) := (Fr.refl _ _).alloc _
  have b1 := heap_alloc_new w (.cells #[.int .i64 10, .string xt, .slice (some ⟨kb, ko, none⟩) 1 xc, .int .i64 xp] 36)
  have kd0 := f1.cell1 kc0 (by simp)
  simp only [Nat.add_zero] at kd0
  go_enter Tryz.func64, Tryz.ntmps64
  have F0 := f1
  have D2 := C2 _ f1
  go_wp2_with fail
  refine D2.mono ?_
  rintro e w32 ⟨rfl, f32⟩
  have g32 := f1.trans f32
  go_wp2
  go_ret
  exact ⟨by rw [HE.out]; exact strE (by simp [data_app]), g32⟩
set_option maxRecDepth 100000 in
set_option maxHeartbeats 2000000 in
theorem rstmt_11 (K : Cst L B a len) (N : Bnd L) {f : Nat} (hE : RE L B a len cap f) {ab : Nat} (hR : RBlo L B a len cap (ab + 1) f) {n : Nat} {x : T5.Nd} (hx : L[n]? = some x) (hk : x.kind = 11) (hf : n ≤ f) (hab : ab + n ≤ 50001) {w : World} (hL : T5.NAt B w a L) (hB : B ≤ w.heap.size) :
    Calls Tryz.prog 64 #[.slice a len cap, .int .i64 (n : Nat), .string ⟨(ind ab).toArray⟩] w fun e w' => e = .returned (.string ⟨(sN L ab n).toArray⟩) ∧ Fr [] w w' := by
  obtain ⟨k0, hks, hex0⟩ := K.shp.one hx (by simp [hk])
  obtain ⟨hk0a, hk0b⟩ := K.shp.kids n x hx k0 (by simp [hks])
  have ek0 : ((k0.toNat : Nat) : Int) = k0 := by omega
  have hn : n < L.length := (List.getElem?_eq_some_iff.1 hx).1
  have hln := K.ln
  have hlm : (len : Int) ≤ 50000 := by have := K.few; omega
  have hnI : (n : Int) < len := by omega
  have HE : Hid (sN L ab n = ind ab ++ ([115, 116, 111, 112, 32] ++ (eN L k0 ++ ([59, 10])))) := by unfold Hid; rw [sN_eq K.shp.kids (k := n) (by simpa using hx)]; simp [stmtX, hk, hks, atK, tx, wordB]
  have hsz : (ind ab ++ ([115, 116, 111, 112, 32] ++ (eN L k0 ++ ([59, 10]))) : List UInt8).length ≤ 100000000000 := by have := N.s ab n hn hab; rw [HE.out] at this; exact this
  try simp only [List.length_append, List.length_cons, List.length_nil] at hsz
  have hxs : x.text.data.toList.length = x.text.size := (Lib.size_eq _).symm
  try rw [hxs] at hsz
  obtain ⟨b, o, rfl, hb, NC⟩ := hL n x hx
  have n0 := NC.c0
  have n1 := NC.c1
  have n2 := NC.c2
  have n3 := NC.c3
  obtain ⟨kb, ko, hxa, hkb, kc0⟩ := NC.k 0 k0 (by simp [hks])
  have C2 := fun w' (f' : Fr [] w w') => hE k0.toNat w' (by omega) (by omega) (by rw [ek0]; exact hex0) (hL.fr f' (by simp)) (Nat.le_trans hB f'.size)
  simp only [ek0] at C2
  clear NC hE hR K N hx
  obtain ⟨xk, xt, xa, xc, xks, xp⟩ := x
  simp only at *
  subst hk
  subst hks hxa
  simp only [List.length_cons, List.length_nil, Nat.zero_add] at n2
  generalize ind ab = I at *
  generalize eN L k0 = S2 at *
  have q1 : ¬ 9223372036854775807 < I.length + 5 := by omega
  have q2 : ¬ 9223372036854775807 < I.length + 5 + S2.length := by omega
  have q3 : ¬ 9223372036854775807 < I.length + 5 + S2.length + 2 := by omega
  clear hsz hxs
  have f1 : Fr [] w (w.alloc (.cells #[.int .i64 11, .string xt, .slice (some ⟨kb, ko, none⟩) 1 xc, .int .i64 xp] 36)) := (Fr.refl _ _).alloc _
  have b1 := heap_alloc_new w (.cells #[.int .i64 11, .string xt, .slice (some ⟨kb, ko, none⟩) 1 xc, .int .i64 xp] 36)
  have kd0 := f1.cell1 kc0 (by simp)
  simp only [Nat.add_zero] at kd0
  go_enter Tryz.func64, Tryz.ntmps64
  have F0 := f1
  have D2 := C2 _ f1
  go_wp2_with fail
  refine D2.mono ?_
  rintro e w32 ⟨rfl, f32⟩
  have g32 := f1.trans f32
  go_wp2
  go_ret
  exact ⟨by rw [HE.out]; exact strE (by simp [data_app]), g32⟩
set_option maxRecDepth 100000 in
set_option maxHeartbeats 2000000 in
theorem rstmt_12 (K : Cst L B a len) (N : Bnd L) {f : Nat} (hE : RE L B a len cap f) {ab : Nat} (hR : RBlo L B a len cap (ab + 1) f) {n : Nat} {x : T5.Nd} (hx : L[n]? = some x) (hk : x.kind = 12) (hf : n ≤ f) (hab : ab + n ≤ 50001) {w : World} (hL : T5.NAt B w a L) (hB : B ≤ w.heap.size) :
    Calls Tryz.prog 64 #[.slice a len cap, .int .i64 (n : Nat), .string ⟨(ind ab).toArray⟩] w fun e w' => e = .returned (.string ⟨(sN L ab n).toArray⟩) ∧ Fr [] w w' := by
  obtain ⟨k0, hks, hdo⟩ := K.shp.do_ hx hk
  have hex0 : T5.isEx (T5.kd L k0) = true := by rw [hdo]; rfl
  obtain ⟨hk0a, hk0b⟩ := K.shp.kids n x hx k0 (by simp [hks])
  have ek0 : ((k0.toNat : Nat) : Int) = k0 := by omega
  have hn : n < L.length := (List.getElem?_eq_some_iff.1 hx).1
  have hln := K.ln
  have hlm : (len : Int) ≤ 50000 := by have := K.few; omega
  have hnI : (n : Int) < len := by omega
  have HE : Hid (sN L ab n = ind ab ++ (eN L k0 ++ ([59, 10]))) := by unfold Hid; rw [sN_eq K.shp.kids (k := n) (by simpa using hx)]; simp [stmtX, hk, hks, atK, tx, wordB]
  have hsz : (ind ab ++ (eN L k0 ++ ([59, 10])) : List UInt8).length ≤ 100000000000 := by have := N.s ab n hn hab; rw [HE.out] at this; exact this
  try simp only [List.length_append, List.length_cons, List.length_nil] at hsz
  have hxs : x.text.data.toList.length = x.text.size := (Lib.size_eq _).symm
  try rw [hxs] at hsz
  obtain ⟨b, o, rfl, hb, NC⟩ := hL n x hx
  have n0 := NC.c0
  have n1 := NC.c1
  have n2 := NC.c2
  have n3 := NC.c3
  obtain ⟨kb, ko, hxa, hkb, kc0⟩ := NC.k 0 k0 (by simp [hks])
  have C1 := fun w' (f' : Fr [] w w') => hE k0.toNat w' (by omega) (by omega) (by rw [ek0]; exact hex0) (hL.fr f' (by simp)) (Nat.le_trans hB f'.size)
  simp only [ek0] at C1
  clear NC hE hR K N hx
  obtain ⟨xk, xt, xa, xc, xks, xp⟩ := x
  simp only at *
  subst hk
  subst hks hxa
  simp only [List.length_cons, List.length_nil, Nat.zero_add] at n2
  generalize ind ab = I at *
  generalize eN L k0 = S1 at *
  have q1 : ¬ 9223372036854775807 < I.length + S1.length := by omega
  have q2 : ¬ 9223372036854775807 < I.length + S1.length + 2 := by omega
  clear hsz hxs
  have f1 : Fr [] w (w.alloc (.cells #[.int .i64 12, .string xt, .slice (some ⟨kb, ko, none⟩) 1 xc, .int .i64 xp] 36)) := (Fr.refl _ _).alloc _
  have b1 := heap_alloc_new w (.cells #[.int .i64 12, .string xt, .slice (some ⟨kb, ko, none⟩) 1 xc, .int .i64 xp] 36)
  have kd0 := f1.cell1 kc0 (by simp)
  simp only [Nat.add_zero] at kd0
  go_enter Tryz.func64, Tryz.ntmps64
  have F0 := f1
  have D1 := C1 _ f1
  go_wp2_with fail
  refine D1.mono ?_
  rintro e w31 ⟨rfl, f31⟩
  have g31 := f1.trans f31
  go_wp2
  go_ret
  exact ⟨by rw [HE.out]; exact strE (by simp [data_app]), g31⟩
set_option maxRecDepth 100000 in
set_option maxHeartbeats 2000000 in
theorem rstmt_13 (K : Cst L B a len) (N : Bnd L) {f : Nat} (hE : RE L B a len cap f) {ab : Nat} (hR : RBlo L B a len cap (ab + 1) f) {n : Nat} {x : T5.Nd} (hx : L[n]? = some x) (hk : x.kind = 13) (hf : n ≤ f) (hab : ab + n ≤ 50001) {w : World} (hL : T5.NAt B w a L) (hB : B ≤ w.heap.size) :
    Calls Tryz.prog 64 #[.slice a len cap, .int .i64 (n : Nat), .string ⟨(ind ab).toArray⟩] w fun e w' => e = .returned (.string ⟨(sN L ab n).toArray⟩) ∧ Fr [] w w' := by
  have hmany := K.shp.many hx (by simp [hk])
  have hn : n < L.length := (List.getElem?_eq_some_iff.1 hx).1
  have hln := K.ln
  have hlm : (len : Int) ≤ 50000 := by have := K.few; omega
  have hnI : (n : Int) < len := by omega
  have HE : Hid (sN L ab n = ind ab ++ ([109, 101, 114, 103, 101, 40] ++ (joinC (x.ks.map (eN L)) ++ ([41, 59, 10])))) := by unfold Hid; rw [sN_eq K.shp.kids (k := n) (by simpa using hx)]; simp [stmtX, hk, atK, tx, wordB]
  have hsz : (ind ab ++ ([109, 101, 114, 103, 101, 40] ++ (joinC (x.ks.map (eN L)) ++ ([41, 59, 10]))) : List UInt8).length ≤ 100000000000 := by have := N.s ab n hn hab; rw [HE.out] at this; exact this
  try simp only [List.length_append, List.length_cons, List.length_nil] at hsz
  have hxs : x.text.data.toList.length = x.text.size := (Lib.size_eq _).symm
  try rw [hxs] at hsz
  obtain ⟨b, o, rfl, hb, NC⟩ := hL n x hx
  have n0 := NC.c0
  have n1 := NC.c1
  have n2 := NC.c2
  have n3 := NC.c3
  have HKA := NC.k
  have HKC := NC.kc
  have HKF := K.kf n x hx
  have HKD := K.shp.kids n x hx
  have C2 := fun w' (f' : Fr [] w w') => list_any K hE x.ks (fun k hk => by have := HKD k hk; exact ⟨this.1, by omega, by omega, hmany k hk⟩) (HKA.fr f' (by simp)) HKC (by omega) (hL.fr f' (by simp)) (Nat.le_trans hB f'.size) (by omega)
  clear NC hE hR K N hx
  obtain ⟨xk, xt, xa, xc, xks, xp⟩ := x
  simp only at *
  subst hk
  generalize ind ab = I at *
  generalize joinC (xks.map (eN L)) = S2 at *
  have q1 : ¬ 9223372036854775807 < I.length + 6 := by omega
  have q2 : ¬ 9223372036854775807 < I.length + 6 + S2.length := by omega
  have q3 : ¬ 9223372036854775807 < I.length + 6 + S2.length + 3 := by omega
  clear hsz hxs
  have f1 : Fr [] w (w.alloc (.cells #[.int .i64 13, .string xt, .slice xa xks.length xc, .int .i64 xp] 36)) := (Fr.refl _ _).alloc _
  have b1 := heap_alloc_new w (.cells #[.int .i64 13, .string xt, .slice xa xks.length xc, .int .i64 xp] 36)
  go_enter Tryz.func64, Tryz.ntmps64
  have F0 := f1
  have D2 := C2 _ f1
  go_wp2_with fail
  refine D2.mono ?_
  rintro e w32 ⟨rfl, f32⟩
  have g32 := f1.trans f32
  go_wp2
  go_ret
  exact ⟨by rw [HE.out]; exact strE (by simp [data_app]), g32⟩
end
end Go.Proofs.YtnebhkglpggnlaaGreatDoor
namespace Go.Proofs.YtnebhkglpggnlaaGreatDoor
open Go.RowKit
set_option linter.unusedVariables false
set_option linter.unusedSimpArgs false

section
variable {L : List T5.Nd} {B : Nat} {a : Option Addr} {len cap : Nat}
set_option maxRecDepth 100000 in
set_option maxHeartbeats 2000000 in
theorem rstmt_7a (K : Cst L B a len) (N : Bnd L) {f : Nat} (hE : RE L B a len cap f) {ab : Nat} (hR : RBlo L B a len cap (ab + 1) f) {n : Nat} {x : T5.Nd} (hx : L[n]? = some x) (hk : x.kind = 7) (hel : ∀ k, x.ks[2]? = some k → T5.kd L k = 4) (hf : n ≤ f) (hab : ab + n ≤ 50001) {w : World} (hL : T5.NAt B w a L) (hB : B ≤ w.heap.size) :
    Calls Tryz.prog 64 #[.slice a len cap, .int .i64 (n : Nat), .string ⟨(ind ab).toArray⟩] w fun e w' => e = .returned (.string ⟨(sN L ab n).toArray⟩) ∧ Fr [] w w' := by
  obtain ⟨k0, k1, k2, hks, hex0, hbk1, hbk2⟩ := K.shp.iff_ hx hk
  have hel : T5.kd L k2 = 4 := hel k2 (by simp [hks])
  obtain ⟨hk0a, hk0b⟩ := K.shp.kids n x hx k0 (by simp [hks])
  have ek0 : ((k0.toNat : Nat) : Int) = k0 := by omega
  obtain ⟨hk1a, hk1b⟩ := K.shp.kids n x hx k1 (by simp [hks])
  have ek1 : ((k1.toNat : Nat) : Int) = k1 := by omega
  obtain ⟨hk2a, hk2b⟩ := K.shp.kids n x hx k2 (by simp [hks])
  have ek2 : ((k2.toNat : Nat) : Int) = k2 := by omega
  have hn : n < L.length := (List.getElem?_eq_some_iff.1 hx).1
  have hln := K.ln
  have hlm : (len : Int) ≤ 50000 := by have := K.few; omega
  have hnI : (n : Int) < len := by omega
  obtain ⟨y, hy⟩ : ∃ y, L[k2.toNat]? = some y := ⟨_, List.getElem?_eq_getElem (by omega)⟩
  have hyk : y.kind = 4 := by rw [← hel]; unfold T5.kd; simp [hy]
  have HE : Hid (sN L ab n = ind ab ++ ([105, 102, 32] ++ (eN L k0 ++ ([32, 123, 10] ++ (bN L (ab + 1) k1 ++ (ind ab ++ ([125] ++ ([32, 101, 108, 115, 101, 32, 123, 10] ++ (bN L (ab + 1) k2 ++ (ind ab ++ ([125] ++ ([10])))))))))))) := by unfold Hid; rw [sN_eq K.shp.kids (k := n) (by simpa using hx)]; simp [stmtX, hk, hks, atK, tx, elseB, hel]
  have hsz : (ind ab ++ ([105, 102, 32] ++ (eN L k0 ++ ([32, 123, 10] ++ (bN L (ab + 1) k1 ++ (ind ab ++ ([125] ++ ([32, 101, 108, 115, 101, 32, 123, 10] ++ (bN L (ab + 1) k2 ++ (ind ab ++ ([125] ++ ([10]))))))))))) : List UInt8).length ≤ 100000000000 := by have := N.s ab n hn hab; rw [HE.out] at this; exact this
  try simp only [List.length_append, List.length_cons, List.length_nil] at hsz
  have hxs : x.text.data.toList.length = x.text.size := (Lib.size_eq _).symm
  try rw [hxs] at hsz
  obtain ⟨b, o, rfl, hb, NC⟩ := hL n x hx
  obtain ⟨b', o', he', _, y0, _⟩ := NAt.cells hL hy
  cases he'
  rw [hyk] at y0
  have hk2I : k2 < len := by omega
  have n0 := NC.c0
  have n1 := NC.c1
  have n2 := NC.c2
  have n3 := NC.c3
  obtain ⟨kb, ko, hxa, hkb, kc0⟩ := NC.k 0 k0 (by simp [hks])
  obtain ⟨kb', ko', hxa', hkb', kc1⟩ := NC.k 1 k1 (by simp [hks])
  rw [hxa] at hxa'
  cases hxa'
  obtain ⟨kb', ko', hxa', hkb', kc2⟩ := NC.k 2 k2 (by simp [hks])
  rw [hxa] at hxa'
  cases hxa'
  have C2 := fun w' (f' : Fr [] w w') => hE k0.toNat w' (by omega) (by omega) (by rw [ek0]; exact hex0) (hL.fr f' (by simp)) (Nat.le_trans hB f'.size)
  simp only [ek0] at C2
  have C4 := fun w' (f' : Fr [] w w') => hR k1.toNat w' (by omega) (by omega) (by omega) (by rw [ek1]; exact hbk1) (hL.fr f' (by simp)) (Nat.le_trans hB f'.size)
  simp only [ek1, ind_step] at C4
  have C8 := fun w' (f' : Fr [] w w') => hR k2.toNat w' (by omega) (by omega) (by omega) (by rw [ek2]; exact hel) (hL.fr f' (by simp)) (Nat.le_trans hB f'.size)
  simp only [ek2, ind_step] at C8
  clear NC hE hR K N hx hy hyk hel hbk2 hbk1 hex0
  obtain ⟨xk, xt, xa, xc, xks, xp⟩ := x
  simp only at *
  subst hk
  subst hks hxa
  simp only [List.length_cons, List.length_nil, Nat.zero_add] at n2
  generalize ind ab = I at *
  generalize eN L k0 = S2 at *
  generalize bN L (ab + 1) k1 = S4 at *
  generalize bN L (ab + 1) k2 = S8 at *
  have q1 : ¬ 9223372036854775807 < I.length + 3 := by omega
  have q2 : ¬ 9223372036854775807 < I.length + 3 + S2.length := by omega
  have q3 : ¬ 9223372036854775807 < I.length + 3 + S2.length + 3 := by omega
  have q4 : ¬ 9223372036854775807 < I.length + 3 + S2.length + 3 + S4.length := by omega
  have q5 : ¬ 9223372036854775807 < I.length + 3 + S2.length + 3 + S4.length + I.length := by omega
  have q6 : ¬ 9223372036854775807 < I.length + 3 + S2.length + 3 + S4.length + I.length + 1 := by omega
  have p1 : ¬ 9223372036854775807 < 8 + S8.length := by omega
  have p2 : ¬ 9223372036854775807 < 8 + S8.length + I.length := by omega
  have p3 : ¬ 9223372036854775807 < 8 + S8.length + I.length + 1 := by omega
  have p4 : ¬ 9223372036854775807 < I.length + 3 + S2.length + 3 + S4.length + I.length + 1 + (8 + S8.length + I.length + 1) := by omega
  have p5 : ¬ 9223372036854775807 < I.length + 3 + S2.length + 3 + S4.length + I.length + 1 + (8 + S8.length + I.length + 1) + 1 := by omega
  have qI : ¬ 9223372036854775807 < I.length + 4 := by omega
  clear hsz hxs
  have f1 : Fr [] w (w.alloc (.cells #[.int .i64 7, .string xt, .slice (some ⟨kb, ko, none⟩) 3 xc, .int .i64 xp] 36)) := (Fr.refl _ _).alloc _
  have b1 := heap_alloc_new w (.cells #[.int .i64 7, .string xt, .slice (some ⟨kb, ko, none⟩) 3 xc, .int .i64 xp] 36)
  have kd0 := f1.cell1 kc0 (by simp)
  have kd1 := f1.cell1 kc1 (by simp)
  have kd2 := f1.cell1 kc2 (by simp)
  simp only [Nat.add_zero] at kd0
  go_enter Tryz.func64, Tryz.ntmps64
  go_wp2
  generalize w.alloc (.cells #[.int .i64 7, .string xt, .slice (some ⟨kb, ko, none⟩) 3 xc, .int .i64 xp] 36) = w1 at *
  generalize w.heap.size = g at *
  have s1 : ∀ w', Fr [] w1 w' → w'.cell? ⟨g, 1, none⟩ = _ := fun w' f => f.cell1 (at_cells b1 1 rfl) (by simp)
  have s2 : ∀ w', Fr [] w1 w' → w'.cell? ⟨g, 2, none⟩ = _ := fun w' f => f.cell1 (at_cells b1 2 rfl) (by simp)
  have r0 : ∀ w', Fr [] w1 w' → w'.cell? ⟨kb, ko, none⟩ = _ := fun w' f => f.cell1 kd0 (by simp)
  have r1 : ∀ w', Fr [] w1 w' → w'.cell? ⟨kb, ko + 1, none⟩ = _ := fun w' f => f.cell1 kd1 (by simp)
  have r2 : ∀ w', Fr [] w1 w' → w'.cell? ⟨kb, ko + 2, none⟩ = _ := fun w' f => f.cell1 kd2 (by simp)
  have m2 : ∀ w', Fr [] w1 w' → w'.cell? ⟨b, o + k2.toNat * 4, none⟩ = _ := fun w' f => (f1.trans f).cell1 y0 (by simp)
  have fA : Fr [] w1 w1 := Fr.refl _ _
  go_region_held3 (fun w' => Fr [] w1 w') (with_reducible (first | assumption | (refine Fr.drew ?_; assumption)))
    (first
      | (go_at_call_of 63 k0; refine (C2 _ (f1.trans (by first | assumption | exact Fr.drew (Fr.refl _ _)))).mono ?_; rintro e w32 ⟨rfl, f32⟩; have g32 : Fr [] w1 w32 := (by first | assumption | exact Fr.drew (Fr.refl _ _) : Fr [] w1 _).trans f32)
      | (go_at_call_of 31 k1; refine (C4 _ (f1.trans (by first | assumption | exact Fr.drew (Fr.refl _ _)))).mono ?_; rintro e w34 ⟨rfl, f34⟩; have g34 : Fr [] w1 w34 := (by first | assumption | exact Fr.drew (Fr.refl _ _) : Fr [] w1 _).trans f34))
  all_goals (
    have z2 := r2 _ g32
    have z4 := r2 _ g34
    have z2' := m2 _ g32
    have z4' := m2 _ g34
    go_wp2_with fail
    first
      | (refine (C8 _ (f1.trans g32)).mono ?_; rintro e w38 ⟨rfl, f38⟩; have g38 := g32.trans f38; go_wp2; go_ret; exact ⟨by rw [HE.out]; exact strE (by simp [data_app]), f1.trans g38⟩)
      | (refine (C8 _ (f1.trans g34)).mono ?_; rintro e w38 ⟨rfl, f38⟩; have g38 := g34.trans f38; go_wp2; go_ret; exact ⟨by rw [HE.out]; exact strE (by simp [data_app]), f1.trans g38⟩))
end
end Go.Proofs.YtnebhkglpggnlaaGreatDoor
namespace Go.Proofs.YtnebhkglpggnlaaGreatDoor
open Go.RowKit
set_option linter.unusedVariables false
set_option linter.unusedSimpArgs false

section
variable {L : List T5.Nd} {B : Nat} {a : Option Addr} {len cap : Nat}
set_option maxRecDepth 100000 in
set_option maxHeartbeats 2000000 in
theorem rstmt_7b (K : Cst L B a len) (N : Bnd L) {f : Nat} (hE : RE L B a len cap f) {ab : Nat} (hR : RBlo L B a len cap (ab + 1) f) {n : Nat} {x : T5.Nd} (hx : L[n]? = some x) (hk : x.kind = 7) (hel : ∀ k, x.ks[2]? = some k → T5.kd L k = 14) (hf : n ≤ f) (hab : ab + n ≤ 50001) {w : World} (hL : T5.NAt B w a L) (hB : B ≤ w.heap.size) :
    Calls Tryz.prog 64 #[.slice a len cap, .int .i64 (n : Nat), .string ⟨(ind ab).toArray⟩] w fun e w' => e = .returned (.string ⟨(sN L ab n).toArray⟩) ∧ Fr [] w w' := by
  obtain ⟨k0, k1, k2, hks, hex0, hbk1, hbk2⟩ := K.shp.iff_ hx hk
  have hel : T5.kd L k2 = 14 := hel k2 (by simp [hks])
  obtain ⟨hk0a, hk0b⟩ := K.shp.kids n x hx k0 (by simp [hks])
  have ek0 : ((k0.toNat : Nat) : Int) = k0 := by omega
  obtain ⟨hk1a, hk1b⟩ := K.shp.kids n x hx k1 (by simp [hks])
  have ek1 : ((k1.toNat : Nat) : Int) = k1 := by omega
  obtain ⟨hk2a, hk2b⟩ := K.shp.kids n x hx k2 (by simp [hks])
  have ek2 : ((k2.toNat : Nat) : Int) = k2 := by omega
  have hn : n < L.length := (List.getElem?_eq_some_iff.1 hx).1
  have hln := K.ln
  have hlm : (len : Int) ≤ 50000 := by have := K.few; omega
  have hnI : (n : Int) < len := by omega
  obtain ⟨y, hy⟩ : ∃ y, L[k2.toNat]? = some y := ⟨_, List.getElem?_eq_getElem (by omega)⟩
  have hyk : y.kind = 14 := by rw [← hel]; unfold T5.kd; simp [hy]
  have HE : Hid (sN L ab n = ind ab ++ ([105, 102, 32] ++ (eN L k0 ++ ([32, 123, 10] ++ (bN L (ab + 1) k1 ++ (ind ab ++ ([125] ++ ([10])))))))) := by unfold Hid; rw [sN_eq K.shp.kids (k := n) (by simpa using hx)]; simp [stmtX, hk, hks, atK, tx, elseB, hel]
  have hsz : (ind ab ++ ([105, 102, 32] ++ (eN L k0 ++ ([32, 123, 10] ++ (bN L (ab + 1) k1 ++ (ind ab ++ ([125] ++ ([10]))))))) : List UInt8).length ≤ 100000000000 := by have := N.s ab n hn hab; rw [HE.out] at this; exact this
  try simp only [List.length_append, List.length_cons, List.length_nil] at hsz
  have hxs : x.text.data.toList.length = x.text.size := (Lib.size_eq _).symm
  try rw [hxs] at hsz
  obtain ⟨b, o, rfl, hb, NC⟩ := hL n x hx
  obtain ⟨b', o', he', _, y0, _⟩ := NAt.cells hL hy
  cases he'
  rw [hyk] at y0
  have hk2I : k2 < len := by omega
  have n0 := NC.c0
  have n1 := NC.c1
  have n2 := NC.c2
  have n3 := NC.c3
  obtain ⟨kb, ko, hxa, hkb, kc0⟩ := NC.k 0 k0 (by simp [hks])
  obtain ⟨kb', ko', hxa', hkb', kc1⟩ := NC.k 1 k1 (by simp [hks])
  rw [hxa] at hxa'
  cases hxa'
  obtain ⟨kb', ko', hxa', hkb', kc2⟩ := NC.k 2 k2 (by simp [hks])
  rw [hxa] at hxa'
  cases hxa'
  have C2 := fun w' (f' : Fr [] w w') => hE k0.toNat w' (by omega) (by omega) (by rw [ek0]; exact hex0) (hL.fr f' (by simp)) (Nat.le_trans hB f'.size)
  simp only [ek0] at C2
  have C4 := fun w' (f' : Fr [] w w') => hR k1.toNat w' (by omega) (by omega) (by omega) (by rw [ek1]; exact hbk1) (hL.fr f' (by simp)) (Nat.le_trans hB f'.size)
  simp only [ek1, ind_step] at C4
  clear NC hE hR K N hx hy hyk hel hbk2 hbk1 hex0
  obtain ⟨xk, xt, xa, xc, xks, xp⟩ := x
  simp only at *
  subst hk
  subst hks hxa
  simp only [List.length_cons, List.length_nil, Nat.zero_add] at n2
  generalize ind ab = I at *
  generalize eN L k0 = S2 at *
  generalize bN L (ab + 1) k1 = S4 at *
  have q1 : ¬ 9223372036854775807 < I.length + 3 := by omega
  have q2 : ¬ 9223372036854775807 < I.length + 3 + S2.length := by omega
  have q3 : ¬ 9223372036854775807 < I.length + 3 + S2.length + 3 := by omega
  have q4 : ¬ 9223372036854775807 < I.length + 3 + S2.length + 3 + S4.length := by omega
  have q5 : ¬ 9223372036854775807 < I.length + 3 + S2.length + 3 + S4.length + I.length := by omega
  have q6 : ¬ 9223372036854775807 < I.length + 3 + S2.length + 3 + S4.length + I.length + 1 := by omega
  have q7 : ¬ 9223372036854775807 < I.length + 3 + S2.length + 3 + S4.length + I.length + 1 + 1 := by omega
  have qI : ¬ 9223372036854775807 < I.length + 4 := by omega
  clear hsz hxs
  have f1 : Fr [] w (w.alloc (.cells #[.int .i64 7, .string xt, .slice (some ⟨kb, ko, none⟩) 3 xc, .int .i64 xp] 36)) := (Fr.refl _ _).alloc _
  have b1 := heap_alloc_new w (.cells #[.int .i64 7, .string xt, .slice (some ⟨kb, ko, none⟩) 3 xc, .int .i64 xp] 36)
  have kd0 := f1.cell1 kc0 (by simp)
  have kd1 := f1.cell1 kc1 (by simp)
  have kd2 := f1.cell1 kc2 (by simp)
  simp only [Nat.add_zero] at kd0
  go_enter Tryz.func64, Tryz.ntmps64
  go_wp2
  generalize w.alloc (.cells #[.int .i64 7, .string xt, .slice (some ⟨kb, ko, none⟩) 3 xc, .int .i64 xp] 36) = w1 at *
  generalize w.heap.size = g at *
  have s1 : ∀ w', Fr [] w1 w' → w'.cell? ⟨g, 1, none⟩ = _ := fun w' f => f.cell1 (at_cells b1 1 rfl) (by simp)
  have s2 : ∀ w', Fr [] w1 w' → w'.cell? ⟨g, 2, none⟩ = _ := fun w' f => f.cell1 (at_cells b1 2 rfl) (by simp)
  have r0 : ∀ w', Fr [] w1 w' → w'.cell? ⟨kb, ko, none⟩ = _ := fun w' f => f.cell1 kd0 (by simp)
  have r1 : ∀ w', Fr [] w1 w' → w'.cell? ⟨kb, ko + 1, none⟩ = _ := fun w' f => f.cell1 kd1 (by simp)
  have r2 : ∀ w', Fr [] w1 w' → w'.cell? ⟨kb, ko + 2, none⟩ = _ := fun w' f => f.cell1 kd2 (by simp)
  have m2 : ∀ w', Fr [] w1 w' → w'.cell? ⟨b, o + k2.toNat * 4, none⟩ = _ := fun w' f => (f1.trans f).cell1 y0 (by simp)
  have fA : Fr [] w1 w1 := Fr.refl _ _
  go_region_held3 (fun w' => Fr [] w1 w') (with_reducible (first | assumption | (refine Fr.drew ?_; assumption)))
    (first
      | (go_at_call_of 63 k0; refine (C2 _ (f1.trans (by first | assumption | exact Fr.drew (Fr.refl _ _)))).mono ?_; rintro e w32 ⟨rfl, f32⟩; have g32 : Fr [] w1 w32 := (by first | assumption | exact Fr.drew (Fr.refl _ _) : Fr [] w1 _).trans f32)
      | (go_at_call_of 31 k1; refine (C4 _ (f1.trans (by first | assumption | exact Fr.drew (Fr.refl _ _)))).mono ?_; rintro e w34 ⟨rfl, f34⟩; have g34 : Fr [] w1 w34 := (by first | assumption | exact Fr.drew (Fr.refl _ _) : Fr [] w1 _).trans f34))
  all_goals (
    have z2 := r2 _ g32
    have z4 := r2 _ g34
    have z2' := m2 _ g32
    have z4' := m2 _ g34
    go_wp2
    go_ret
    exact ⟨by rw [HE.out]; exact strE (by simp [data_app]), f1.trans (by assumption)⟩)
end
end Go.Proofs.YtnebhkglpggnlaaGreatDoor
namespace Go.Proofs.YtnebhkglpggnlaaGreatDoor
open Go.RowKit
set_option linter.unusedVariables false
set_option linter.unusedSimpArgs false

section
variable {L : List T5.Nd} {B : Nat} {a : Option Addr} {len cap : Nat}
set_option maxRecDepth 100000 in
set_option maxHeartbeats 2000000 in
theorem rdecl_2 (K : Cst L B a len) (N : Bnd L) {f : Nat} (hE : RE L B a len cap f) {n : Nat} {x : T5.Nd} (hx : L[n]? = some x) (hk : x.kind = 2) (hf : n ≤ f) {w : World} (hL : T5.NAt B w a L) (hB : B ≤ w.heap.size) :
    Calls Tryz.prog 16 #[.slice a len cap, .int .i64 (n : Nat)] w fun e w' => e = .returned (.string ⟨(dN L n).toArray⟩) ∧ Fr [] w w' := by
  have hmany := K.shp.many hx (by simp [hk])
  have hn : n < L.length := (List.getElem?_eq_some_iff.1 hx).1
  have hln := K.ln
  have hlm : (len : Int) ≤ 50000 := by have := K.few; omega
  have hnI : (n : Int) < len := by omega
  have HE : Hid (dN L n = [114, 101, 99, 32] ++ (x.text.data.toList ++ ([32, 123] ++ (joinC (x.ks.map (eN L)) ++ ([125, 10]))))) := by unfold Hid; simp [dN, hx, declX, hk, tx]
  have hsz : ([114, 101, 99, 32] ++ (x.text.data.toList ++ ([32, 123] ++ (joinC (x.ks.map (eN L)) ++ ([125, 10])))) : List UInt8).length ≤ 100000000000 := by have := N.d n hn; rw [HE.out] at this; exact this
  try simp only [List.length_append, List.length_cons, List.length_nil] at hsz
  have hxs : x.text.data.toList.length = x.text.size := (Lib.size_eq _).symm
  try rw [hxs] at hsz
  obtain ⟨b, o, rfl, hb, NC⟩ := hL n x hx
  have n0 := NC.c0
  have n1 := NC.c1
  have n2 := NC.c2
  have n3 := NC.c3
  have HKA := NC.k
  have HKC := NC.kc
  have HKF := K.kf n x hx
  have HKD := K.shp.kids n x hx
  have C3 := fun w' (f' : Fr [] w w') => list_any K hE x.ks (fun k hk => by have := HKD k hk; exact ⟨this.1, by omega, by omega, hmany k hk⟩) (HKA.fr f' (by simp)) HKC (by omega) (hL.fr f' (by simp)) (Nat.le_trans hB f'.size) (by omega)
  clear NC hE K N hx
  obtain ⟨xk, xt, xa, xc, xks, xp⟩ := x
  simp only at *
  subst hk
  generalize joinC (xks.map (eN L)) = S3 at *
  have q1 : ¬ 9223372036854775807 < 4 + xt.size := by omega
  have q2 : ¬ 9223372036854775807 < 4 + xt.size + 2 := by omega
  have q3 : ¬ 9223372036854775807 < 4 + xt.size + 2 + S3.length := by omega
  have q4 : ¬ 9223372036854775807 < 4 + xt.size + 2 + S3.length + 2 := by omega
  clear hsz hxs
  have f1 : Fr [] w (w.alloc (.cells #[.int .i64 2, .string xt, .slice xa xks.length xc, .int .i64 xp] 36)) := (Fr.refl _ _).alloc _
  have b1 := heap_alloc_new w (.cells #[.int .i64 2, .string xt, .slice xa xks.length xc, .int .i64 xp] 36)
  go_enter Tryz.func16, Tryz.ntmps16
  go_wp2
  generalize w.alloc (.cells #[.int .i64 2, .string xt, .slice xa xks.length xc, .int .i64 xp] 36) = w1 at *
  generalize w.heap.size = g at *
  have s1 : ∀ w', Fr [] w1 w' → w'.cell? ⟨g, 1, none⟩ = _ := fun w' f => f.cell1 (at_cells b1 1 rfl) (by simp)
  have s2 : ∀ w', Fr [] w1 w' → w'.cell? ⟨g, 2, none⟩ = _ := fun w' f => f.cell1 (at_cells b1 2 rfl) (by simp)
  have fA : Fr [] w1 w1 := Fr.refl _ _
  go_region_held3 (fun w' => Fr [] w1 w') (with_reducible (first | assumption | (refine Fr.drew ?_; assumption)))
    (first
      | (go_at_call 30; refine (C3 _ (f1.trans (by first | assumption | exact Fr.drew (Fr.refl _ _)))).mono ?_; rintro e w33 ⟨rfl, f33⟩; have g33 : Fr [] w1 w33 := (by first | assumption | exact Fr.drew (Fr.refl _ _) : Fr [] w1 _).trans f33))
  all_goals (go_wp2; go_ret; exact ⟨by rw [HE.out]; exact strE (by simp [data_app]), f1.trans (by assumption)⟩)
end
end Go.Proofs.YtnebhkglpggnlaaGreatDoor
namespace Go.Proofs.YtnebhkglpggnlaaGreatDoor
open Go.RowKit
set_option linter.unusedVariables false
set_option linter.unusedSimpArgs false

section
variable {L : List T5.Nd} {B : Nat} {a : Option Addr} {len cap : Nat}
set_option maxRecDepth 100000 in
set_option maxHeartbeats 2000000 in
theorem rdecl_3 (K : Cst L B a len) (N : Bnd L) {f : Nat} (hE : RE L B a len cap f) (hR : RBlo L B a len cap 1 f) {n : Nat} {x : T5.Nd} (hx : L[n]? = some x) (hk : x.kind = 3) (hf : n ≤ f) {w : World} (hL : T5.NAt B w a L) (hB : B ≤ w.heap.size) :
    Calls Tryz.prog 16 #[.slice a len cap, .int .i64 (n : Nat)] w fun e w' => e = .returned (.string ⟨(dN L n).toArray⟩) ∧ Fr [] w w' := by
  obtain ⟨ps, kl, hks, hps, hbk⟩ := K.shp.fn hx hk
  obtain ⟨hla, hlb⟩ := K.shp.kids n x hx kl (by simp [hks])
  have ekl : ((kl.toNat : Nat) : Int) = kl := by omega
  have hn : n < L.length := (List.getElem?_eq_some_iff.1 hx).1
  have hln := K.ln
  have hlm : (len : Int) ≤ 50000 := by have := K.few; omega
  have hnI : (n : Int) < len := by omega
  have hpk : ∀ k ∈ ps, 0 ≤ k ∧ k < n := fun k hk => K.shp.kids n x hx k (by simp [hks, hk])
  have HE : Hid (dN L n = [102, 110, 32] ++ (x.text.data.toList ++ ([40] ++ (joinC (ps.map (eN L)) ++ ([41, 32, 123, 10] ++ (bN L 1 kl ++ [125, 10])))))) := by unfold Hid; simp [dN, hx, declX, hk, hks, tx, atK]
  have hsz : ([102, 110, 32] ++ (x.text.data.toList ++ ([40] ++ (joinC (ps.map (eN L)) ++ ([41, 32, 123, 10] ++ (bN L 1 kl ++ [125, 10]))))) : List UInt8).length ≤ 100000000000 := by rw [← HE.out]; exact N.d n hn
  simp only [List.length_append, List.length_cons, List.length_nil] at hsz
  have hxs : x.text.data.toList.length = x.text.size := (Lib.size_eq _).symm
  rw [hxs] at hsz
  obtain ⟨b, o, rfl, hb, NC⟩ := hL n x hx
  have n0 := NC.c0
  have n1 := NC.c1
  have n2 := NC.c2
  have n3 := NC.c3
  have hkl : x.ks.length = ps.length + 1 := by simp [hks]
  have hkc : x.ks.length ≤ x.c := NC.kc
  have hkf := K.kf n x hx
  have HKA : T5.KAt B w x.a ps := KAt.pre (qs := [kl]) (by rw [← hks]; exact NC.k)
  obtain ⟨kb, ko, hxa, hkb, kc0⟩ := NC.k ps.length kl (by simp [hks])
  have hmc : (ps.length : Int) + 1 ≤ x.c := by omega
  have hmf : (ps.length : Int) + 1 ≤ 50000 := by omega
  have CL := fun w' (f' : Fr [] w w') => list_any K hE ps (fun k hk => by have := hpk k hk; exact ⟨this.1, by omega, by omega, by rw [hps k hk]; rfl⟩) (xc := x.c) (HKA.fr f' (by simp)) (by omega) (by omega) (hL.fr f' (by simp)) (Nat.le_trans hB f'.size) (by omega)
  have CB := fun w' (f' : Fr [] w w') => hR kl.toNat w' (by omega) (by omega) (by omega) (by rw [ekl]; exact hbk) (hL.fr f' (by simp)) (Nat.le_trans hB f'.size)
  have ei : (⟨(ind 1).toArray⟩ : ByteArray) = ⟨#[32, 32, 32, 32]⟩ := rfl
  simp only [ekl, ei] at CB
  rw [hk] at n0
  rw [hxa, hkl] at n2
  simp only [hxa] at CL
  clear NC hE hR K N hx hpk hps hks hkl hkc hkf ei HKA
  obtain ⟨xk, xt, xa, xc, xks, xp⟩ := x
  simp only at *
  generalize joinC (ps.map (eN L)) = S0 at *
  generalize bN L 1 kl = S1 at *
  generalize hm : ps.length = m at *
  clear hm
  have q1 : ¬ 9223372036854775807 < 3 + xt.size := by omega
  have q2 : ¬ 9223372036854775807 < 3 + xt.size + 1 := by omega
  have q3 : ¬ 9223372036854775807 < 3 + xt.size + 1 + S0.length := by omega
  have q4 : ¬ 9223372036854775807 < 3 + xt.size + 1 + S0.length + 4 := by omega
  have q5 : ¬ 9223372036854775807 < 3 + xt.size + 1 + S0.length + 4 + S1.length := by omega
  have q6 : ¬ 9223372036854775807 < 3 + xt.size + 1 + S0.length + 4 + S1.length + 2 := by omega
  have hi0 : (0 : Int) ≤ m := by omega
  have hi1 : (m : Int) ≤ xc := by omega
  have hi2 : (m : Int) < (m : Int) + 1 := by omega
  have hi3 : (m : Int) < ((m + 1 : Nat) : Int) := by omega
  have hi4 : m ≤ xc := by omega
  have hi5 : ¬ (m : Int) < 0 := by omega
  clear hsz hxs
  have f1 : Fr [] w (w.alloc (.cells #[.int .i64 3, .string xt, .slice (some ⟨kb, ko, none⟩) (m + 1) xc, .int .i64 xp] 36)) := (Fr.refl _ _).alloc _
  have b1 := heap_alloc_new w (.cells #[.int .i64 3, .string xt, .slice (some ⟨kb, ko, none⟩) (m + 1) xc, .int .i64 xp] 36)
  have kd0 := f1.cell1 kc0 (by simp)
  go_enter Tryz.func16, Tryz.ntmps16
  go_wp2
  generalize w.alloc (.cells #[.int .i64 3, .string xt, .slice (some ⟨kb, ko, none⟩) (m + 1) xc, .int .i64 xp] 36) = w1 at *
  generalize w.heap.size = g at *
  have s1 : ∀ w', Fr [] w1 w' → w'.cell? ⟨g, 1, none⟩ = _ := fun w' f => f.cell1 (at_cells b1 1 rfl) (by simp)
  have s2 : ∀ w', Fr [] w1 w' → w'.cell? ⟨g, 2, none⟩ = _ := fun w' f => f.cell1 (at_cells b1 2 rfl) (by simp)
  have r0 : ∀ w', Fr [] w1 w' → w'.cell? ⟨kb, ko + m, none⟩ = _ := fun w' f => f.cell1 kd0 (by simp)
  have fA : Fr [] w1 w1 := Fr.refl _ _
  go_region_held3 (fun w' => Fr [] w1 w') (with_reducible (first | assumption | (refine Fr.drew ?_; assumption)))
    (first
      | (go_at_call 30; refine (CL _ (f1.trans (by first | assumption | exact Fr.drew (Fr.refl _ _)))).mono ?_; rintro e w30 ⟨rfl, f30⟩; have g30 : Fr [] w1 w30 := (by first | assumption | exact Fr.drew (Fr.refl _ _) : Fr [] w1 _).trans f30)
      | (go_at_call 31; refine (CB _ (f1.trans (by first | assumption | exact Fr.drew (Fr.refl _ _)))).mono ?_; rintro e w31 ⟨rfl, f31⟩; have g31 : Fr [] w1 w31 := (by first | assumption | exact Fr.drew (Fr.refl _ _) : Fr [] w1 _).trans f31))
  all_goals (go_wp2; go_ret; exact ⟨by rw [HE.out]; exact strE (by simp [data_app]), f1.trans (by assumption)⟩)
end
end Go.Proofs.YtnebhkglpggnlaaGreatDoor
namespace Go.Proofs.YtnebhkglpggnlaaGreatDoor
open Go.RowKit
set_option linter.unusedVariables false
set_option linter.unusedSimpArgs false

section
variable {L : List T5.Nd} {B : Nat} {a : Option Addr} {len cap : Nat}
theorem lk5 (K : Cst L B a len) {n : Nat} (h : n < len) : ∃ x, L[n]? = some x ∧ T5.kd L (n : Nat) = x.kind := by
  have := K.ln
  obtain ⟨x, hx⟩ : ∃ x, L[n]? = some x := ⟨_, List.getElem?_eq_getElem (by omega)⟩
  exact ⟨x, hx, by unfold T5.kd; simp [hx]⟩
theorem re_all (K : Cst L B a len) (N : Bnd L) : ∀ f, RE L B a len cap f
  | 0 => fun n w h => by omega
  | f + 1 => fun n w hf hn hex hL hB => by
    obtain ⟨x, hx, hkd⟩ := lk5 K hn
    rw [hkd] at hex
    have hk : 15 ≤ x.kind ∧ x.kind ≤ 30 := by simpa [T5.isEx] using hex
    have hc : x.kind = 15 ∨ x.kind = 16 ∨ x.kind = 17 ∨ x.kind = 18 ∨ x.kind = 19 ∨ x.kind = 20 ∨ x.kind = 21 ∨ x.kind = 22 ∨ x.kind = 23 ∨ x.kind = 24 ∨ x.kind = 25 ∨ x.kind = 26 ∨ x.kind = 27 ∨ x.kind = 28 ∨ x.kind = 29 ∨ x.kind = 30 := by omega
    have H := re_all K N f
    rcases hc with hk | hk | hk | hk | hk | hk | hk | hk | hk | hk | hk | hk | hk | hk | hk | hk
    · exact rexpr_15 K N H hx hk (by omega) hL hB
    · exact rexpr_16 K N H hx hk (by omega) hL hB
    · exact rexpr_17 K N H hx hk (by omega) hL hB
    · exact rexpr_18 K N H hx hk (by omega) hL hB
    · by_cases ho : opT x.text.data.toList = 0
      · exact rexpr_19a K N H hx hk ho (by omega) hL hB
      · exact rexpr_19b K N H hx hk ho (by omega) hL hB
    · exact rexpr_20 K N H hx hk (by omega) hL hB
    · exact rexpr_21 K N H hx hk (by omega) hL hB
    · exact rexpr_22 K N H hx hk (by omega) hL hB
    · exact rexpr_23 K N H hx hk (by omega) hL hB
    · exact rexpr_24 K N H hx hk (by omega) hL hB
    · exact rexpr_25 K N H hx hk (by omega) hL hB
    · exact rexpr_26 K N H hx hk (by omega) hL hB
    · exact rexpr_27 K N H hx hk (by omega) hL hB
    · exact rexpr_28 K N H hx hk (by omega) hL hB
    · exact rexpr_29 K N H hx hk (by omega) hL hB
    · exact rexpr_30 K N H hx hk (by omega) hL hB
/-- What is said of statements ahead of f. -/
def RSt (L : List T5.Nd) (B : Nat) (a : Option Addr) (len cap f : Nat) : Prop := ∀ (n ab : Nat) (w : World), n < f → n < len → ab + n ≤ 50001 → T5.isSt (T5.kd L (n : Nat)) = true → T5.NAt B w a L → B ≤ w.heap.size → Calls Tryz.prog 64 #[.slice a len cap, .int .i64 (n : Nat), .string ⟨(ind ab).toArray⟩] w fun e w' => e = .returned (.string ⟨(sN L ab n).toArray⟩) ∧ Fr [] w w'
set_option maxRecDepth 100000 in
set_option maxHeartbeats 2000000 in
theorem block_any (K : Cst L B a len) (N : Bnd L) {f : Nat} (hS : RSt L B a len cap f) (ab : Nat) : RBlo L B a len cap ab f := by
  intro n w hf hn hab hkd hL hB
  obtain ⟨x, hx, hkx⟩ := lk5 K hn
  have HP : Hid (bN L ab n = (x.ks.map (sN L ab)).flatten) := by unfold Hid bN; simp [hx]
  have HST := K.shp.blk hx (by rw [← hkx]; exact hkd)
  have HLN : Hid (((x.ks.map (sN L ab)).flatten).length ≤ 100000000000) := by have := N.b ab n (by rw [K.ln]; exact hn) hab; rw [HP.out] at this; exact this
  obtain ⟨b, o, rfl, hb, NC⟩ := hL n x hx
  have n2 := NC.c2
  have HKA : Hid (T5.KAt B w x.a x.ks) := NC.k
  have hkcI : (x.ks.length : Int) ≤ x.c := by have := NC.kc; omega
  have hknI : (x.ks.length : Int) ≤ 50000 := by have := K.kf n x hx; omega
  have HK : Hid (∀ k ∈ x.ks, (0 ≤ k ∧ k < n) ∧ T5.isSt (T5.kd L k) = true) := fun k hk => ⟨K.shp.kids n x hx k hk, HST k hk⟩
  have hnI : (n : Int) < len := by omega
  have hlm : (len : Int) ≤ 50000 := by have := K.few; omega
  have HS : Hid (RSt L B (some ⟨b, o, none⟩) len cap f) := hS
  have HB : Hid (B ≤ w.heap.size) := hB
  have HN : Hid (n < f ∧ n < len ∧ ab + n ≤ 50001) := ⟨hf, hn, hab⟩
  clear NC hS hx K N HST hkx hkd hB
  obtain ⟨xk, xt, xa, xc, ks, xp⟩ := x
  simp only at *
  go_enter Tryz.func31, Tryz.ntmps31
  go_wp2
  go_loopw [7, 16] (fun sv iv wr => ∃ (q : Nat) (A : List UInt8), q ≤ ks.length ∧ iv = .int .i64 (q : Nat) ∧ sv = .string ⟨A.toArray⟩ ∧ Fr [] w wr ∧ Hid (A = ((ks.take q).map (sN L ab)).flatten)) (fun _ iv _ => ks.length - (intOf iv).toNat)
  case atStart => exact ⟨0, [], Nat.zero_le _, rfl, rfl, Fr.refl _ _, by unfold Hid; simp⟩
  case round =>
    obtain ⟨q, A, hq, rfl, rfl, fr, HA⟩ := hrel
    by_cases hlt : q < ks.length
    · obtain ⟨k, hk⟩ : ∃ k, ks[q]? = some k := ⟨_, List.getElem?_eq_getElem hlt⟩
      obtain ⟨kb, ko, rfl, hkb, kc0⟩ := HKA.out q k hk
      have kc := fr.cell1 kc0 (by simp)
      obtain ⟨⟨hk0, hk1⟩, hkx⟩ := HK.out k (List.mem_of_getElem? hk)
      have HJ : Hid (((ks.take (q + 1)).map (sN L ab)).flatten = ((ks.take q).map (sN L ab)).flatten ++ sN L ab k) := flat_next (sN L ab) hk
      have HTK2 := flat_take_len (sN L ab) ks (q + 1)
      rw [HJ.out, ← HA.out] at HTK2
      simp only [List.length_append] at HTK2
      have hln := HLN.out
      have ek : ((k.toNat : Nat) : Int) = k := by omega
      have hNo := HN.out
      have CE := HS.out k.toNat ab wr (by omega) (by omega) (by omega) (by rw [ek]; exact hkx) (hL.fr fr (by simp)) (Nat.le_trans HB.out fr.size)
      rw [ek] at CE
      generalize sN L ab k = S at *
      have hltI : (q : Int) < ks.length := by omega
      have HX : Hid (q < ks.length) := hlt
      have q1 : ¬ 9223372036854775807 < A.length + S.length := by omega
      clear kc0 hlt hk HTK2 hln hNo
      go_wp2_with fail
      refine CE.mono ?_
      rintro e w2 ⟨rfl, f2⟩
      clear CE
      go_wp2
      go_roundw
      case rel => exact ⟨q + 1, A ++ S, HX.out, by go_num, by rw [← ba_app], fr.trans f2, by unfold Hid; rw [HJ.out, HA.out]⟩
      case measure => have := HX.out; simp [intOf]; omega
    · have hqe : q = ks.length := by omega
      have hlt' : ¬ ((q : Int) < ks.length) := by omega
      have HF : Hid (A = bN L ab n) := by unfold Hid; rw [HA.out, hqe, List.take_length, HP.out]
      clear hqe
      go_wp2
      go_ret
      exact ⟨by rw [← HF.out]; rfl, fr⟩
theorem rst_all (K : Cst L B a len) (N : Bnd L) : ∀ f, RSt L B a len cap f
  | 0 => fun n ab w h => by omega
  | f + 1 => fun n ab w hf hn hab hex hL hB => by
    obtain ⟨x, hx, hkd⟩ := lk5 K hn
    rw [hkd] at hex
    have hk : 5 ≤ x.kind ∧ x.kind ≤ 13 := by simpa [T5.isSt] using hex
    have hc : x.kind = 5 ∨ x.kind = 6 ∨ x.kind = 7 ∨ x.kind = 8 ∨ x.kind = 9 ∨ x.kind = 10 ∨ x.kind = 11 ∨ x.kind = 12 ∨ x.kind = 13 := by omega
    have H := re_all (cap := cap) K N f
    have R := block_any K N (rst_all K N f) (ab + 1)
    rcases hc with hk | hk | hk | hk | hk | hk | hk | hk | hk
    · exact rstmt_5 K N H R hx hk (by omega) hab hL hB
    · exact rstmt_6 K N H R hx hk (by omega) hab hL hB
    · obtain ⟨k0, k1, k2, hks, _, _, h2⟩ := K.shp.iff_ hx hk
      rcases h2 with h2 | h2
      · exact rstmt_7a K N H R hx hk (fun k hk2 => by rw [hks] at hk2; simp at hk2; subst hk2; exact h2) (by omega) hab hL hB
      · exact rstmt_7b K N H R hx hk (fun k hk2 => by rw [hks] at hk2; simp at hk2; subst hk2; exact h2) (by omega) hab hL hB
    · exact rstmt_8 K N H R hx hk (by omega) hab hL hB
    · exact rstmt_9 K N H R hx hk (by omega) hab hL hB
    · exact rstmt_10 K N H R hx hk (by omega) hab hL hB
    · exact rstmt_11 K N H R hx hk (by omega) hab hL hB
    · exact rstmt_12 K N H R hx hk (by omega) hab hL hB
    · exact rstmt_13 K N H R hx hk (by omega) hab hL hB
set_option maxRecDepth 100000 in
set_option maxHeartbeats 2000000 in
theorem rshowP_any (B : Nat) (L : List T5.Nd) (w : World) (a : Option Addr) (len cap : Nat) (hlen : L.length = len) (hL : T5.NAt B w a L) (hm : len ≤ 2600000000000) (hB : B ≤ w.heap.size) (hp : ∀ x ∈ L, x.pl ≤ 9223372036854775807) (ht : (T5.checkL L).2 = 0 → ∀ x ∈ L, x.text.size ≤ 200020) :
    Calls Tryz.prog 9 #[.slice a len cap] w fun e w' => e = .returned (.tuple #[.string ⟨(progO L).1.toArray⟩, .int .i64 ((progO L).2 : Nat)]) ∧ Fr [] w w' := by
  have CC := T5.rcheck_any B L w a len cap hlen hL hm hB
  unfold T5.cOut at CC
  rcases hc : T5.checkL L with ⟨pp, c⟩
  rw [hc] at CC
  by_cases h0 : c = 0
  · subst h0
    obtain ⟨Tm, hT, hn0, hl5, hk1, _⟩ := T5.check_zero hc
    have ht' := ht (by rw [hc])
    subst hlen
    have K := cst_of hT hl5 hp B a
    have N := bnd_of hT hl5 ht'
    obtain ⟨x, hx, hkx⟩ := lk5 K (n := L.length - 1) (by omega)
    have hkx1 : x.kind = 1 := by rw [← hkx]; exact hk1
    have HP : Hid (pN L ((L.length - 1 : Nat) : Int) = (x.ks.map (dN L)).flatten) := by unfold Hid pN; simp only [Int.toNat_natCast, hx]
    have HLN : Hid (((x.ks.map (dN L)).flatten).length ≤ 100000000000) := by have := N.p (L.length - 1) (by omega); rw [HP.out] at this; exact this
    have HO : Hid (progO L = if ((x.ks.map (dN L)).flatten).length ≤ 800000 then ((x.ks.map (dN L)).flatten, 0) else ([], 2)) := by unfold Hid progO shO; rw [hc, HP.out]; rfl
    have HD : Hid (∀ k ∈ x.ks, ∀ w1, Fr [] w w1 → Calls Tryz.prog 16 #[.slice a L.length cap, .int .i64 k] w1 fun e w' => e = .returned (.string ⟨(dN L k).toArray⟩) ∧ Fr [] w1 w') := fun k hk w1 f1 => by
      obtain ⟨k0, k1⟩ := K.shp.kids _ x hx k hk
      obtain ⟨y, hy, hyk⟩ := lk5 K (n := k.toNat) (by omega)
      have ek : ((k.toNat : Nat) : Int) = k := by omega
      rw [ek] at hyk
      have h2 := K.shp.prg hx hkx1 k hk
      rw [hyk] at h2
      have H := re_all (cap := cap) K N k.toNat
      rcases h2 with h2 | h2
      · have := rdecl_2 K N H hy h2 (Nat.le_refl _) (hL.fr f1 (by simp)) (Nat.le_trans hB f1.size)
        rw [ek] at this
        exact this
      · have := rdecl_3 K N H (block_any K N (rst_all (cap := cap) K N k.toNat) 1) hy h2 (Nat.le_refl _) (hL.fr f1 (by simp)) (Nat.le_trans hB f1.size)
        rw [ek] at this
        exact this
    obtain ⟨b, o, rfl, hb, NC⟩ := hL (L.length - 1) x hx
    have n2 := NC.c2
    have HKA : Hid (T5.KAt B w x.a x.ks) := NC.k
    have hkcI : (x.ks.length : Int) ≤ x.c := by have := NC.kc; omega
    have hknI : (x.ks.length : Int) ≤ 50000 := by have := K.kf _ x hx; omega
    have hlI : (0 : Int) < L.length := by omega
    have hlI2 : (L.length : Int) ≤ 50000 := by omega
    have et : ((L.length : Int) - 1).toNat = L.length - 1 := by omega
    have r2 : ∀ w1, Fr [] w w1 → w1.cell? ⟨b, o + (L.length - 1) * 4 + 2, none⟩ = _ := fun w1 f1 => f1.cell1 n2 (by simp)
    clear NC K N hT hc hn0 hl5 hk1 ht ht' hp hx hkx hkx1 hL n2
    obtain ⟨xk, xt, xa, xc, ks, xp⟩ := x
    simp only at *
    generalize L.length = ln at *
    go_enter Tryz.func9, Tryz.ntmps9
    go_wp2_with fail
    refine CC.mono ?_
    rintro e w1 ⟨rfl, f1⟩
    have n2 := r2 w1 f1
    clear CC r2
    go_wp2
    go_loopw [6, 25] (fun sv iv wr => ∃ (q : Nat) (A : List UInt8), q ≤ ks.length ∧ iv = .int .i64 (q : Nat) ∧ sv = .string ⟨A.toArray⟩ ∧ Fr [] w wr ∧ Hid (A = ((ks.take q).map (dN L)).flatten)) (fun _ iv _ => ks.length - (intOf iv).toNat)
    case atStart => exact ⟨0, [], Nat.zero_le _, rfl, rfl, f1, by unfold Hid; simp⟩
    case round =>
      obtain ⟨q, A, hq, rfl, rfl, fr, HA⟩ := hrel
      by_cases hlt : q < ks.length
      · obtain ⟨k, hk⟩ : ∃ k, ks[q]? = some k := ⟨_, List.getElem?_eq_getElem hlt⟩
        obtain ⟨kb, ko, rfl, hkb, kc0⟩ := HKA.out q k hk
        have kc := fr.cell1 kc0 (by simp)
        have HJ : Hid (((ks.take (q + 1)).map (dN L)).flatten = ((ks.take q).map (dN L)).flatten ++ dN L k) := flat_next (dN L) hk
        have HTK2 := flat_take_len (dN L) ks (q + 1)
        rw [HJ.out, ← HA.out] at HTK2
        simp only [List.length_append] at HTK2
        have hln := HLN.out
        have CE := HD.out k (List.mem_of_getElem? hk) wr fr
        generalize dN L k = S at *
        have hltI : (q : Int) < ks.length := by omega
        have HX : Hid (q < ks.length) := hlt
        have q1 : ¬ 9223372036854775807 < A.length + S.length := by omega
        clear kc0 hlt hk HTK2 hln
        go_wp2_with fail
        refine CE.mono ?_
        rintro e w2 ⟨rfl, f2⟩
        clear CE
        go_wp2
        go_roundw
        case rel => exact ⟨q + 1, A ++ S, HX.out, by go_num, by rw [← ba_app], fr.trans f2, by unfold Hid; rw [HJ.out, HA.out]⟩
        case measure => have := HX.out; simp [intOf]; omega
      · have hqe : q = ks.length := by omega
        have hlt' : ¬ ((q : Int) < ks.length) := by omega
        have HF : Hid (A = (ks.map (dN L)).flatten) := by unfold Hid; rw [HA.out, hqe, List.take_length]
        clear hqe
        by_cases h8 : A.length ≤ 800000
        · have HO2 : Hid (progO L = (A, 0)) := by unfold Hid; rw [HO.out, ← HF.out, if_pos h8]
          have h8I : ¬ ((800000 : Int) < A.length) := by omega
          clear h8
          go_wp2
          refine bodyPost_ret (results_tmp2 rfl _ _ _) rfl ⟨?_, fr⟩
          rw [HO2.out]; rfl
        · have HO2 : Hid (progO L = ([], 2)) := by unfold Hid; rw [HO.out, ← HF.out, if_neg h8]
          have h8I : (800000 : Int) < A.length := by omega
          clear h8
          go_wp2
          refine bodyPost_ret (results_tmp2 rfl _ _ _) rfl ⟨?_, fr⟩
          rw [HO2.out]; rfl
  · have HO : Hid (progO L = ([], c)) := by unfold Hid progO shO; rw [hc]; simp only; rw [if_neg h0]
    have hc0 : ¬ ((c : Nat) : Int) = 0 := by omega
    clear hc h0 ht
    go_enter Tryz.func9, Tryz.ntmps9
    go_wp2_with fail
    refine CC.mono ?_
    rintro e w1 ⟨rfl, f1⟩
    go_wp2
    refine bodyPost_ret (results_tmp2 rfl _ _ _) rfl ⟨?_, f1⟩
    rw [HO.out]
    rfl
end
end Go.Proofs.YtnebhkglpggnlaaGreatDoor
