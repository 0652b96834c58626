/-
  parse.Program: what it answers, by the text alone; condition: the text is no longer than 200,000 bytes.
-/
import Derived.Test.YtekjfddcbcijdaaGreatDoorParZ
namespace Go.Proofs.YtekjfddcbcijdaaGreatDoor
open Go.RowKit
set_option linter.unusedVariables false
set_option linter.unusedSimpArgs false

def fullP (ts : List Tok) : Except Nat (List Nat × Nat × List PN) := match P ts (40 * ts.length + 29) .prog 0 [] with | some r => r | none => .error 0
theorem fullP_eq {ts : List Tok} (h : Toks ts) : P ts (40 * ts.length + 29) .prog 0 [] = some (fullP ts) := by
  obtain ⟨x, hx⟩ := (good h (40 * ts.length + 29) .prog 0 [] h.pos trivial).1 (by simp [rank])
  unfold fullP
  rw [hx]
def ndX (x : PN) : Nd := ⟨x.kind, ⟨x.text.toArray⟩, none, 0, x.kids.map (fun (n : Nat) => (n : Int)), x.pl⟩
def ndM (m : MN) : Nd := ⟨m.x.kind, ⟨m.x.text.toArray⟩, m.a, m.c, m.x.kids.map (fun (n : Nat) => (n : Int)), m.x.pl⟩
def deepP (ms : List PN) : Nat := deepL (ms.map ndX)
def withEnd (s : ByteArray) (ts : List Tok) : List Tok := ts ++ [⟨0, [], s.size, s.size, 0⟩]
/-- What a text is read as. -/
def prgL (s : ByteArray) : Except (Nat × Nat) (List PN) :=
  match sc s 0 with
  | (_, some (p, c)) => .error (p, c)
  | (ts, none) =>
    match tooO (withEnd s ts) 0 with
    | some p => .error (p, 51)
    | none =>
      match fullP (withEnd s ts) with
      | .error k => .error ((tk (withEnd s ts) k).frm, 60)
      | .ok (_, _, ms) => if 50000 < ms.length then .error (0, 2) else if 200 < deepP ms then .error (0, 51) else .ok ms

theorem depths_congr {L M : List Nd} (h : L.map Nd.ks = M.map Nd.ks) : ∀ n, depths L n = depths M n
  | 0 => rfl
  | n + 1 => by
    have e : (L[n]?).map Nd.ks = (M[n]?).map Nd.ks := by rw [← List.getElem?_map, h, List.getElem?_map]
    simp only [depths, depths_congr h n]
    cases hL : L[n]? with
    | none =>
      rw [hL] at e
      cases hM : M[n]? with
      | none => rfl
      | some y => rw [hM] at e; simp at e
    | some x =>
      rw [hL] at e
      cases hM : M[n]? with
      | none => rw [hM] at e; simp at e
      | some y => rw [hM] at e; simp at e; simp [e]
theorem deepL_nd {L : List MN} {ms : List PN} (h : L.map MN.x = ms) : deepL (L.map ndM) = deepP ms := by
  subst h
  have e : (L.map ndM).map Nd.ks = ((L.map MN.x).map ndX).map Nd.ks := by simp [ndM, ndX, Function.comp_def]
  unfold deepP deepL
  rw [depths_congr e]
  simp

def PrgOut (s : ByteArray) (w w' : World) (e : Ending) : Prop :=
  match prgL s with
  | .error (p, c) => e = .returned (.tuple #[.slice none 0 0, .int .i64 (p : Nat), .int .i64 (c : Nat)])
  | .ok ms => ∃ (nv : Value) (L : List MN) (F' : List Nat), e = .returned (.tuple #[nv, .int .i64 0, .int .i64 0]) ∧ L.map MN.x = ms ∧ w'.ownsRow w.heap.size 30 4 nv L.length (flatM L) ∧ (∀ k, nv.ownBlock = some k → k ∈ F') ∧ (∀ m ∈ L, KRow w' F' m) ∧ ∀ j ∈ F', w.heap.size ≤ j ∧ j < w'.heap.size

/-- The nodes as they lie are a list of nodes. -/
theorem nodes_at {w : World} {B : Nat} {L : List MN} {a : Option Addr} {c : Nat} {F : List Nat} (ho : w.ownsRow B 30 4 (.slice a L.length c) L.length (flatM L)) (hk : ∀ m ∈ L, KRow w F m) (hF : ∀ j ∈ F, j < w.heap.size) : NAt w.heap.size w a (L.map ndM) := by
  intro i x hx
  rw [List.getElem?_map] at hx
  obtain ⟨m, hm, rfl⟩ := Option.map_eq_some_iff.1 hx
  have hmem := List.mem_of_getElem? hm
  obtain ⟨k1, k2, k3⟩ := hk m hmem
  rcases ho.2 with ⟨e1, e2⟩ | ⟨g, cap, cur, e1, -⟩
  · rw [List.length_eq_zero_iff] at e2
    subst e2
    simp at hm
  · cases e1
    have hb := (ho.lt g rfl)
    have hc : ∀ j, j < 4 → ∀ u, m.cells[j]? = some u → w.cell? ⟨g, i * 4 + j, none⟩ = some u := fun j hj u hu => by
      have := ho.cells (g := g) rfl (i * 4 + j) u (by rw [flatM_get hm j hj]; exact hu)
      rw [Addr.add_lit, Nat.zero_add] at this
      exact this
    refine ⟨g, 0, rfl, hb.2, ?_, ?_, ?_, ?_, ?_, ?_, ?_, ?_⟩
    · simpa [ndM] using hc 0 (by omega) _ rfl
    · simpa [ndM] using hc 1 (by omega) _ rfl
    · simpa [ndM] using hc 2 (by omega) _ rfl
    · simpa [ndM] using hc 3 (by omega) _ rfl
    · intro j k hj
      simp only [ndM, List.getElem?_map] at hj
      obtain ⟨n, hn, rfl⟩ := Option.map_eq_some_iff.1 hj
      obtain ⟨b, o, cc, z, q1, q2, q3, q4⟩ := k3 j n hn
      exact ⟨b, o, q1, hF b q2, at_cells q3 _ q4⟩
    · simpa [ndM] using Nat.le_trans k1.1 k1.2
    · simpa [ndM] using k1.1
    · exact k2

/-- Tokens that a call laid, as a row. -/
theorem row_of {w : World} {B n : Nat} {v : Value} {ts : List Tok} (h : w.ownsRow B 43 5 v n (flatT ts)) (hn : 0 < n) : ∃ g c, v = .slice (some ⟨g, 0, none⟩) n c ∧ B ≤ g ∧ n ≤ c ∧ TRow w g ts := by
  rcases h.2 with ⟨e1, e2⟩ | ⟨g, cap, cur, e1, hb, hg, hc, hm, hs, ht⟩
  · omega
  · refine ⟨g, cap, e1, hb, hc, cur, (0, 0), hg, fun j u hu => ?_⟩
    rw [← ht] at hu
    have hlt := (List.getElem?_eq_some_iff.1 hu).1
    rw [List.length_take] at hlt
    rw [List.getElem?_take_of_lt (by omega)] at hu
    simpa using hu

/-- What comes behind the tokens. -/
def afterL (us : List Tok) : Except (Nat × Nat) (List PN) :=
  match tooO us 0 with
  | some p => .error (p, 51)
  | none =>
    match fullP us with
    | .error k => .error ((tk us k).frm, 60)
    | .ok (_, _, ms) => if 50000 < ms.length then .error (0, 2) else if 200 < deepP ms then .error (0, 51) else .ok ms
theorem prgL_after {s : ByteArray} {ts us : List Tok} (hsc : sc s 0 = (ts, none)) (hus : withEnd s ts = us) : prgL s = afterL us := by
  unfold prgL
  rw [hsc]
  simp only
  rw [hus]
  rfl
theorem PrgOut.err {s : ByteArray} {w w' : World} {p c : Nat} (h : prgL s = .error (p, c)) : PrgOut s w w' (.returned (.tuple #[.slice none 0 0, .int .i64 (p : Nat), .int .i64 (c : Nat)])) := by unfold PrgOut; rw [h]
theorem PrgOut.ok {s : ByteArray} {w w' : World} {ms : List PN} {e : Ending} (h : prgL s = .ok ms) (k : ∃ (nv : Value) (L : List MN) (F' : List Nat), e = .returned (.tuple #[nv, .int .i64 0, .int .i64 0]) ∧ L.map MN.x = ms ∧ w'.ownsRow w.heap.size 30 4 nv L.length (flatM L) ∧ (∀ k, nv.ownBlock = some k → k ∈ F') ∧ (∀ m ∈ L, KRow w' F' m) ∧ ∀ j ∈ F', w.heap.size ≤ j ∧ j < w'.heap.size) : PrgOut s w w' e := by unfold PrgOut; rw [h]; exact k

set_option maxRecDepth 100000 in
set_option maxHeartbeats 1000000 in
theorem prog_any (s : ByteArray) (w : World) (hs : s.size ≤ 200000) (T : Tabs w) :
    Calls Tryz.prog 5 #[.string s] w fun e w' => PrgOut s w w' e ∧ Fr [] w w' := by
  have CS := scan_any s w hs T
  have h7 : 6 ≤ w.heap.size := T.len
  unfold scOut at CS
  rcases hsc : sc s 0 with ⟨ts, _ | ⟨p, c⟩⟩
  · rw [hsc] at CS
    have HT : Hid (Toks (withEnd s ts) ∧ ts.length ≤ s.size) := toks_of (by rw [hsc])
    have Hlen : Hid ((withEnd s ts).length = ts.length + 1) := by unfold Hid; simp [withEnd]
    replace CS : Calls Tryz.prog 7 #[.string s] w fun e w' => (∃ v, e = .returned (.tuple #[v, .int .i64 0, .int .i64 0]) ∧ w'.ownsRow w.heap.size 43 5 v (ts.length + 1) (flatT (withEnd s ts))) ∧ Fr [] w w' := CS
    have HP : Hid (prgL s = afterL (withEnd s ts)) := prgL_after hsc rfl
    clear hsc
    generalize withEnd s ts = us at *
    have Hul : Hid (us.length ≤ 200001) := by unfold Hid; have := HT.out.2; have := Hlen.out; omega
    clear hs h7
    go_enter Tryz.func5, Tryz.ntmps5
    go_wp2_with (go_at_call 7; refine CS.mono ?_)
    rintro e w1 ⟨⟨v, rfl, hrow⟩, f1⟩
    rw [← Hlen.out] at hrow
    have hul := Hul.out
    have h7 : 6 ≤ w.heap.size := T.len
    obtain ⟨g, tc, rfl, hg, htc, hR⟩ := row_of hrow (by have := Hlen.out; omega)
    have T1 := T.fr f1 (by simp)
    have CT := too_any (tc := tc) hR hul htc
    clear CS hrow
    cases hto : tooO us 0 with
    | some p =>
      have HQ : Hid (prgL s = .error (p, 51)) := HP.out.trans (by unfold afterL; rw [hto])
      rw [hto] at CT
      simp only [TooV] at CT
      go_wp2_with (go_at_call 8; refine CT.mono ?_)
      rintro e w2 ⟨rfl, f2⟩
      go_wp2
      exact bodyPost_ret (results_tmp3 rfl _ _ _) rfl ⟨PrgOut.err HQ.out, f1.trans f2⟩
    | none =>
      have HP2 : Hid (prgL s = match fullP us with | .error k => .error ((tk us k).frm, 60) | .ok (_, _, ms) => if 50000 < ms.length then .error (0, 2) else if 200 < deepP ms then .error (0, 51) else .ok ms) := HP.out.trans (by unfold afterL; rw [hto])
      rw [hto] at CT
      simp only [TooV] at CT
      go_wp2_with (go_at_call 8; refine CT.mono ?_)
      rintro e w2 ⟨rfl, f2⟩
      have hR2 := hR.fr f2 (by simp)
      have T2 := T1.fr f2 (by simp)
      have hgl : g < w2.heap.size := by obtain ⟨c, z, h1, -⟩ := hR2; exact (Array.getElem?_eq_some_iff.1 h1).1
      have CR := parsed_any (B := w.heap.size) (tc := tc) HT.out.1 T2 hR2 hg h7 (Nat.le_trans f1.size f2.size) hul htc (fullP_eq HT.out.1)
      have HG : Hid (∀ v j ms, fullP us = .ok (v, j, ms) → j < us.length ∧ ms.length ≤ 2 * j + 1) := by
        intro v j ms h
        have e := run_ok HT.out.1 (nt := .prog) (i := 0) (ns := []) (g := 40 * us.length + 29) HT.out.1.pos trivial ((fullP_eq HT.out.1).trans (congrArg some h))
        have e1 := e.2.1
        have e2 := e.2.2.2.1
        simp only [slack, List.length_nil] at e2
        omega
      clear CT hto HP hR hR2
      rcases hr : fullP us with k | ⟨v, j, ms⟩
      · have HQ : Hid (prgL s = .error ((tk us k).frm, 60)) := HP2.out.trans (by rw [hr])
        rw [hr] at CR
        clear HP2 HG hr
        go_wp2_with (go_at_call 9; refine CR.mono ?_)
        rintro e w3 ⟨rfl, f3⟩
        have f03 : Fr [] w w3 := (((f1.trans f2).sub (T := [g]) (by simp)).trans f3).sub (fun k hk => by simp at hk; subst hk; exact .inr hg)
        go_wp2
        exact bodyPost_ret (results_tmp3 rfl _ _ _) rfl ⟨PrgOut.err HQ.out, f03⟩
      · have HQ : Hid (prgL s = if 50000 < ms.length then .error (0, 2) else if 200 < deepP ms then .error (0, 51) else .ok ms) := HP2.out.trans (by rw [hr])
        rw [hr] at CR
        have HM : Hid (j < us.length ∧ ms.length ≤ 2 * j + 1) := HG.out v j ms hr
        clear HP2 HG hr
        go_wp2_with (go_at_call 9; refine CR.mono ?_)
        rintro e w3 ⟨nv, L, F', rfl, hL, hown, hob, hkr, hF, f3⟩
        have f03 : Fr [] w w3 := (((f1.trans f2).sub (T := [g]) (by simp)).trans f3).sub (fun k hk => by simp at hk; subst hk; exact .inr hg)
        obtain ⟨a, c, rfl, -⟩ := own_slice hown
        have hlL : L.length = ms.length := by rw [← hL]; simp
        have hms := HM.out.2
        have hj := HM.out.1
        have NA := nodes_at hown hkr (fun j hj => (hF j hj).2)
        have CD := deep_any w3.heap.size (L.map ndM) w3 a L.length c (by simp) NA (by omega) (Nat.le_refl _)
        rw [deepL_nd hL] at CD
        have HLm : Hid (L.map MN.x = ms) := hL
        have HOw : Hid (w3.ownsRow w.heap.size 30 4 (.slice a L.length c) L.length (flatM L)) := hown
        have HLl : Hid (L.length = ms.length) := hlL
        have HJ : Hid (ms.length ≤ 400003) := by unfold Hid; omega
        clear CR NA hL hown
        by_cases h5 : 50000 < ms.length
        · have h5' : (50000 : Int) < (L.length : Int) := by omega
          clear hlL hms hj
          go_wp2
          exact bodyPost_ret (results_tmp3 rfl _ _ _) rfl ⟨PrgOut.err (HQ.out.trans (if_pos h5)), f03⟩
        · have h5' : (L.length : Int) ≤ 50000 := by omega
          clear hlL hms hj
          by_cases h6 : 200 < deepP ms
          · have h6' : (200 : Int) < (deepP ms : Int) := by omega
            go_wp2_with (go_at_call 10; refine CD.mono ?_)
            rintro e w4 ⟨rfl, f4⟩
            go_wp2
            exact bodyPost_ret (results_tmp3 rfl _ _ _) rfl ⟨PrgOut.err (HQ.out.trans (by rw [if_neg h5, if_pos h6])), f03.trans f4⟩
          · have h6' : (deepP ms : Int) ≤ 200 := by omega
            go_wp2_with (go_at_call 10; refine CD.mono ?_)
            rintro e w4 ⟨rfl, f4⟩
            go_wp2
            exact bodyPost_ret (results_tmp3 rfl _ _ _) rfl ⟨PrgOut.ok (HQ.out.trans (by rw [if_neg h5, if_neg h6])) ⟨_, L, F', rfl, HLm.out, own_fr HOw.out f4 (by simp), hob, fun m hm => (hkr m hm).fr f4 (by simp), fun j hj => ⟨(hF j hj).1, Nat.lt_of_lt_of_le (hF j hj).2 f4.size⟩⟩, f03.trans f4⟩
  · rw [hsc] at CS
    have HQ : Hid (prgL s = .error (p, c)) := by unfold Hid prgL; rw [hsc]
    have hc : ¬ (c : Int) = 0 := by
      have h1 := scanL_err (s.size + 1) 0 (s.data.toList.drop 0) (p, c) (show (sc s 0).2 = _ by rw [hsc])
      simp only at h1
      omega
    replace CS : Calls Tryz.prog 7 #[.string s] w fun e w' => e = .returned (.tuple #[.slice none 0 0, .int .i64 (p : Nat), .int .i64 (c : Nat)]) ∧ Fr [] w w' := CS
    clear hsc
    go_enter Tryz.func5, Tryz.ntmps5
    go_wp2_with (go_at_call 7; refine CS.mono ?_)
    rintro e w1 ⟨rfl, f1⟩
    go_wp2
    exact bodyPost_ret (results_tmp3 rfl _ _ _) rfl ⟨PrgOut.err HQ.out, f1⟩
end Go.Proofs.YtekjfddcbcijdaaGreatDoor
