/-
  Texts of the proof, in their order: RefU, LspA, LspB, LspC, ShwA, ShwB, PgmW; conditions: as each says.
-/
import Derived.Test.YtnebhkglpggnlaaGreatDoorMgFBHM
import Derived.Test.YtnebhkglpggnlaaGreatDoorMgGKJB
import Derived.Test.YtnebhkglpggnlaaGreatDoorMgGPHI
import Derived.Test.YtnebhkglpggnlaaGreatDoorMgHIHO
import Derived.Test.YtnebhkglpggnlaaGreatDoorMgOGJL
namespace Go.Proofs.YtnebhkglpggnlaaGreatDoor
open Go.RowKit
set_option linter.unusedVariables false
set_option linter.unusedSimpArgs false

open Go.Shelf in
def cI (l : List Nat) : List Int := l.map (fun (n : Nat) => (n : Int))
def nd5 (m : MN) : T5.Nd := ⟨m.x.kind, ⟨m.x.text.toArray⟩, m.a, m.c, cI m.x.kids, m.x.pl⟩
def nx5 (x : PN) : T5.Nd := ⟨x.kind, ⟨x.text.toArray⟩, none, 0, cI x.kids, x.pl⟩
theorem kidD_eq (D : List Nat) (n : Nat) : ∀ (ks : List Int) (d : Nat), T5.kidD D n ks d = kidD D n ks d
  | [], d => rfl
  | k :: ks, d => by simp only [T5.kidD, kidD, kidD_eq D n ks]
theorem depths_eq {L5 : List T5.Nd} {L : List Nd} (h : L5.map T5.Nd.ks = L.map Nd.ks) : ∀ n, T5.depths L5 n = depths L n
  | 0 => rfl
  | n + 1 => by
    have e : (L5[n]?).map T5.Nd.ks = (L[n]?).map Nd.ks := by rw [← List.getElem?_map, h, List.getElem?_map]
    simp only [T5.depths, depths, depths_eq h n]
    cases h5 : L5[n]? with
    | none =>
      rw [h5] at e
      cases hL : L[n]? with
      | none => rfl
      | some y => rw [hL] at e; simp at e
    | some x =>
      rw [h5] at e
      cases hL : L[n]? with
      | none => rw [hL] at e; simp at e
      | some y => rw [hL] at e; simp at e; simp [e, kidD_eq]
theorem deep5 {L : List MN} {ms : List PN} (h : L.map MN.x = ms) : T5.deepL (L.map nd5) = deepP ms := by
  rw [← deepL_nd h]
  unfold T5.deepL deepL
  have e : (L.map nd5).map T5.Nd.ks = (L.map ndM).map Nd.ks := by simp [nd5, ndM, cI, Function.comp_def]
  rw [depths_eq e]
  simp
/-- The nodes as they lie, as the checks read them. -/
theorem nodes5 {w : World} {B : Nat} {L : List MN} {a : Option Addr} {c : Nat} {F : List Nat} (ho : w.ownsRow B 36 4 (.slice a L.length c) L.length (flatM L)) (hk : ∀ m ∈ L, KRow w F m) (hF : ∀ j ∈ F, j < w.heap.size) (hT : ∀ m ∈ L, m.x.text.length ≤ 200020) : T5.NAt w.heap.size w a (L.map nd5) := by
  intro i x hx
  rw [List.getElem?_map] at hx
  obtain ⟨m, hm, rfl⟩ := Option.map_eq_some_iff.1 hx
  have hmem := List.mem_of_getElem? hm
  obtain ⟨k1, k2, k3⟩ := hk m hmem
  have ht := hT m hmem
  rcases ho.2 with ⟨e1, e2⟩ | ⟨g, cap, cur, e1, -⟩
  · rw [List.length_eq_zero_iff] at e2
    subst e2
    simp at hm
  · cases e1
    have hb := (ho.lt g rfl)
    have hc : ∀ j, j < 4 → ∀ u, m.cells[j]? = some u → w.cell? ⟨g, i * 4 + j, none⟩ = some u := fun j hj u hu => by
      have := ho.cells (g := g) rfl (i * 4 + j) u (by rw [flatM_get hm j hj]; exact hu)
      rw [Addr.add_lit, Nat.zero_add] at this
      exact this
    refine ⟨g, 0, rfl, hb.2, ?_, ?_, ?_, ?_, ?_, ?_, ?_, ?_, ?_⟩
    · simpa [nd5] using hc 0 (by omega) _ rfl
    · simpa [nd5] using hc 1 (by omega) _ rfl
    · simpa [nd5, cI] using hc 2 (by omega) _ rfl
    · simpa [nd5] using hc 3 (by omega) _ rfl
    · intro j k hj
      simp only [nd5, cI, List.getElem?_map] at hj
      obtain ⟨n, hn, rfl⟩ := Option.map_eq_some_iff.1 hj
      obtain ⟨b, o, cc, z, q1, q2, q3, q4⟩ := k3 j n hn
      exact ⟨b, o, q1, hF b q2, at_cells q3 _ q4⟩
    · simp only [nd5]
      rw [Lib.size_eq]
      simp only
      unfold maxLen
      omega
    · simpa [nd5, cI] using Nat.le_trans k1.1 k1.2
    · simpa [nd5, cI] using k1.1
    · exact k2
theorem fld0 (a b c d : Int) (s : ByteArray) (W : World) : (Instr.field 51 (.agg #[.int .i64 a, .string s, .int .i64 b, .int .i64 c, .int .i64 d]) 0).run Tryz.prog W = .ok (.int .i64 a) W := by kernel_rfl
/-- A reader that begins. -/
theorem RS.begin {w : World} {ts : List Tok} {B tg tc : Nat} (hR : TRow w tg ts) (hb : B ≤ tg) (hB : 5 ≤ B) (hw : B ≤ w.heap.size) (hl : ts.length ≤ 200001) (hc : ts.length ≤ tc) (hp : 0 < ts.length) :
    RS ts B w.heap.size [w.heap.size, tg] 0 [] (w.alloc (.cells #[.slice (some ⟨tg, 0, none⟩) ts.length tc, .int .i64 0, .slice none 0 0, .bool false, .int .i64 0] 49)) := by
  have f : Fr [] w (w.alloc (.cells #[.slice (some ⟨tg, 0, none⟩) ts.length tc, .int .i64 0, .slice none 0 0, .bool false, .int .i64 0] 49)) := (Fr.refl _ _).alloc _
  refine ⟨⟨tg, tc, .slice none 0 0, [], heap_alloc_new w _, hc, by simp, hR.fr f (by simp), rfl, World.ownsRow_nil _ _ _ _, fun k h => by simp [Value.ownBlock] at h, by simp⟩, by simp, ?_, hB, hl, hp⟩
  intro j hj
  have := hR.lt
  simp only [List.mem_cons, List.not_mem_nil, or_false] at hj
  rcases hj with rfl | rfl
  · simp; omega
  · simp; omega

theorem RB.cells5 {ts : List Tok} {rb p : Nat} {w : World} (h : RB ts rb p w) : w.cell? ⟨rb, 3, none⟩ = some (.bool true) ∧ w.cell? ⟨rb, 4, none⟩ = some (.int .i64 (p : Nat)) := by
  obtain ⟨tg, tc, i, nv, h1, _⟩ := h.ex
  exact ⟨h1.cells.2.2.2.1, h1.cells.2.2.2.2.1⟩
theorem Fr.trans' {S : List Nat} {a b c : World} (h : Fr [] a b) (k : Fr S b c) (hS : ∀ i ∈ S, a.heap.size ≤ i) : Fr [] a c := ((h.sub (T := S) (by simp)).trans k).sub (fun i hi => .inr (hS i hi))
set_option maxRecDepth 100000 in
set_option maxHeartbeats 4000000 in
theorem prgR_any (s : ByteArray) (w : World) (hs : s.size ≤ 200000) (h7 : 5 ≤ w.heap.size) :
    Calls Tryz.prog 12 #[.string s] w fun e w' => PrgOut s w w' e ∧ Fr [] w w' := by
  obtain ⟨i3, hi3, hz, hz1, hby⟩ := info_parts info3
  have CS := scanR_any s w hs
  unfold scOut at CS
  rcases hsc : sc s 0 with ⟨ts, _ | ⟨p, c⟩⟩
  rotate_left
  · rw [hsc] at CS
    have HQ : Hid (prgL s = .error (p, c)) := by unfold Hid prgL; rw [hsc]
    have hc : ¬ (c : Int) = 0 := by
      have h1 := scanL_err (s.size + 1) 0 (s.data.toList.drop 0) (p, c) (show (sc s 0).2 = _ by rw [hsc])
      simp only at h1
      omega
    replace CS : Calls Tryz.prog 18 #[.string s] w fun e w' => e = .returned (.tuple #[.slice none 0 0, .int .i64 (p : Nat), .int .i64 (c : Nat)]) ∧ Fr [] w w' := CS
    clear hsc
    go_enter Tryz.func12, Tryz.ntmps12
    go_wp2_with (go_at_call 18; refine CS.mono ?_)
    rintro e w1 ⟨rfl, f1⟩
    go_wp2
    exact bodyPost_ret (results_tmp3 rfl _ _ _) rfl ⟨PrgOut.err HQ.out, f1⟩
  rw [hsc] at CS
  have HT : Hid (Toks (withEnd s ts) ∧ ts.length ≤ s.size) := toks_of (by rw [hsc])
  have HKT : Hid (KT (withEnd s ts)) := kt_of (by rw [hsc])
  have HKB : Hid (KB (withEnd s ts)) := kb_of (by rw [hsc])
  have HLE : Hid (∀ i, i < (withEnd s ts).length → TLen 200020 (tk (withEnd s ts) i)) := fun i hi => by have := (toks_good (s := s) (ts := ts) (by rw [hsc]) i hi).2; exact ⟨Nat.le_trans this.1 (by omega), Nat.le_trans this.2 (by omega)⟩
  have Hlen : Hid ((withEnd s ts).length = ts.length + 1) := by unfold Hid; simp [withEnd]
  replace CS : Calls Tryz.prog 18 #[.string s] w fun e w' => (∃ v, e = .returned (.tuple #[v, .int .i64 0, .int .i64 0]) ∧ w'.ownsRow w.heap.size 51 5 v (ts.length + 1) (flatT (withEnd s ts))) ∧ Fr [] w w' := CS
  have HPL : Hid (prgL s = afterL (withEnd s ts)) := prgL_after hsc rfl
  clear hsc
  generalize withEnd s ts = us at *
  have Hul : Hid (us.length ≤ 200001) := by unfold Hid; have := HT.out.2; have := Hlen.out; omega
  clear hs
  go_enter Tryz.func12, Tryz.ntmps12
  go_wp2_with (go_at_call 18; refine CS.mono ?_)
  rintro e w1 ⟨⟨v, rfl, hrow⟩, f1⟩
  rw [← Hlen.out] at hrow
  have hul := Hul.out
  obtain ⟨g, tc, rfl, hg, htc, hR⟩ := row_of hrow (by have := Hlen.out; omega)
  have CT := nest_any (tc := tc) hR hul htc HKB.out
  clear CS hrow
  cases hto : tooO us 0 with
  | some p =>
    have HQ : Hid (prgL s = .error (p, 51)) := HPL.out.trans (by unfold afterL; rw [hto])
    rw [hto] at CT
    simp only [NestV] at CT
    have hp0 : (0 : Int) ≤ (p : Int) := by omega
    go_wp2_with (go_at_call 19; refine CT.mono ?_)
    rintro e w2 ⟨rfl, f2⟩
    go_wp2
    exact bodyPost_ret (results_tmp3 rfl _ _ _) rfl ⟨PrgOut.err HQ.out, f1.trans f2⟩
  | none =>
    have HP2 : Hid (prgL s = match fullP us with | .error k => .error ((tk us k).frm, 60) | .ok (_, _, ms) => if 50000 < ms.length then .error (0, 2) else if 200 < deepP ms then .error (0, 51) else .ok ms) := HPL.out.trans (by unfold afterL; rw [hto]; rcases fullP us with k | ⟨v, j, ms⟩ <;> rfl)
    rw [hto] at CT
    simp only [NestV] at CT
    go_wp2_with (go_at_call 19; refine CT.mono ?_)
    rintro e w2 ⟨rfl, f2⟩
    have f02 := f1.trans f2
    have hR2 := hR.fr f2 (by simp)
    have hb0 := RS.begin (B := w.heap.size) (tc := tc) hR2 hg h7 f02.size hul htc HT.out.1.pos
    have HGW : Hid (w.heap.size ≤ g) := hg
    have gW : Fr [] w2 (w2.alloc (.cells #[.slice (some ⟨g, 0, none⟩) us.length tc, .int .i64 0, .slice none 0 0, .bool false, .int .i64 0] 49)) := (Fr.refl _ _).alloc _
    have HW3 : Hid (Fr [] w (w2.alloc (.cells #[.slice (some ⟨g, 0, none⟩) us.length tc, .int .i64 0, .slice none 0 0, .bool false, .int .i64 0] 49))) := f02.trans gW
    have HRB : Hid (w.heap.size ≤ w2.heap.size) := f02.size
    have HM : Hid (∀ v j ms, fullP us = .ok (v, j, ms) → j < us.length ∧ ms.length ≤ 2 * j + 1 ∧ ∀ x ∈ ms, x.text.length ≤ 200020) := by
      intro v j ms h
      have hh := (fullP_eq HT.out.1).trans (congrArg some h)
      have e := run_ok HT.out.1 (nt := .prog) (i := 0) (ns := []) (g := 40 * us.length + 29) HT.out.1.pos trivial hh
      have e1 := e.2.1
      have e2 := e.2.2.2.1
      simp only [slack, List.length_nil] at e2
      refine ⟨e1, by omega, fun x hx => (keep_len (M := 200020) HT.out.1 (by omega) HLE.out _ .prog _ _ (fun t h => by cases h) v j ms hh (by simp) x hx).1⟩
    obtain ⟨r, HR⟩ : ∃ r, Hid (fullP us = r) := ⟨_, rfl⟩
    have HP : Hid (P us (40 * us.length + 28) (.progL []) 0 [] = some r) := by
      have := fullP_eq HT.out.1
      rw [HR.out] at this
      have e : P us (40 * us.length + 29) .prog 0 [] = P us (40 * us.length + 28) (.progL []) 0 [] := by rw [P]
      rw [← e]
      exact this
    rw [HR.out] at HP2 HM
    have HH : Hid (∀ f, RHyp us w.heap.size w2.heap.size f) := rhyp_all HT.out.1 HKT.out
    obtain ⟨rb, HRBE⟩ : ∃ rb, Hid (w2.heap.size = rb) := ⟨_, rfl⟩
    clear CT hto HPL hR hR2 hg htc
    go_wp2
    rw [HRBE.out] at hb0 HH HRB
    rw [HRBE.out]
    generalize hW3 : w2.alloc (.cells #[.slice (some ⟨g, 0, none⟩) us.length tc, .int .i64 0, .slice none 0 0, .bool false, .int .i64 0] 49) = w3 at *
    have hT := HT.out.1
    have HTL : Hid (us.length ≤ 200001) := Hul
    go_loopw [10] (fun kv wr => (∃ g' acc i' ns' F', RS us w.heap.size rb F' i' ns' wr ∧ KR w.heap.size w3 F' wr kv acc ∧ Tr [rb, g] w3 F' wr ∧ Hid (ns'.length ≤ 2 * i' ∧ acc.length ≤ i') ∧ Hid (P us g' (.progL acc) i' ns' = some r)) ∨ (∃ k, r = .error k ∧ RB us rb (tk us k).frm wr ∧ Fr [rb, g] w3 wr)) (fun _ wr => measR us rb wr)
    case atStart => exact .inl ⟨_, [], 0, [], _, hb0, KR.nil _ _ _ _, Tr.refl _ _, by unfold Hid; simp, HP⟩
    case round =>
      have HSUB : Hid (∀ k ∈ [rb, g], w.heap.size ≤ k) := by unfold Hid; have := HRB.out; have := HGW.out; simp; omega
      have HBW : Hid (w.heap.size ≤ w3.heap.size) := HW3.out.size
      clear hb0 HP gW f02
      rcases hrel with ⟨g', acc, p, ms, F1, hps, hkr, htr, hbd, hPP⟩ | ⟨k, rfl, hb, fe⟩
      rotate_left
      · have c3 := hb.cells
        have HQ : Hid (prgL s = .error ((tk us k).frm, 60)) := HP2.out
        go_wp2_with fail
        refine (rnode_bad hb _ _ _ _).mono ?_
        rintro e w5 ⟨rfl, f5⟩
        have hb5 := hb.fr f5
        have fe5 : Fr [] w w5 := (HW3.out.trans' ((fe.trans (f5.sub (by simp)))) HSUB.out)
        have FZ : ∀ w', Fr [] w5 w' → RB us rb (tk us k).frm w' := fun w' f => hb5.fr f
        obtain ⟨d3, d4⟩ := hb5.cells5
        have r4 : ∀ w', Fr [] w5 w' → w'.cell? ⟨rb, 4, none⟩ = some (.int .i64 ((tk us k).frm : Nat)) := fun w' f => f.cell1 d4 (by simp)
        have f55 : Fr [] w5 w5 := Fr.refl _ _
        clear c3 FZ
        go_wp2
        go_region_held3 (fun w' => Fr [] w5 w') (with_reducible (first | assumption | (refine Fr.drew ?_; assumption))) (fail)
        go_wp2
        exact bodyPost_ret (results_tmp3 rfl _ _ _) rfl ⟨PrgOut.err HQ.out, fe5.drew⟩
      obtain _ | g' := g'
      · exact absurd hPP.out (by simp [P])
      have hpi := hps.ti
      have HPI : Hid (p < us.length ∧ measR us rb wr = us.length - p + 1) := ⟨hpi, hps.meas⟩
      obtain ⟨ka, kc, hkv, _⟩ := own_slice hkr.on
      subst hkv
      have o0 := hkr.on
      have ny0 := hkr.ni
      have z0 : Hid (∀ k, (Value.slice ka acc.length kc).ownBlock = some k → w3.heap.size ≤ k) := hkr.lo
      obtain ⟨_, _, _, c3w, _⟩ := hps.cells
      clear hkr
      have hP := hPP.out
      simp only [P] at hP
      clear hPP
      have C5 := hps.now
      unfold tokA at C5
      by_cases e1 : nx us p = []
      · rw [if_pos e1] at hP
        have k0 := (HKT.out.stop hpi).1 e1
        have hk : ((((tk us p).kind : Nat) : Int) != 0) = false := by simp; omega
        have HRR : Hid (r = .ok ([ms.length], p, ms ++ [⟨1, [], acc, 0⟩])) := by cases hP; rfl
        clear hP e1 k0
        go_wp2_with fail
        refine C5.mono ?_
        rintro e w5 ⟨rfl, f5⟩
        have fl5 := fld0 ((tk us p).kind : Nat) ((tk us p).frm : Nat) ((tk us p).to : Nat) ((tk us p).n : Nat) ⟨(tk us p).text.toArray⟩ w5
        have h5 := hps.fr f5 (by simp)
        have o5 := own_fr o0 f5 (by simp)
        have t5 := htr.trans (Tr.of0 f5)
        have KV0 := ON.kv o5
        have LO : ∀ k ∈ (Value.slice ka acc.length kc).ownBlock.toList, w3.heap.size ≤ k := fun k hk => z0.out k (by simpa using hk)
        have CL := rnode_any h5 KV0 1 [] 0 (by have := hbd.out; have := HTL.out; have := hpi; omega)
        clear C5 c3w
        go_wp2_with fail
        refine CL.mono ?_
        rintro e wz ⟨rfl, Fz, hz', fz, sz⟩
        have tz : Tr [rb, g] w3 Fz wz := lay_tr t5 fz sz LO
        have FW : Fr [] w wz := HW3.out.trans' tz.f HSUB.out
        have HM2 := HM
        rw [HRR.out] at HM2 HP2
        obtain ⟨q1, q2, q3⟩ := HM2.out _ _ _ rfl
        obtain ⟨tg', tc', nv, L, b1, b2, b3, b4, b11, b12, b13, b14⟩ := hz'.ex
        obtain ⟨na, nc, rfl, _⟩ := own_slice b12
        have hLl : L.length = (ms ++ [(⟨1, [], acc, 0⟩ : PN)]).length := by rw [← b11]; simp
        obtain ⟨_, _, d2, d3, _, _⟩ := b1.cells
        have HLx : Hid (∀ m ∈ L, m.x.text.length ≤ 200020) := fun m hm => q3 m.x (by rw [← b11]; exact List.mem_map_of_mem hm)
        have N5 := nodes5 b12 b14 (fun j hj => (hz'.fb j hj).2) HLx.out
        have CD := T5.rdeep_any wz.heap.size (L.map nd5) wz na L.length nc (by simp) N5 (by have := hbd.out; have := HTL.out; have := hpi; simp at hLl; omega) (Nat.le_refl _)
        rw [deep5 b11] at CD
        have HLl : Hid (L.length = ms.length + 1) := by unfold Hid; simpa using hLl
        have HLm : Hid (L.map MN.x = ms ++ [⟨1, [], acc, 0⟩]) := b11
        have HOw : Hid (wz.ownsRow w.heap.size 36 4 (.slice na L.length nc) L.length (flatM L)) := b12
        have HFz : Hid (∀ j ∈ Fz, w.heap.size ≤ j ∧ j < wz.heap.size) := fun j hj => ⟨(hz'.fb j hj).1, (hz'.fb j hj).2⟩
        have HJ : Hid (ms.length + 1 ≤ 400003) := by unfold Hid; have := hbd.out; have := HTL.out; omega
        have hLc : (L.length : Int) ≤ 400003 := by have := HLl.out; have := HJ.out; omega
        clear N5 hLl b12 b11 KV0 LO CL q3 HM
        generalize ms ++ [(⟨1, [], acc, 0⟩ : PN)] = MS at *
        have HLM : Hid (L.length = MS.length) := by unfold Hid; rw [← HLm.out]; simp
        by_cases h5 : 50000 < MS.length
        · have h5' : (50000 : Int) < (L.length : Int) := by have := HLM.out; omega
          have HQ : Hid (prgL s = .error (0, 2)) := HP2.out.trans (by simp only; rw [if_pos h5])
          go_wp2
          exact bodyPost_ret (results_tmp3 rfl _ _ _) rfl ⟨PrgOut.err HQ.out, FW⟩
        · have h5' : (L.length : Int) ≤ 50000 := by have := HLM.out; omega
          by_cases h6 : 200 < deepP MS
          · have h6' : (200 : Int) < (deepP MS : Int) := by omega
            have HQ : Hid (prgL s = .error (0, 51)) := HP2.out.trans (by simp only; rw [if_neg h5, if_pos h6])
            go_wp2_with (go_at_call 23; refine CD.mono ?_)
            rintro e w9 ⟨rfl, f9⟩
            go_wp2
            exact bodyPost_ret (results_tmp3 rfl _ _ _) rfl ⟨PrgOut.err HQ.out, FW.trans f9⟩
          · have h6' : (deepP MS : Int) ≤ 200 := by omega
            have HQ : Hid (prgL s = .ok MS) := HP2.out.trans (by simp only; rw [if_neg h5, if_neg h6])
            go_wp2_with (go_at_call 23; refine CD.mono ?_)
            rintro e w9 ⟨rfl, f9⟩
            have d22 := f9.cell1 d2 (by simp)
            go_wp2
            exact bodyPost_ret (results_tmp3 rfl _ _ _) rfl ⟨PrgOut.ok HQ.out ⟨_, L, Fz, rfl, HLm.out, own_fr HOw.out f9 (by simp), b13, fun m hm => (b14 m hm).fr f9 (by simp), fun j hj => ⟨(HFz.out j hj).1, Nat.lt_of_lt_of_le (HFz.out j hj).2 f9.size⟩⟩, FW.trans f9⟩
      · rw [if_neg e1] at hP
        have k0 := mt (HKT.out.stop hpi).2 e1
        have hk : ((((tk us p).kind : Nat) : Int) != 0) = true := by simp; omega
        have HP : Hid (_ = some r) := hP
        clear hP e1 k0
        go_wp2_with fail
        refine C5.mono ?_
        rintro e w5 ⟨rfl, f5⟩
        have fl5 := fld0 ((tk us p).kind : Nat) ((tk us p).frm : Nat) ((tk us p).to : Nat) ((tk us p).n : Nat) ⟨(tk us p).text.toArray⟩ w5
        have h5 := hps.fr f5 (by simp)
        have o5 := own_fr o0 f5 (by simp)
        have t5 := htr.trans (Tr.of0 f5)
        clear C5 c3w
        rcases bindR_some HP.out with ⟨er, hr, he⟩ | ⟨v6, j6, n6, hr, hP⟩
        · subst he
          have C6 := HH.out g' g' .decl _ _ w5 _ _ (Nat.le_refl _) h5 trivial (by have := hbd.out; omega) hr
          simp only [RCtr, ptr] at C6
          go_wp2_with fail
          refine C6.mono ?_
          rintro e w6 ⟨x6, rfl, hb6, f6⟩
          clear C6
          have fe6 := t5.ends f6
          have ob9 := own_fr o5 f6 (fun k hk => ny0 k hk)
          have HB9 : Hid (w.heap.size ≤ w6.heap.size) := by have := HBW.out; have := fe6.size; unfold Hid; omega
          go_wp2_with (at_builtin; refine wpList_append_own_at _ rfl _ _ 34 rfl w.heap.size 3 i3 (.int .i64 0) 1 8 under35 hi3 hz hz1 hby rfl (by decide) (.slice ka acc.length kc) acc.length (acc.map (fun k => Value.int .i64 (k : Nat))) rfl (ob9.alloc _) ⟨w6.heap.size, 0, none⟩ 1 1 [.int .i64 x6] rfl rfl (one_new w6 _) (by simp [Value.oneCell']) (by have := hbd.out; have := HPI.out; have := HTL.out; unfold maxLen; omega) (by have := hbd.out; have := HPI.out; have := HTL.out; omega) (by have := HB9.out; simp; omega) ?_)
          intro v9 w9 hown9 hgrow9 hnil9 hloc9
          have f9 : Fr (Value.slice ka acc.length kc).ownBlock.toList w6 w9 := ((Fr.refl _ _).alloc _).trans ((Fr.ofGrown hgrow9).sub (fun k hk => .inl hk))
          have hb9 := hb6.fr_row ob9 f9
          have fe9 : Fr [rb, g] w3 w9 := (Tr.of fe6).ends_row f9 (fun k hk => z0.out k (by simpa using hk))
          obtain ⟨va, vc, hv9, _⟩ := own_slice hown9
          subst hv9
          clear hown9 hgrow9 hnil9 hloc9 ob9
          have HM9 : Hid (measR us rb w9 = 0) := hb9.meas
          go_wp2
          go_roundw
          case rel => exact .inr ⟨_, rfl, hb9, fe9⟩
          case measure => have e2 := HPI.out; have e3 := HM9.out; omega
        · obtain ⟨oa, ob, oc, od, oe⟩ := run_ok hT (nt := .decl) (ns := ms) hpi trivial hr
          simp only [consN, slack] at oa od
          obtain ⟨m6, rfl, hm6⟩ := oe rfl
          have C6 := HH.out g' g' .decl _ _ w5 _ _ (Nat.le_refl _) h5 trivial (by have := hbd.out; omega) hr
          simp only [RCtr, ptr] at C6
          have HP : Hid (P us g' (.progL (acc ++ [m6])) j6 n6 = some r) := hP
          have B6 : Hid (n6.length ≤ 2 * j6 ∧ p < j6 ∧ j6 < us.length) := by have := hbd.out; unfold Hid; omega
          clear hP hr oa ob oc od oe hm6
          go_wp2_with fail
          refine C6.mono ?_
          rintro e w6 ⟨he, F6, h6, s6⟩
          obtain rfl : e = .returned (.int .i64 (m6 : Nat)) := he
          clear C6
          have t6 := t5.trans s6
          have o6 := own_fr o5 s6.f (fun k hk => ny0 k hk)
          have ny6 : ∀ k, (Value.slice ka acc.length kc).ownBlock = some k → k ∉ F6 := fun k hk => Tr.notin s6 (ny0 k hk) (o5.lt k hk).2
          have HB9 : Hid (w.heap.size ≤ w6.heap.size) := by have := HBW.out; have := t6.f.size; unfold Hid; omega
          go_wp2_with (at_builtin; refine wpList_append_own_at _ rfl _ _ 34 rfl w.heap.size 3 i3 (.int .i64 0) 1 8 under35 hi3 hz hz1 hby rfl (by decide) (.slice ka acc.length kc) acc.length (acc.map (fun k => Value.int .i64 (k : Nat))) rfl (o6.alloc _) ⟨w6.heap.size, 0, none⟩ 1 1 [.int .i64 (m6 : Nat)] rfl rfl (one_new w6 _) (by simp [Value.oneCell']) (by have := hbd.out; have := HPI.out; have := HTL.out; unfold maxLen; omega) (by have := hbd.out; have := HPI.out; have := HTL.out; omega) (by have := HB9.out; simp; omega) ?_)
          intro v9 w9 hown9 hgrow9 hnil9 hloc9
          have f9 : Fr (Value.slice ka acc.length kc).ownBlock.toList w6 w9 := ((Fr.refl _ _).alloc _).trans ((Fr.ofGrown hgrow9).sub (fun k hk => .inl hk))
          have kr9 : KR w.heap.size w3 F6 w6 (.slice ka acc.length kc) acc := ⟨o6, ny6, fun k hk => z0.out k hk⟩
          have h9 := h6.fr f9 (fun k hk => kr9.ni k (by simpa using hk))
          have k9 := kr9.snoc t6.f.size (fun j hj => (h6.fb j hj).2) hown9 (by simpa using hloc9)
          have t9 : Tr [rb, g] w3 F6 w9 := row_tr t6 f9 (fun k hk => kr9.lo k (by simpa using hk))
          clear hown9 hgrow9 hnil9 hloc9 kr9
          have HM9 : Hid (measR us rb w9 = us.length - j6 + 1) := h9.meas
          go_wp2
          go_roundw
          case rel => exact .inl ⟨g', acc ++ [m6], j6, n6, F6, h9, k9, t9, by have := B6.out; have := hbd.out; unfold Hid; simp; omega, HP⟩
          case measure => have e2 := HPI.out; have e3 := HM9.out; have := B6.out; omega
end Go.Proofs.YtnebhkglpggnlaaGreatDoor
namespace Go.Proofs.YtnebhkglpggnlaaGreatDoor
open Go.RowKit
set_option linter.unusedVariables false
set_option linter.unusedSimpArgs false

/-- What is not marked, together. -/
def pot (len : Nat → Nat) (T : List Bool) : Nat → Nat
  | 0 => 0
  | m + 1 => pot len T m + if T.getD m false = true then 0 else len m
def sumTo (cost : Nat → Nat) : Nat → Nat
  | 0 => 0
  | m + 1 => sumTo cost m + cost m
theorem pot_congr {len : Nat → Nat} {T U : List Bool} : ∀ n, (∀ i, i < n → T.getD i false = U.getD i false) → pot len T n = pot len U n
  | 0, _ => rfl
  | n + 1, h => by
    simp only [pot]
    rw [pot_congr n (fun i hi => h i (by omega)), h n (by omega)]
theorem getD_set {T : List Bool} {k i : Nat} (h : i ≠ k) : (T.set k true).getD i false = T.getD i false := by
  rw [List.getD_eq_getElem?_getD, List.getD_eq_getElem?_getD, List.getElem?_set_ne (fun e => h e.symm)]
theorem set_pot {len : Nat → Nat} {T : List Bool} {k : Nat} (hf : T.getD k false = false) : ∀ n, k < n → n ≤ T.length → pot len (T.set k true) n + len k = pot len T n
  | 0, h, _ => by omega
  | n + 1, h, hl => by
    simp only [pot]
    by_cases e : k = n
    · subst e
      rw [pot_congr (T := T.set k true) (U := T) k (fun i hi => getD_set (by omega)), hf]
      rw [show (T.set k true).getD k false = true by rw [List.getD_eq_getElem?_getD, List.getElem?_set_self (by omega)]; rfl]
      simp
    · have := set_pot (len := len) hf n (by omega) (by omega)
      rw [getD_set (by omega)]
      omega
theorem take_pot {len : Nat → Nat} {n : Nat} : ∀ (ks : List Int) (T T' : List Bool), T5.takeL n ks T = some T' → n ≤ T.length → pot len T' n + (ks.map (fun k => len k.toNat)).sum = pot len T n
  | [], T, T', h, _ => by simp [T5.takeL] at h; simp [h]
  | k :: r, T, T', h, hl => by
    simp only [T5.takeL] at h
    split at h
    · cases h
    · rename_i hn
      have h1 := take_pot (len := len) r _ _ h (by simpa using hl)
      have hk : T.getD k.toNat false = false := by
        cases e : T.getD k.toNat false with
        | false => rfl
        | true => exact absurd (.inr (.inr e)) hn
      have h2 := set_pot (len := len) hk n (by omega) hl
      simp only [List.map_cons, List.sum_cons]
      omega
theorem nodes_marks {L : List T5.Nd} : ∀ (m : Nat) (T : List Bool), T5.nodesL L m = .ok T → ∀ i, T.getD i false = true → i + 1 < m
  | 0, T, h, i, hi => by
    simp [T5.nodesL] at h
    subst h
    rw [List.getD_eq_getElem?_getD] at hi
    by_cases e : i < L.length
    · simp [e] at hi
    · simp [e] at hi
  | m + 1, T, h, i, hi => by
    unfold T5.nodesL at h
    split at h
    · cases h
    · rename_i T0 h0
      have ih := nodes_marks m T0 h0 i
      split at h
      · cases h; have := ih hi; omega
      · rename_i x hx
        split at h
        · cases h
        · rename_i T1 h1
          cases h
          unfold T5.nodeE at h1
          split at h1
          · cases h1
          · split at h1
            · cases h1
            · split at h1
              · cases h1
              · rename_i T2 ht2
                repeat (split at h1 <;> try (cases h1))
                rcases T5.take_true _ _ _ i ht2 hi with e | e
                · have := ih e; omega
                · have := T5.take_in _ _ _ ht2 (i : Int) e
                  omega
theorem nodes_pre {L : List T5.Nd} {m : Nat} {T : List Bool} (h : T5.nodesL L m = .ok T) {n : Nat} (hn : n ≤ m) : ∃ U, T5.nodesL L n = .ok U := by
  cases hu : T5.nodesL L n with
  | ok U => exact ⟨U, rfl⟩
  | error e => rw [T5.nodes_stop hu m hn] at h; cases h
theorem pot_bound {L : List T5.Nd} {len cost : Nat → Nat} (hlen : ∀ i x, L[i]? = some x → len i ≤ cost i + (x.ks.map (fun k => len k.toNat)).sum) : ∀ (m : Nat) (T : List Bool), T5.nodesL L m = .ok T → m ≤ L.length → pot len T m ≤ sumTo cost m
  | 0, T, h, _ => by simp [pot]
  | m + 1, T, h, hm => by
    unfold T5.nodesL at h
    split at h
    · cases h
    · rename_i T0 h0
      have ih := pot_bound hlen m T0 h0 (by omega)
      have hl := T5.nodes_length m T0 h0
      split at h
      · rename_i hx
        rw [List.getElem?_eq_getElem (by omega)] at hx
        cases hx
      · rename_i x hx
        split at h
        · cases h
        · rename_i T1 h1
          cases h
          unfold T5.nodeE at h1
          split at h1
          · cases h1
          · split at h1
            · cases h1
            · split at h1
              · cases h1
              · rename_i T2 ht2
                repeat (split at h1 <;> try (cases h1))
                have e1 := take_pot (len := len) _ _ _ ht2 (by omega)
                have e2 := hlen m x hx
                simp only [pot, sumTo]
                split <;> omega
/-- What is made of one node is no longer than what its own and those ahead of it cost. -/
theorem len_bound {L : List T5.Nd} {len cost : Nat → Nat} (hlen : ∀ i x, L[i]? = some x → len i ≤ cost i + (x.ks.map (fun k => len k.toNat)).sum) {T : List Bool} (h : T5.nodesL L L.length = .ok T) {n : Nat} (hn : n < L.length) : len n ≤ sumTo cost (n + 1) := by
  obtain ⟨U, hU⟩ := nodes_pre h (n := n + 1) (by omega)
  have h1 := pot_bound hlen (n + 1) U hU (by omega)
  have h2 : U.getD n false = false := by
    cases e : U.getD n false with
    | false => rfl
    | true => have := nodes_marks _ _ hU n e; omega
  simp only [pot, h2] at h1
  simp at h1
  omega
theorem sumTo_mono {cost : Nat → Nat} {n m : Nat} (h : n ≤ m) : sumTo cost n ≤ sumTo cost m := by
  induction m with
  | zero => have : n = 0 := by omega
            subst this; exact Nat.le_refl _
  | succ m ih =>
    by_cases e : n = m + 1
    · subst e; exact Nat.le_refl _
    · have := ih (by omega)
      simp only [sumTo]
      omega

def headB (x : T5.Nd) : List UInt8 := 40 :: Lib.itoa x.kind ++ (if x.text.data.toList = [] then [] else 32 :: x.text.data.toList) ++ (if x.pl = 0 then [] else 32 :: 64 :: Lib.itoa x.pl)
def lispF (L : List T5.Nd) : Nat → Int → List UInt8
  | 0, _ => []
  | f + 1, k => match L[k.toNat]? with
    | none => []
    | some x => headB x ++ (x.ks.map (fun j => 32 :: lispF L f j)).flatten ++ [41]
def Kids (L : List T5.Nd) : Prop := ∀ (i : Nat) (x : T5.Nd), L[i]? = some x → ∀ k ∈ x.ks, 0 ≤ k ∧ k < i
theorem lispF_same {L : List T5.Nd} (hK : Kids L) : ∀ (f g : Nat) (k : Int), k.toNat < f → k.toNat < g → lispF L f k = lispF L g k := by
  intro f
  induction f with
  | zero => intro g k h; omega
  | succ f ih =>
    intro g k h hg
    obtain _ | g := g
    · omega
    simp only [lispF]
    cases hx : L[k.toNat]? with
    | none => rfl
    | some x =>
      have e : x.ks.map (fun j => 32 :: lispF L f j) = x.ks.map (fun j => 32 :: lispF L g j) := by
        apply List.map_congr_left
        intro j hj
        obtain ⟨k0, k1⟩ := hK _ x hx j hj
        rw [ih g j (by omega) (by omega)]
      simp only [e]
def lispN (L : List T5.Nd) (n : Nat) : List UInt8 := lispF L (n + 1) n
def costB (L : List T5.Nd) (i : Nat) : Nat := match L[i]? with | some x => (headB x).length + x.ks.length + 1 | none => 0
theorem flat_len {f : Int → List UInt8} : ∀ ks : List Int, ((ks.map (fun j => 32 :: f j)).flatten).length = ks.length + (ks.map (fun j => (f j).length)).sum
  | [] => rfl
  | k :: r => by
    simp only [List.map_cons, List.flatten_cons, List.length_append, List.length_cons, List.sum_cons, flat_len r]
    omega
theorem lisp_len {L : List T5.Nd} (hK : Kids L) (i : Nat) (x : T5.Nd) (hx : L[i]? = some x) : (lispN L i).length ≤ costB L i + (x.ks.map (fun k => (lispN L k.toNat).length)).sum := by
  have e0 : lispN L i = headB x ++ (x.ks.map (fun j => 32 :: lispF L i j)).flatten ++ [41] := by
    unfold lispN
    simp only [lispF, Int.toNat_natCast, hx]
  have ec : costB L i = (headB x).length + x.ks.length + 1 := by unfold costB; rw [hx]
  rw [e0, ec]
  simp only [List.length_append, flat_len, List.length_cons, List.length_nil]
  simp only [lispN]
  have e : x.ks.map (fun j => (lispF L i j).length) = x.ks.map (fun k => (lispF L (k.toNat + 1) ((k.toNat : Nat) : Int)).length) := by
    apply List.map_congr_left
    intro k hk
    obtain ⟨k0, k1⟩ := hK i x hx k hk
    have ek : ((k.toNat : Nat) : Int) = k := by omega
    rw [ek, lispF_same hK i (k.toNat + 1) k (by omega) (by omega)]
  rw [e]
  omega
theorem kids_of {L : List T5.Nd} {T : List Bool} (h : T5.nodesL L L.length = .ok T) : Kids L := fun i x hx k hk => by
  have hi := (List.getElem?_eq_some_iff.1 hx).1
  exact T5.nodes_in _ _ h i x hi hx k hk
theorem lisp_bound {L : List T5.Nd} {T : List Bool} (h : T5.nodesL L L.length = .ok T) {M : Nat} (hM : sumTo (costB L) L.length ≤ M) {f n : Nat} (hn : n < L.length) (hf : n < f) : (lispF L f n).length ≤ M := by
  have h1 := len_bound (len := fun i => (lispN L i).length) (fun i x hx => lisp_len (kids_of h) i x hx) h hn
  have h2 := sumTo_mono (cost := costB L) (show n + 1 ≤ L.length by omega)
  rw [lispF_same (kids_of h) f (n + 1) n (by simpa using hf) (by simp)]
  simp only [lispN] at h1
  omega
end Go.Proofs.YtnebhkglpggnlaaGreatDoor
namespace Go.Proofs.YtnebhkglpggnlaaGreatDoor
open Go.RowKit
set_option linter.unusedVariables false
set_option linter.unusedSimpArgs false

theorem itoa_any (n : Int) (h0 : -9223372036854775808 ≤ n) (h1 : n ≤ 9223372036854775807) (w : World) (T : Tabs w) :
    Calls Tryz.prog 32 #[.int .i64 n] w fun e w' => e = .returned (.string ⟨(Lib.itoa n).toArray⟩) ∧ Fr [] w w' := by
  refine (Tryz.strconv_Itoa n h0 h1 w T.pow).mono ?_
  rintro e w' ⟨he, k, os, hw⟩
  exact ⟨he, fmt_fr hw⟩
theorem itoa_len (n : Int) (h0 : -9223372036854775808 ≤ n) (h1 : n ≤ 9223372036854775807) : (Lib.itoa n).length ≤ 21 := by
  unfold Lib.itoa
  split
  · have := dec_len2 19 n.natAbs (by omega)
    simp only [List.length_cons]
    omega
  · have := dec_len2 19 n.toNat (by omega)
    omega
/-- A node's four cells, in a block of one's own. -/
def NB (w : World) (g : Nat) (k : Int) (t : ByteArray) (a : Option Addr) (n c : Nat) (p : Int) : Prop := w.heap[g]? = some (.cells #[.int .i64 k, .string t, .slice a n c, .int .i64 p] 36 (0, 0))
theorem NB.cells {w : World} {g : Nat} {k : Int} {t : ByteArray} {a : Option Addr} {n c : Nat} {p : Int} (h : NB w g k t a n c p) : w.cell? ⟨g, 0, none⟩ = some (.int .i64 k) ∧ w.cell? ⟨g, 1, none⟩ = some (.string t) ∧ w.cell? ⟨g, 2, none⟩ = some (.slice a n c) ∧ w.cell? ⟨g, 3, none⟩ = some (.int .i64 p) := by
  unfold NB at h
  simp [World.cell?, h]
theorem NB.lt {w : World} {g : Nat} {k : Int} {t : ByteArray} {a : Option Addr} {n c : Nat} {p : Int} (h : NB w g k t a n c p) : g < w.heap.size := (Array.getElem?_eq_some_iff.1 h).1
theorem NB.fr {w w' : World} {g : Nat} {k : Int} {t : ByteArray} {a : Option Addr} {n c : Nat} {p : Int} (h : NB w g k t a n c p) (f : Fr [] w w') : NB w' g k t a n c p := (f.block _ h.lt (by simp)).trans h
def headA (x : T5.Nd) : List UInt8 := 40 :: Lib.itoa x.kind ++ (if x.text.data.toList = [] then [] else 32 :: x.text.data.toList)
def headC (x : T5.Nd) : List UInt8 := if x.pl = 0 then [] else 32 :: 64 :: Lib.itoa x.pl
theorem headB_eq (x : T5.Nd) : headB x = headA x ++ headC x := rfl
theorem ba_of {a : ByteArray} {l : List UInt8} (h : a.data.toList = l) : a = ⟨l.toArray⟩ := by
  subst h
  cases a
  rfl
theorem data_app (a b : ByteArray) : (a ++ b).data.toList = a.data.toList ++ b.data.toList := by simp [ByteArray.data_append]
set_option maxRecDepth 100000 in
set_option maxHeartbeats 2000000 in
theorem rlisp_any {L : List T5.Nd} {B : Nat} {a : Option Addr} {len cap : Nat} {U : List Bool} (hlen : L.length = len) (hU : T5.nodesL L L.length = .ok U) (hM : sumTo (costB L) L.length ≤ 1000000000000) (hm : len ≤ 2600000000000)
    (hrg : ∀ x ∈ L, (-9223372036854775808 ≤ x.kind ∧ x.kind ≤ 9223372036854775807) ∧ (-9223372036854775808 ≤ x.pl ∧ x.pl ≤ 9223372036854775807)) :
    ∀ (f n : Nat) (w : World), n < f → n < len → T5.NAt B w a L → B ≤ w.heap.size → Tabs w →
    Calls Tryz.prog 17 #[.slice a len cap, .int .i64 (n : Nat)] w fun e w' => e = .returned (.string ⟨(lispF L f n).toArray⟩) ∧ Fr [] w w' := by
  intro f
  induction f with
  | zero => intro n w h; omega
  | succ f ih =>
    intro n w hf hn hL hB TT
    have hn' : n < L.length := by omega
    obtain ⟨x, hx⟩ : ∃ x, L[n]? = some x := ⟨_, List.getElem?_eq_getElem hn'⟩
    obtain ⟨b, o, rfl, hb, NC⟩ := hL n x hx
    obtain ⟨⟨hk0, hk1⟩, hp0, hp1⟩ := hrg x (List.mem_of_getElem? hx)
    have HE : Hid (lispF L (f + 1) n = headB x ++ (x.ks.map (fun j => 32 :: lispF L f j)).flatten ++ [41]) := by unfold Hid; simp only [lispF, Int.toNat_natCast, hx]
    have HLN : Hid ((lispF L (f + 1) n).length ≤ 1000000000000) := lisp_bound hU hM hn' (by omega)
    have HKD : Hid (∀ k ∈ x.ks, 0 ≤ k ∧ k < n) := fun k hk => kids_of hU n x hx k hk
    have c0 := NC.c0
    have c1 := NC.c1
    have c2 := NC.c2
    have c3 := NC.c3
    have HKA0 : Hid (T5.KAt B w x.a x.ks) := NC.k
    have hcc0 : x.ks.length ≤ x.c := NC.kc
    clear NC
    generalize x.a = xa at c2 HKA0
    have g1 : Fr [] w (w.alloc (.cells #[.int .i64 x.kind, .string x.text, .slice xa x.ks.length x.c, .int .i64 x.pl] 36)) := (Fr.refl _ _).alloc _
    have nb : NB (w.alloc (.cells #[.int .i64 x.kind, .string x.text, .slice xa x.ks.length x.c, .int .i64 x.pl] 36)) w.heap.size x.kind x.text xa x.ks.length x.c x.pl := heap_alloc_new w _
    obtain ⟨e0, e1, e2, e3⟩ := nb.cells
    have hnI : (n : Int) < len := by omega
    have CI := itoa_any x.kind hk0 hk1 _ (TT.fr g1 (by simp))
    go_enter Tryz.func17, Tryz.ntmps17
    go_wp2_with fail
    refine CI.mono ?_
    rintro e w2 ⟨rfl, f2⟩
    have nb2 := nb.fr f2
    have g2 := g1.trans f2
    obtain ⟨d0, d1, d2, d3⟩ := nb2.cells
    have hi1 := itoa_len x.kind hk0 hk1
    have hi2 := itoa_len x.pl hp0 hp1
    have HLN2 : Hid ((headB x).length + x.ks.length ≤ 1000000000000) := by
      have h1 := HLN.out
      rw [HE.out] at h1
      simp only [List.length_append, flat_len] at h1
      unfold Hid
      omega
    have htx : x.text.size ≤ 1000000000000 := by
      have h1 := HLN2.out
      have h2 : x.text.size ≤ (headB x).length := by
        rw [Lib.size_eq]
        unfold headB
        split
        · rename_i e; rw [e]; simp
        · simp only [List.length_append, List.length_cons]; omega
      omega
    have HKL2 : Hid (x.ks.length ≤ 1000000000000) := by have := HLN2.out; unfold Hid; omega
    have q1 : ¬ 9223372036854775807 < 1 + (Lib.itoa x.kind).length := by omega
    have q2 : ¬ 9223372036854775807 < 1 + x.text.size := by omega
    have q3 : ¬ 9223372036854775807 < 1 + (Lib.itoa x.kind).length + (1 + x.text.size) := by omega
    have q4 : ¬ 9223372036854775807 < 2 + (Lib.itoa x.pl).length := by omega
    have q5 : ¬ 9223372036854775807 < 1 + (Lib.itoa x.kind).length + (1 + x.text.size) + (2 + (Lib.itoa x.pl).length) := by omega
    have q6 : ¬ 9223372036854775807 < 1 + (Lib.itoa x.kind).length + (2 + (Lib.itoa x.pl).length) := by omega
    have CP := fun w' (f' : Fr [] w w') => itoa_any x.pl hp0 hp1 w' (TT.fr f' (by simp))
    clear c0 c1 c2 c3 e0 e1 e2 e3 CI
    cases ht : x.text.toList.isEmpty
    · cases hpz : (x.pl != 0)
      · go_wp2_with fail
        have HS : Hid ((({ data := #[40] } ++ { data := (Lib.itoa x.kind).toArray } : ByteArray) ++ ({ data := #[32] } ++ x.text : ByteArray) : ByteArray).data.toList = headB x) := by
                  unfold Hid headB
                  have ez : x.text.data.toList = x.text.toList := (Lib.toList_data x.text).symm
                  have et : ¬ x.text.data.toList = [] := by rw [ez]; simpa using ht
                  have ep :  x.pl = 0 := by simpa using hpz
                  rw [if_neg et, if_pos ep]
                  simp only [data_app]
                  simp
        have nbL := nb2
        have gL := g2
        have TL := TT.fr gL (by simp)
        have HBL : Hid (B ≤ w2.heap.size) := by have := gL.size; unfold Hid; omega
        have HIH : Hid (∀ (n : Nat) (w : World), n < f → n < len → T5.NAt B w (some ⟨b, o, none⟩) L → B ≤ w.heap.size → Tabs w → Calls Tryz.prog 17 #[.slice (some ⟨b, o, none⟩) len cap, .int .i64 (n : Nat)] w fun e w' => e = .returned (.string ⟨(lispF L f n).toArray⟩) ∧ Fr [] w w') := ih
        have HKA : Hid (T5.KAt B w2 xa x.ks) := HKA0.out.fr gL (by simp)
        clear ih nb nb2 nbL d0 d1 d2 d3 hi1 hk0 hk1 hp0 hp1 hrg HKA0
        go_loopw [6, 37] (fun sv iv wr => ∃ (q : Nat) (A : List UInt8), q ≤ x.ks.length ∧ iv = .int .i64 (q : Nat) ∧ sv = .string ⟨A.toArray⟩ ∧ Fr [] w2 wr ∧ Hid (A = headB x ++ ((x.ks.take q).map (fun j => 32 :: lispF L f j)).flatten)) (fun _ iv _ => x.ks.length - (intOf iv).toNat)
        case atStart => exact ⟨0, headB x, Nat.zero_le _, rfl, congrArg Value.string (ba_of HS.out), Fr.refl _ _, by unfold Hid; simp⟩
        case round =>
          obtain ⟨q, A, hq, rfl, rfl, fr, HA⟩ := hrel
          have HAL : Hid (A.length ≤ (lispF L (f + 1) n).length) := by
            unfold Hid
            rw [HA.out, HE.out]
            have e1 : x.ks.map (fun j => 32 :: lispF L f j) = (x.ks.take q).map (fun j => 32 :: lispF L f j) ++ (x.ks.drop q).map (fun j => 32 :: lispF L f j) := by rw [← List.map_append, List.take_append_drop]
            rw [e1]
            simp only [List.flatten_append, List.length_append]
            omega
          have hAl : A.length ≤ 1000000000000 := Nat.le_trans HAL.out HLN.out
          have hmx : (x.ks.length : Int) ≤ 1000000000000 := by have := HKL2.out; omega
          by_cases hlt : q < x.ks.length
          · obtain ⟨k, hk⟩ : ∃ k, x.ks[q]? = some k := ⟨_, List.getElem?_eq_getElem hlt⟩
            obtain ⟨kb, ko, rfl, hkb, kc⟩ := HKA.out q k hk
            have kc' := fr.cell1 kc (by simp)
            obtain ⟨k0, k1⟩ := HKD.out k (List.mem_of_getElem? hk)
            have C5 := HIH.out k.toNat wr (by omega) (by omega) ((hL.fr (gL.trans fr) (by simp))) (by have := HBL.out; have := fr.size; omega) (TL.fr fr (by simp))
            have ek : ((k.toNat : Nat) : Int) = k := by omega
            rw [ek] at C5
            have HTK : Hid (x.ks.take (q + 1) = x.ks.take q ++ [k]) := by unfold Hid; rw [List.take_add_one, hk]; rfl
            have HNL : Hid ((A ++ 32 :: lispF L f k).length ≤ (lispF L (f + 1) n).length) := by
              unfold Hid
              rw [HA.out, HE.out]
              have e1 : x.ks.map (fun j => 32 :: lispF L f j) = (x.ks.take q).map (fun j => 32 :: lispF L f j) ++ (32 :: lispF L f k) :: (x.ks.drop (q + 1)).map (fun j => 32 :: lispF L f j) := by
                have : x.ks = x.ks.take q ++ k :: x.ks.drop (q + 1) := by
                  have h1 := List.drop_eq_getElem_cons hlt
                  rw [List.getElem?_eq_getElem hlt] at hk
                  cases hk
                  rw [← h1, List.take_append_drop]
                conv => lhs; rw [this]
                simp
              rw [e1]
              simp only [List.flatten_append, List.length_append, List.flatten_cons]
              omega
            have hl1 : A.length + (1 + (lispF L f k).length) ≤ 1000000000000 := by have h1 := HNL.out; have h2 := HLN.out; simp only [List.length_append, List.length_cons] at h1; omega
            have hltI : (q : Int) < x.ks.length := by omega
            have HX : Hid (q < x.ks.length) := hlt
            have hcc : (x.ks.length : Int) ≤ x.c := by omega
            have h1 : ¬ 9223372036854775807 < 1 + (lispF L f k).length := by omega
            have h2 : ¬ 9223372036854775807 < A.length + (1 + (lispF L f k).length) := by omega
            clear kc HKA hk hlt hl1 HAL HNL
            go_wp2_with fail
            refine C5.mono ?_
            rintro e w9 ⟨rfl, f9⟩
            have fr9 := fr.trans f9
            clear C5
            go_wp2
            go_roundw
            case rel => exact ⟨(q + 1 : Nat), (A ++ 32 :: lispF L f k : List UInt8), HX.out, by go_num, by rw [← ba_app]; rfl, fr9, by unfold Hid; rw [HA.out, HTK.out]; simp⟩
            case measure => have := HX.out; simp [intOf]; omega
          · have hqe : q = x.ks.length := by omega
            have HF : Hid (lispF L (f + 1) n = A ++ [41]) := by unfold Hid; rw [HE.out, HA.out, hqe]; simp
            have hl3 : ¬ 9223372036854775807 < A.length + 1 := by omega
            have hlt' : ¬ ((q : Int) < x.ks.length) := by omega
            clear hAl HAL
            go_wp2
            go_ret
            exact ⟨by rw [HF.out, ← ba_app]; rfl, gL.trans fr⟩
      · have C3 := CP w2 g2
        go_wp2_with fail
        refine C3.mono ?_
        rintro e w3 ⟨rfl, f3⟩
        have nb3 := nb2.fr f3
        obtain ⟨_, _, l2a, _⟩ := nb3.cells
        have g3 := g2.trans f3
        go_wp2_with fail
        have HS : Hid (((({ data := #[40] } ++ { data := (Lib.itoa x.kind).toArray } : ByteArray) ++ ({ data := #[32] } ++ x.text : ByteArray) : ByteArray) ++ ({ data := #[32, 64] } ++ { data := (Lib.itoa x.pl).toArray } : ByteArray) : ByteArray).data.toList = headB x) := by
                  unfold Hid headB
                  have ez : x.text.data.toList = x.text.toList := (Lib.toList_data x.text).symm
                  have et : ¬ x.text.data.toList = [] := by rw [ez]; simpa using ht
                  have ep : ¬ x.pl = 0 := by simpa using hpz
                  rw [if_neg et, if_neg ep]
                  simp only [data_app]
                  simp
        have nbL := nb3
        have gL := g3
        have TL := TT.fr gL (by simp)
        have HBL : Hid (B ≤ w3.heap.size) := by have := gL.size; unfold Hid; omega
        have HIH : Hid (∀ (n : Nat) (w : World), n < f → n < len → T5.NAt B w (some ⟨b, o, none⟩) L → B ≤ w.heap.size → Tabs w → Calls Tryz.prog 17 #[.slice (some ⟨b, o, none⟩) len cap, .int .i64 (n : Nat)] w fun e w' => e = .returned (.string ⟨(lispF L f n).toArray⟩) ∧ Fr [] w w') := ih
        have HKA : Hid (T5.KAt B w3 xa x.ks) := HKA0.out.fr gL (by simp)
        clear ih nb nb2 nb3 nbL C3 l2a d0 d1 d2 d3 hi1 hk0 hk1 hp0 hp1 hrg HKA0
        go_loopw [6, 37] (fun sv iv wr => ∃ (q : Nat) (A : List UInt8), q ≤ x.ks.length ∧ iv = .int .i64 (q : Nat) ∧ sv = .string ⟨A.toArray⟩ ∧ Fr [] w3 wr ∧ Hid (A = headB x ++ ((x.ks.take q).map (fun j => 32 :: lispF L f j)).flatten)) (fun _ iv _ => x.ks.length - (intOf iv).toNat)
        case atStart => exact ⟨0, headB x, Nat.zero_le _, rfl, congrArg Value.string (ba_of HS.out), Fr.refl _ _, by unfold Hid; simp⟩
        case round =>
          obtain ⟨q, A, hq, rfl, rfl, fr, HA⟩ := hrel
          have HAL : Hid (A.length ≤ (lispF L (f + 1) n).length) := by
            unfold Hid
            rw [HA.out, HE.out]
            have e1 : x.ks.map (fun j => 32 :: lispF L f j) = (x.ks.take q).map (fun j => 32 :: lispF L f j) ++ (x.ks.drop q).map (fun j => 32 :: lispF L f j) := by rw [← List.map_append, List.take_append_drop]
            rw [e1]
            simp only [List.flatten_append, List.length_append]
            omega
          have hAl : A.length ≤ 1000000000000 := Nat.le_trans HAL.out HLN.out
          have hmx : (x.ks.length : Int) ≤ 1000000000000 := by have := HKL2.out; omega
          by_cases hlt : q < x.ks.length
          · obtain ⟨k, hk⟩ : ∃ k, x.ks[q]? = some k := ⟨_, List.getElem?_eq_getElem hlt⟩
            obtain ⟨kb, ko, rfl, hkb, kc⟩ := HKA.out q k hk
            have kc' := fr.cell1 kc (by simp)
            obtain ⟨k0, k1⟩ := HKD.out k (List.mem_of_getElem? hk)
            have C5 := HIH.out k.toNat wr (by omega) (by omega) ((hL.fr (gL.trans fr) (by simp))) (by have := HBL.out; have := fr.size; omega) (TL.fr fr (by simp))
            have ek : ((k.toNat : Nat) : Int) = k := by omega
            rw [ek] at C5
            have HTK : Hid (x.ks.take (q + 1) = x.ks.take q ++ [k]) := by unfold Hid; rw [List.take_add_one, hk]; rfl
            have HNL : Hid ((A ++ 32 :: lispF L f k).length ≤ (lispF L (f + 1) n).length) := by
              unfold Hid
              rw [HA.out, HE.out]
              have e1 : x.ks.map (fun j => 32 :: lispF L f j) = (x.ks.take q).map (fun j => 32 :: lispF L f j) ++ (32 :: lispF L f k) :: (x.ks.drop (q + 1)).map (fun j => 32 :: lispF L f j) := by
                have : x.ks = x.ks.take q ++ k :: x.ks.drop (q + 1) := by
                  have h1 := List.drop_eq_getElem_cons hlt
                  rw [List.getElem?_eq_getElem hlt] at hk
                  cases hk
                  rw [← h1, List.take_append_drop]
                conv => lhs; rw [this]
                simp
              rw [e1]
              simp only [List.flatten_append, List.length_append, List.flatten_cons]
              omega
            have hl1 : A.length + (1 + (lispF L f k).length) ≤ 1000000000000 := by have h1 := HNL.out; have h2 := HLN.out; simp only [List.length_append, List.length_cons] at h1; omega
            have hltI : (q : Int) < x.ks.length := by omega
            have HX : Hid (q < x.ks.length) := hlt
            have hcc : (x.ks.length : Int) ≤ x.c := by omega
            have h1 : ¬ 9223372036854775807 < 1 + (lispF L f k).length := by omega
            have h2 : ¬ 9223372036854775807 < A.length + (1 + (lispF L f k).length) := by omega
            clear kc HKA hk hlt hl1 HAL HNL
            go_wp2_with fail
            refine C5.mono ?_
            rintro e w9 ⟨rfl, f9⟩
            have fr9 := fr.trans f9
            clear C5
            go_wp2
            go_roundw
            case rel => exact ⟨(q + 1 : Nat), (A ++ 32 :: lispF L f k : List UInt8), HX.out, by go_num, by rw [← ba_app]; rfl, fr9, by unfold Hid; rw [HA.out, HTK.out]; simp⟩
            case measure => have := HX.out; simp [intOf]; omega
          · have hqe : q = x.ks.length := by omega
            have HF : Hid (lispF L (f + 1) n = A ++ [41]) := by unfold Hid; rw [HE.out, HA.out, hqe]; simp
            have hl3 : ¬ 9223372036854775807 < A.length + 1 := by omega
            have hlt' : ¬ ((q : Int) < x.ks.length) := by omega
            clear hAl HAL
            go_wp2
            go_ret
            exact ⟨by rw [HF.out, ← ba_app]; rfl, gL.trans fr⟩
    · cases hpz : (x.pl != 0)
      · go_wp2_with fail
        have HS : Hid (({ data := #[40] } ++ { data := (Lib.itoa x.kind).toArray } : ByteArray).data.toList = headB x) := by
                  unfold Hid headB
                  have ez : x.text.data.toList = x.text.toList := (Lib.toList_data x.text).symm
                  have et :  x.text.data.toList = [] := by rw [ez]; simpa using ht
                  have ep :  x.pl = 0 := by simpa using hpz
                  rw [if_pos et, if_pos ep]
                  simp only [data_app]
                  simp
        have nbL := nb2
        have gL := g2
        have TL := TT.fr gL (by simp)
        have HBL : Hid (B ≤ w2.heap.size) := by have := gL.size; unfold Hid; omega
        have HIH : Hid (∀ (n : Nat) (w : World), n < f → n < len → T5.NAt B w (some ⟨b, o, none⟩) L → B ≤ w.heap.size → Tabs w → Calls Tryz.prog 17 #[.slice (some ⟨b, o, none⟩) len cap, .int .i64 (n : Nat)] w fun e w' => e = .returned (.string ⟨(lispF L f n).toArray⟩) ∧ Fr [] w w') := ih
        have HKA : Hid (T5.KAt B w2 xa x.ks) := HKA0.out.fr gL (by simp)
        clear ih nb nb2 nbL d0 d1 d2 d3 hi1 hk0 hk1 hp0 hp1 hrg HKA0
        go_loopw [6, 37] (fun sv iv wr => ∃ (q : Nat) (A : List UInt8), q ≤ x.ks.length ∧ iv = .int .i64 (q : Nat) ∧ sv = .string ⟨A.toArray⟩ ∧ Fr [] w2 wr ∧ Hid (A = headB x ++ ((x.ks.take q).map (fun j => 32 :: lispF L f j)).flatten)) (fun _ iv _ => x.ks.length - (intOf iv).toNat)
        case atStart => exact ⟨0, headB x, Nat.zero_le _, rfl, congrArg Value.string (ba_of HS.out), Fr.refl _ _, by unfold Hid; simp⟩
        case round =>
          obtain ⟨q, A, hq, rfl, rfl, fr, HA⟩ := hrel
          have HAL : Hid (A.length ≤ (lispF L (f + 1) n).length) := by
            unfold Hid
            rw [HA.out, HE.out]
            have e1 : x.ks.map (fun j => 32 :: lispF L f j) = (x.ks.take q).map (fun j => 32 :: lispF L f j) ++ (x.ks.drop q).map (fun j => 32 :: lispF L f j) := by rw [← List.map_append, List.take_append_drop]
            rw [e1]
            simp only [List.flatten_append, List.length_append]
            omega
          have hAl : A.length ≤ 1000000000000 := Nat.le_trans HAL.out HLN.out
          have hmx : (x.ks.length : Int) ≤ 1000000000000 := by have := HKL2.out; omega
          by_cases hlt : q < x.ks.length
          · obtain ⟨k, hk⟩ : ∃ k, x.ks[q]? = some k := ⟨_, List.getElem?_eq_getElem hlt⟩
            obtain ⟨kb, ko, rfl, hkb, kc⟩ := HKA.out q k hk
            have kc' := fr.cell1 kc (by simp)
            obtain ⟨k0, k1⟩ := HKD.out k (List.mem_of_getElem? hk)
            have C5 := HIH.out k.toNat wr (by omega) (by omega) ((hL.fr (gL.trans fr) (by simp))) (by have := HBL.out; have := fr.size; omega) (TL.fr fr (by simp))
            have ek : ((k.toNat : Nat) : Int) = k := by omega
            rw [ek] at C5
            have HTK : Hid (x.ks.take (q + 1) = x.ks.take q ++ [k]) := by unfold Hid; rw [List.take_add_one, hk]; rfl
            have HNL : Hid ((A ++ 32 :: lispF L f k).length ≤ (lispF L (f + 1) n).length) := by
              unfold Hid
              rw [HA.out, HE.out]
              have e1 : x.ks.map (fun j => 32 :: lispF L f j) = (x.ks.take q).map (fun j => 32 :: lispF L f j) ++ (32 :: lispF L f k) :: (x.ks.drop (q + 1)).map (fun j => 32 :: lispF L f j) := by
                have : x.ks = x.ks.take q ++ k :: x.ks.drop (q + 1) := by
                  have h1 := List.drop_eq_getElem_cons hlt
                  rw [List.getElem?_eq_getElem hlt] at hk
                  cases hk
                  rw [← h1, List.take_append_drop]
                conv => lhs; rw [this]
                simp
              rw [e1]
              simp only [List.flatten_append, List.length_append, List.flatten_cons]
              omega
            have hl1 : A.length + (1 + (lispF L f k).length) ≤ 1000000000000 := by have h1 := HNL.out; have h2 := HLN.out; simp only [List.length_append, List.length_cons] at h1; omega
            have hltI : (q : Int) < x.ks.length := by omega
            have HX : Hid (q < x.ks.length) := hlt
            have hcc : (x.ks.length : Int) ≤ x.c := by omega
            have h1 : ¬ 9223372036854775807 < 1 + (lispF L f k).length := by omega
            have h2 : ¬ 9223372036854775807 < A.length + (1 + (lispF L f k).length) := by omega
            clear kc HKA hk hlt hl1 HAL HNL
            go_wp2_with fail
            refine C5.mono ?_
            rintro e w9 ⟨rfl, f9⟩
            have fr9 := fr.trans f9
            clear C5
            go_wp2
            go_roundw
            case rel => exact ⟨(q + 1 : Nat), (A ++ 32 :: lispF L f k : List UInt8), HX.out, by go_num, by rw [← ba_app]; rfl, fr9, by unfold Hid; rw [HA.out, HTK.out]; simp⟩
            case measure => have := HX.out; simp [intOf]; omega
          · have hqe : q = x.ks.length := by omega
            have HF : Hid (lispF L (f + 1) n = A ++ [41]) := by unfold Hid; rw [HE.out, HA.out, hqe]; simp
            have hl3 : ¬ 9223372036854775807 < A.length + 1 := by omega
            have hlt' : ¬ ((q : Int) < x.ks.length) := by omega
            clear hAl HAL
            go_wp2
            go_ret
            exact ⟨by rw [HF.out, ← ba_app]; rfl, gL.trans fr⟩
      · have C3 := CP w2 g2
        go_wp2_with fail
        refine C3.mono ?_
        rintro e w3 ⟨rfl, f3⟩
        have nb3 := nb2.fr f3
        obtain ⟨_, _, l2a, _⟩ := nb3.cells
        have g3 := g2.trans f3
        go_wp2_with fail
        have HS : Hid ((({ data := #[40] } ++ { data := (Lib.itoa x.kind).toArray } : ByteArray) ++ ({ data := #[32, 64] } ++ { data := (Lib.itoa x.pl).toArray } : ByteArray) : ByteArray).data.toList = headB x) := by
                  unfold Hid headB
                  have ez : x.text.data.toList = x.text.toList := (Lib.toList_data x.text).symm
                  have et :  x.text.data.toList = [] := by rw [ez]; simpa using ht
                  have ep : ¬ x.pl = 0 := by simpa using hpz
                  rw [if_pos et, if_neg ep]
                  simp only [data_app]
                  simp
        have nbL := nb3
        have gL := g3
        have TL := TT.fr gL (by simp)
        have HBL : Hid (B ≤ w3.heap.size) := by have := gL.size; unfold Hid; omega
        have HIH : Hid (∀ (n : Nat) (w : World), n < f → n < len → T5.NAt B w (some ⟨b, o, none⟩) L → B ≤ w.heap.size → Tabs w → Calls Tryz.prog 17 #[.slice (some ⟨b, o, none⟩) len cap, .int .i64 (n : Nat)] w fun e w' => e = .returned (.string ⟨(lispF L f n).toArray⟩) ∧ Fr [] w w') := ih
        have HKA : Hid (T5.KAt B w3 xa x.ks) := HKA0.out.fr gL (by simp)
        clear ih nb nb2 nb3 nbL C3 l2a d0 d1 d2 d3 hi1 hk0 hk1 hp0 hp1 hrg HKA0
        go_loopw [6, 37] (fun sv iv wr => ∃ (q : Nat) (A : List UInt8), q ≤ x.ks.length ∧ iv = .int .i64 (q : Nat) ∧ sv = .string ⟨A.toArray⟩ ∧ Fr [] w3 wr ∧ Hid (A = headB x ++ ((x.ks.take q).map (fun j => 32 :: lispF L f j)).flatten)) (fun _ iv _ => x.ks.length - (intOf iv).toNat)
        case atStart => exact ⟨0, headB x, Nat.zero_le _, rfl, congrArg Value.string (ba_of HS.out), Fr.refl _ _, by unfold Hid; simp⟩
        case round =>
          obtain ⟨q, A, hq, rfl, rfl, fr, HA⟩ := hrel
          have HAL : Hid (A.length ≤ (lispF L (f + 1) n).length) := by
            unfold Hid
            rw [HA.out, HE.out]
            have e1 : x.ks.map (fun j => 32 :: lispF L f j) = (x.ks.take q).map (fun j => 32 :: lispF L f j) ++ (x.ks.drop q).map (fun j => 32 :: lispF L f j) := by rw [← List.map_append, List.take_append_drop]
            rw [e1]
            simp only [List.flatten_append, List.length_append]
            omega
          have hAl : A.length ≤ 1000000000000 := Nat.le_trans HAL.out HLN.out
          have hmx : (x.ks.length : Int) ≤ 1000000000000 := by have := HKL2.out; omega
          by_cases hlt : q < x.ks.length
          · obtain ⟨k, hk⟩ : ∃ k, x.ks[q]? = some k := ⟨_, List.getElem?_eq_getElem hlt⟩
            obtain ⟨kb, ko, rfl, hkb, kc⟩ := HKA.out q k hk
            have kc' := fr.cell1 kc (by simp)
            obtain ⟨k0, k1⟩ := HKD.out k (List.mem_of_getElem? hk)
            have C5 := HIH.out k.toNat wr (by omega) (by omega) ((hL.fr (gL.trans fr) (by simp))) (by have := HBL.out; have := fr.size; omega) (TL.fr fr (by simp))
            have ek : ((k.toNat : Nat) : Int) = k := by omega
            rw [ek] at C5
            have HTK : Hid (x.ks.take (q + 1) = x.ks.take q ++ [k]) := by unfold Hid; rw [List.take_add_one, hk]; rfl
            have HNL : Hid ((A ++ 32 :: lispF L f k).length ≤ (lispF L (f + 1) n).length) := by
              unfold Hid
              rw [HA.out, HE.out]
              have e1 : x.ks.map (fun j => 32 :: lispF L f j) = (x.ks.take q).map (fun j => 32 :: lispF L f j) ++ (32 :: lispF L f k) :: (x.ks.drop (q + 1)).map (fun j => 32 :: lispF L f j) := by
                have : x.ks = x.ks.take q ++ k :: x.ks.drop (q + 1) := by
                  have h1 := List.drop_eq_getElem_cons hlt
                  rw [List.getElem?_eq_getElem hlt] at hk
                  cases hk
                  rw [← h1, List.take_append_drop]
                conv => lhs; rw [this]
                simp
              rw [e1]
              simp only [List.flatten_append, List.length_append, List.flatten_cons]
              omega
            have hl1 : A.length + (1 + (lispF L f k).length) ≤ 1000000000000 := by have h1 := HNL.out; have h2 := HLN.out; simp only [List.length_append, List.length_cons] at h1; omega
            have hltI : (q : Int) < x.ks.length := by omega
            have HX : Hid (q < x.ks.length) := hlt
            have hcc : (x.ks.length : Int) ≤ x.c := by omega
            have h1 : ¬ 9223372036854775807 < 1 + (lispF L f k).length := by omega
            have h2 : ¬ 9223372036854775807 < A.length + (1 + (lispF L f k).length) := by omega
            clear kc HKA hk hlt hl1 HAL HNL
            go_wp2_with fail
            refine C5.mono ?_
            rintro e w9 ⟨rfl, f9⟩
            have fr9 := fr.trans f9
            clear C5
            go_wp2
            go_roundw
            case rel => exact ⟨(q + 1 : Nat), (A ++ 32 :: lispF L f k : List UInt8), HX.out, by go_num, by rw [← ba_app]; rfl, fr9, by unfold Hid; rw [HA.out, HTK.out]; simp⟩
            case measure => have := HX.out; simp [intOf]; omega
          · have hqe : q = x.ks.length := by omega
            have HF : Hid (lispF L (f + 1) n = A ++ [41]) := by unfold Hid; rw [HE.out, HA.out, hqe]; simp
            have hl3 : ¬ 9223372036854775807 < A.length + 1 := by omega
            have hlt' : ¬ ((q : Int) < x.ks.length) := by omega
            clear hAl HAL
            go_wp2
            go_ret
            exact ⟨by rw [HF.out, ← ba_app]; rfl, gL.trans fr⟩
end Go.Proofs.YtnebhkglpggnlaaGreatDoor
namespace Go.Proofs.YtnebhkglpggnlaaGreatDoor
open Go.RowKit
set_option linter.unusedVariables false
set_option linter.unusedSimpArgs false

/-- A node without where its kids lie. -/
def bare5 (x : T5.Nd) : T5.Nd := ⟨x.kind, x.text, none, 0, x.ks, x.pl⟩
theorem kd_bare (L : List T5.Nd) (k : Int) : T5.kd (L.map bare5) k = T5.kd L k := by
  unfold T5.kd
  rw [List.getElem?_map]
  cases L[k.toNat]? <;> rfl
theorem nodeE_bare (L : List T5.Nd) (n : Nat) (x : T5.Nd) (T : List Bool) : T5.nodeE (L.map bare5) n (bare5 x) T = T5.nodeE L n x T := by
  have e : (bare5 x).ks.map (T5.kd (L.map bare5)) = x.ks.map (T5.kd L) := List.map_congr_left (fun k _ => kd_bare L k)
  unfold T5.nodeE
  rw [e]
  rfl
theorem nodesL_bare (L : List T5.Nd) : ∀ n, T5.nodesL (L.map bare5) n = T5.nodesL L n
  | 0 => by simp [T5.nodesL]
  | n + 1 => by
    simp only [T5.nodesL, nodesL_bare L n, List.getElem?_map]
    cases T5.nodesL L n with
    | error e => rfl
    | ok T =>
      cases hx : L[n]? with
      | none => rfl
      | some x => simp only [Option.map_some, nodeE_bare]
theorem depths_bare (L : List T5.Nd) : ∀ n, T5.depths (L.map bare5) n = T5.depths L n
  | 0 => rfl
  | n + 1 => by
    simp only [T5.depths, depths_bare L n, List.getElem?_map]
    cases L[n]? <;> rfl
theorem checkL_bare (L : List T5.Nd) : T5.checkL (L.map bare5) = T5.checkL L := by
  unfold T5.checkL T5.deepL
  simp only [List.length_map, nodesL_bare, depths_bare, kd_bare]
theorem lispF_bare (L : List T5.Nd) : ∀ (f : Nat) (k : Int), lispF (L.map bare5) f k = lispF L f k
  | 0, _ => rfl
  | f + 1, k => by
    simp only [lispF, List.getElem?_map]
    cases L[k.toNat]? with
    | none => rfl
    | some x => simp only [Option.map_some, bare5, headB, lispF_bare L f]
/-- What is answered. -/
def lispO (L : List T5.Nd) : List UInt8 × Nat := if (T5.checkL L).2 = 0 then (lispF L L.length ((L.length - 1 : Nat) : Int), 0) else ([], (T5.checkL L).2)
theorem lispO_bare (L : List T5.Nd) : lispO (L.map bare5) = lispO L := by
  unfold lispO
  simp only [checkL_bare, lispF_bare, List.length_map]
theorem lispO_same {L M : List MN} {ms : List PN} (h1 : L.map MN.x = ms) (h2 : M.map MN.x = ms) : lispO (L.map nd5) = lispO (M.map nd5) := by
  rw [← lispO_bare (L.map nd5), ← lispO_bare (M.map nd5)]
  have e : ∀ K : List MN, (K.map nd5).map bare5 = (K.map MN.x).map nx5 := fun K => by simp [nd5, nx5, bare5, Function.comp_def]
  rw [e, e, h1, h2]

theorem pot_one (T : List Bool) : ∀ n, pot (fun _ => 1) T n ≤ n
  | 0 => Nat.le_refl _
  | n + 1 => by
    have := pot_one T n
    simp only [pot]
    split <;> omega
theorem sum_one : ∀ ks : List Int, (ks.map (fun _ => 1)).sum = ks.length
  | [] => rfl
  | k :: r => by simp only [List.map_cons, List.sum_cons, List.length_cons, sum_one r]; omega
theorem nodes_at_ok {L : List T5.Nd} {T : List Bool} (h : T5.nodesL L L.length = .ok T) {i : Nat} {x : T5.Nd} (hx : L[i]? = some x) : ∃ U V, T5.nodesL L i = .ok U ∧ T5.nodeE L i x U = .ok V := by
  have hi := (List.getElem?_eq_some_iff.1 hx).1
  obtain ⟨W, hW⟩ := nodes_pre h (n := i + 1) (by omega)
  unfold T5.nodesL at hW
  split at hW
  · cases hW
  · rename_i U hU
    rw [hx] at hW
    simp only at hW
    split at hW
    · cases hW
    · rename_i V hV
      exact ⟨U, V, hU, hV⟩
theorem node_parts {L : List T5.Nd} {n : Nat} {x : T5.Nd} {U V : List Bool} (h : T5.nodeE L n x U = .ok V) : (∃ t ls, T5.wantL x.kind = some (t, ls) ∧ T5.textL t x.text = true ∧ T5.fitL ls (x.ks.map (T5.kd L)) = true) ∧ 0 ≤ x.pl ∧ T5.takeL n x.ks U = some V := by
  unfold T5.nodeE at h
  split at h
  · cases h
  · rename_i t ls hw
    split at h
    · cases h
    · rename_i hp
      split at h
      · cases h
      · rename_i T' ht
        split at h
        · cases h
        · rename_i h1
          split at h
          · cases h
          · rename_i h2
            cases h
            exact ⟨⟨t, ls, hw, by simpa using h1, by simpa using h2⟩, by omega, ht⟩
theorem kind_in {k : Int} {t : Nat} {ls : List UInt8} (h : T5.wantL k = some (t, ls)) : 1 ≤ k ∧ k ≤ 30 := by
  rcases Int.lt_or_le k 1 with h1 | h1
  · rw [T5.lookup_want k (.inl h1)] at h; cases h
  · rcases Int.lt_or_le 30 k with h2 | h2
    · rw [T5.lookup_want k (.inr h2)] at h; cases h
    · exact ⟨h1, h2⟩
theorem kids_few {L : List T5.Nd} {T : List Bool} (h : T5.nodesL L L.length = .ok T) {i : Nat} {x : T5.Nd} (hx : L[i]? = some x) : x.ks.length ≤ L.length := by
  obtain ⟨U, V, hU, hV⟩ := nodes_at_ok h hx
  obtain ⟨_, _, ht⟩ := node_parts hV
  have hi := (List.getElem?_eq_some_iff.1 hx).1
  have h1 := take_pot (len := fun _ => 1) _ _ _ ht (by rw [T5.nodes_length _ _ hU]; omega)
  have h2 := pot_one U i
  rw [sum_one] at h1
  omega
theorem sumTo_le {cost : Nat → Nat} {K : Nat} : ∀ n, (∀ i, i < n → cost i ≤ K) → sumTo cost n ≤ n * K
  | 0, _ => by simp [sumTo]
  | n + 1, h => by
    have h1 := sumTo_le n (fun i hi => h i (by omega))
    have h2 := h n (by omega)
    simp only [sumTo]
    rw [Nat.succ_mul]
    omega
theorem cost_le {L : List T5.Nd} {T : List Bool} (h : T5.nodesL L L.length = .ok T) (hl : L.length ≤ 50000) (ht : ∀ x ∈ L, x.text.size ≤ 200020) (hp : ∀ x ∈ L, x.pl ≤ 9223372036854775807) : sumTo (costB L) L.length ≤ 1000000000000 := by
  have h1 : ∀ i, i < L.length → costB L i ≤ 300000 := by
    intro i hi
    have hx : L[i]? = some L[i] := List.getElem?_eq_getElem hi
    generalize L[i] = x at hx
    unfold costB
    rw [hx]
    have hm := List.mem_of_getElem? hx
    obtain ⟨U, V, hU, hV⟩ := nodes_at_ok h hx
    obtain ⟨⟨t, ls, hw, _⟩, hp0, _⟩ := node_parts hV
    have hk := kind_in hw
    have e1 := itoa_len x.kind (by omega) (by omega)
    have e2 := itoa_len x.pl (by omega) (hp x hm)
    have e3 := kids_few h hx
    have e4 := ht x hm
    rw [Lib.size_eq] at e4
    simp only
    unfold headB
    simp only [List.length_append, List.length_cons]
    split <;> split <;> simp only [List.length_cons, List.length_nil] <;> omega
  have h2 := sumTo_le L.length h1
  have h3 : L.length * 300000 ≤ 50000 * 300000 := Nat.mul_le_mul_right _ hl
  omega

set_option maxRecDepth 100000 in
set_option maxHeartbeats 1000000 in
theorem rLisp_any (B : Nat) (L : List T5.Nd) (w : World) (a : Option Addr) (len cap : Nat) (hlen : L.length = len) (hL : T5.NAt B w a L) (hm : len ≤ 2600000000000) (hB : B ≤ w.heap.size) (TT : Tabs w) (ht : ∀ x ∈ L, x.text.size ≤ 200020) (hp : ∀ x ∈ L, x.pl ≤ 9223372036854775807) :
    Calls Tryz.prog 11 #[.slice a len cap] w fun e w' => e = .returned (.tuple #[.string ⟨(lispO L).1.toArray⟩, .int .i64 ((lispO L).2 : Nat)]) ∧ Fr [] w w' := by
  have CC := T5.rcheck_any B L w a len cap hlen hL hm hB
  unfold T5.cOut at CC
  rcases hc : T5.checkL L with ⟨p, c⟩
  rw [hc] at CC
  by_cases h0 : c = 0
  · subst h0
    obtain ⟨T, hT, hn0, hl5, _, _⟩ := T5.check_zero hc
    have hM := cost_le hT hl5 ht hp
    have HO : Hid (lispO L = (lispF L L.length ((L.length - 1 : Nat) : Int), 0)) := by unfold Hid lispO; rw [hc]; rfl
    have hrg : ∀ x ∈ L, (-9223372036854775808 ≤ x.kind ∧ x.kind ≤ 9223372036854775807) ∧ (-9223372036854775808 ≤ x.pl ∧ x.pl ≤ 9223372036854775807) := by
      intro x hx
      obtain ⟨i, hi⟩ := List.mem_iff_getElem?.1 hx
      obtain ⟨U, V, hU, hV⟩ := nodes_at_ok hT hi
      obtain ⟨⟨t, ls, hw, _⟩, hp0, _⟩ := node_parts hV
      have hk := kind_in hw
      have := hp x hx
      exact ⟨⟨by omega, by omega⟩, by omega, by omega⟩
    have CL := fun w1 (f1 : Fr [] w w1) => rlisp_any (B := B) (a := a) (cap := cap) hlen hT hM hm hrg L.length (L.length - 1) w1 (by omega) (by omega) (hL.fr f1 (by simp)) (Nat.le_trans hB f1.size) (TT.fr f1 (by simp))
    have ei : ((L.length - 1 : Nat) : Int) = (len : Int) - 1 := by omega
    have hl0 : (0 : Int) < len := by omega
    have hlm : (len : Int) ≤ 2600000000000 := by omega
    obtain ⟨S, HS⟩ : ∃ S, Hid (lispF L L.length ((L.length - 1 : Nat) : Int) = S) := ⟨_, rfl⟩
    simp only [HS.out] at CL
    simp only [ei] at CL
    clear hc hT hM hrg ht hp hn0 hl5
    go_enter Tryz.func11, Tryz.ntmps11
    go_wp2_with fail
    refine CC.mono ?_
    rintro e w1 ⟨rfl, f1⟩
    have C1 := CL w1 f1
    clear CC CL
    go_wp2_with fail
    refine C1.mono ?_
    rintro e w2 ⟨rfl, f2⟩
    go_wp2
    refine bodyPost_ret (results_tmp2 rfl _ _ _) rfl ⟨?_, f1.trans f2⟩
    rw [HO.out, HS.out]
    rfl
  · have HO : Hid (lispO L = ([], c)) := by unfold Hid lispO; rw [hc]; simp only; rw [if_neg h0]
    have hc0 : ¬ ((c : Nat) : Int) = 0 := by omega
    clear hc h0
    go_enter Tryz.func11, Tryz.ntmps11
    go_wp2_with fail
    refine CC.mono ?_
    rintro e w1 ⟨rfl, f1⟩
    go_wp2
    refine bodyPost_ret (results_tmp2 rfl _ _ _) rfl ⟨?_, f1⟩
    rw [HO.out]
    rfl
end Go.Proofs.YtnebhkglpggnlaaGreatDoor
namespace Go.Proofs.YtnebhkglpggnlaaGreatDoor
open Go.RowKit
set_option linter.unusedVariables false
set_option linter.unusedSimpArgs false

/-- How tightly an operator binds. -/
def opT (s : List UInt8) : Nat := if s = [42] ∨ s = [47] ∨ s = [37] then 5 else if s = [43] ∨ s = [45] then 4 else if s = [60, 60] ∨ s = [62, 62] then 3 else if s = [38] then 2 else if s = [124] ∨ s = [94] then 1 else 0
theorem opT_le (s : List UInt8) : opT s ≤ 5 := by unfold opT; repeat (first | omega | split)
def tx (x : T5.Nd) : List UInt8 := x.text.data.toList
def tightN (x : T5.Nd) : Nat := if x.kind = 19 then opT (tx x) else if x.kind = 18 then 6 else 7
theorem tightN_le (x : T5.Nd) : tightN x ≤ 7 := by have := opT_le (tx x); unfold tightN; repeat (first | omega | split)
def heldB (t least : Nat) (s : List UInt8) : List UInt8 := if t < least then 40 :: (s ++ [41]) else s
theorem heldB_len (t least : Nat) (s : List UInt8) : (heldB t least s).length ≤ s.length + 2 := by unfold heldB; split <;> simp
/-- With commas between. -/
def joinC : List (List UInt8) → List UInt8
  | [] => []
  | a :: r => a ++ (r.map (fun s => 44 :: 32 :: s)).flatten
theorem joinC_snoc (l : List (List UInt8)) (b : List UInt8) : joinC (l ++ [b]) = joinC l ++ ((if l = [] then [] else [44, 32]) ++ b) := by
  cases l with
  | nil => simp [joinC]
  | cons a r => simp [joinC]
theorem mem_le_sum : ∀ {l : List Nat} {n : Nat}, n ∈ l → n ≤ l.sum
  | a :: r, n, h => by
    simp only [List.sum_cons]
    rcases List.mem_cons.1 h with rfl | h
    · omega
    · have := mem_le_sum h; omega
theorem sum_le {f g : Int → Nat} : ∀ {ks : List Int}, (∀ k ∈ ks, f k ≤ g k) → (ks.map f).sum ≤ (ks.map g).sum
  | [], _ => by simp
  | k :: r, h => by
    have h1 := h k (by simp)
    have h2 := sum_le (ks := r) (fun j hj => h j (by simp [hj]))
    simp only [List.map_cons, List.sum_cons]
    omega
theorem sum_const (c : Nat) (f : Int → Nat) : ∀ ks : List Int, (ks.map (fun k => f k + c)).sum = (ks.map f).sum + ks.length * c
  | [] => by simp
  | k :: r => by simp only [List.map_cons, List.sum_cons, sum_const c f r, List.length_cons, Nat.succ_mul]; omega
theorem flat_lenC (f : Int → List UInt8) : ∀ ks : List Int, (((ks.map f).map (fun s => (44 : UInt8) :: 32 :: s)).flatten).length = (ks.map (fun k => (f k).length)).sum + ks.length * 2
  | [] => rfl
  | k :: r => by
    simp only [List.map_cons, List.flatten_cons, List.length_append, List.length_cons, List.sum_cons, flat_lenC f r, Nat.succ_mul]
    omega
theorem joinC_len (f : Int → List UInt8) (ks : List Int) : (joinC (ks.map f)).length ≤ (ks.map (fun k => (f k).length)).sum + ks.length * 2 := by
  cases ks with
  | nil => simp [joinC]
  | cons k r =>
    simp only [List.map_cons, joinC, List.length_append, flat_lenC, List.sum_cons, List.length_cons, Nat.succ_mul]
    omega
def wordB (k : Int) : List UInt8 :=
  if k = 9 then [114, 101, 116, 117, 114, 110] else if k = 10 then [111, 117, 116] else if k = 11 then [115, 116, 111, 112] else if k = 16 then [110, 117, 108, 108] else if k = 30 then [114, 111, 111, 116]
  else if k = 24 then [97, 114, 114] else if k = 25 then [108, 101, 110] else if k = 26 then [105, 110] else if k = 27 then [105, 109, 103] else if k = 28 then [115, 105, 122, 101] else if k = 29 then [112, 114, 111, 109, 111, 116, 101] else []
theorem wordB_len (k : Int) : (wordB k).length ≤ 7 := by unfold wordB; repeat (first | decide | split)
/-- Of one of a list, or nothing. -/
def atK (ks : List Int) (i : Nat) (g : Int → List UInt8) : List UInt8 := match ks[i]? with | some j => g j | none => []
theorem atK_congr {ks : List Int} {i : Nat} {g g' : Int → List UInt8} (h : ∀ k ∈ ks, g k = g' k) : atK ks i g = atK ks i g' := by
  unfold atK
  cases hk : ks[i]? with
  | none => rfl
  | some j => exact h j (List.mem_of_getElem? hk)
theorem atK_len {ks : List Int} {g : Int → List UInt8} (n : Int → Nat) (h : ∀ k ∈ ks, (g k).length ≤ n k) (i : Nat) : (atK ks i g).length ≤ (ks.map n).sum := by
  unfold atK
  cases hk : ks[i]? with
  | none => simp
  | some j =>
    have h1 := h j (List.mem_of_getElem? hk)
    have h2 : n j ∈ ks.map n := List.mem_map.2 ⟨j, List.mem_of_getElem? hk, rfl⟩
    have h3 := mem_le_sum h2
    simp only
    omega
/-- An expression's text, out of its kids'. -/
def exprX (x : T5.Nd) (e : Int → List UInt8) (h : Int → Nat → List UInt8) : List UInt8 :=
  if x.kind = 15 ∨ x.kind = 17 then tx x
  else if x.kind = 16 ∨ x.kind = 30 then wordB x.kind
  else if x.kind = 18 then tx x ++ atK x.ks 0 (fun j => h j 6)
  else if x.kind = 19 then atK x.ks 0 (fun j => h j (max (opT (tx x)) 1)) ++ (32 :: (tx x ++ (32 :: atK x.ks 1 (fun j => h j (opT (tx x) + 1)))))
  else if x.kind = 20 then atK x.ks 0 (fun j => h j 7) ++ (46 :: tx x)
  else if x.kind = 21 then atK x.ks 0 (fun j => h j 7) ++ (91 :: (atK x.ks 1 e ++ [93]))
  else if x.kind = 23 then [110, 101, 119, 32] ++ tx x
  else if x.kind = 22 then tx x ++ (40 :: (joinC (x.ks.map e) ++ [41]))
  else wordB x.kind ++ (40 :: (joinC (x.ks.map e) ++ [41]))
theorem exprX_congr {x : T5.Nd} {e e' : Int → List UInt8} {h h' : Int → Nat → List UInt8} (he : ∀ k ∈ x.ks, e k = e' k) (hh : ∀ k ∈ x.ks, ∀ t, h k t = h' k t) : exprX x e h = exprX x e' h' := by
  have a0 : ∀ i t, atK x.ks i (fun j => h j t) = atK x.ks i (fun j => h' j t) := fun i t => atK_congr (fun k hk => hh k hk t)
  have a1 : ∀ i, atK x.ks i e = atK x.ks i e' := fun i => atK_congr he
  have a2 : x.ks.map e = x.ks.map e' := List.map_congr_left he
  unfold exprX
  simp only [a0, a1, a2]
def tg (L : List T5.Nd) (k : Int) : Nat := match L[k.toNat]? with | some x => tightN x | none => 7
def exprF (L : List T5.Nd) : Nat → Int → List UInt8
  | 0, _ => []
  | f + 1, k => match L[k.toNat]? with
    | none => []
    | some x => exprX x (exprF L f) (fun j t => heldB (tg L j) t (exprF L f j))
theorem exprF_same {L : List T5.Nd} (hK : Kids L) : ∀ (f g : Nat) (k : Int), k.toNat < f → k.toNat < g → exprF L f k = exprF L g k := by
  intro f
  induction f with
  | zero => intro g k h; omega
  | succ f ih =>
    intro g k h hg
    obtain _ | g := g
    · omega
    simp only [exprF]
    cases hx : L[k.toNat]? with
    | none => rfl
    | some x =>
      have e : ∀ j ∈ x.ks, exprF L f j = exprF L g j := fun j hj => by
        obtain ⟨k0, k1⟩ := hK _ x hx j hj
        exact ih g j (by omega) (by omega)
      exact exprX_congr e (fun j hj t => by rw [e j hj])
def eN (L : List T5.Nd) (k : Int) : List UInt8 := exprF L (k.toNat + 1) k
def hN (L : List T5.Nd) (k : Int) (t : Nat) : List UInt8 := heldB (tg L k) t (eN L k)
theorem eN_eq {L : List T5.Nd} (hK : Kids L) {k : Int} {x : T5.Nd} (hx : L[k.toNat]? = some x) : eN L k = exprX x (eN L) (hN L) := by
  unfold eN
  simp only [exprF, hx]
  have e : ∀ j ∈ x.ks, exprF L k.toNat j = eN L j := fun j hj => by
    obtain ⟨k0, k1⟩ := hK _ x hx j hj
    exact exprF_same hK _ _ j (by omega) (by omega)
  exact exprX_congr e (fun j hj t => by rw [e j hj]; rfl)

def ind (ab : Nat) : List UInt8 := List.replicate (4 * ab) 32
theorem ind_len (ab : Nat) : (ind ab).length = 4 * ab := by simp [ind]
/-- A statement's lines, out of its kids'. -/
def stmtX (x : T5.Nd) (ab : Nat) (e : Int → List UInt8) (b : Int → List UInt8) (o : Int → List UInt8) : List UInt8 :=
  if x.kind = 5 then ind ab ++ ([108, 101, 116, 32] ++ (tx x ++ ([32, 61, 32] ++ (atK x.ks 0 e ++ [59, 10]))))
  else if x.kind = 6 then ind ab ++ (atK x.ks 0 e ++ ([32, 61, 32] ++ (atK x.ks 1 e ++ [59, 10])))
  else if x.kind = 7 then ind ab ++ ([105, 102, 32] ++ (atK x.ks 0 e ++ ([32, 123, 10] ++ (atK x.ks 1 b ++ (ind ab ++ (125 :: (atK x.ks 2 o ++ [10])))))))
  else if x.kind = 8 then ind ab ++ ([119, 104, 105, 108, 101, 32] ++ (atK x.ks 0 e ++ ([32, 123, 10] ++ (atK x.ks 1 b ++ (ind ab ++ [125, 10])))))
  else if x.kind = 12 then ind ab ++ (atK x.ks 0 e ++ [59, 10])
  else if x.kind = 13 then ind ab ++ ([109, 101, 114, 103, 101, 40] ++ (joinC (x.ks.map e) ++ [41, 59, 10]))
  else ind ab ++ (wordB x.kind ++ (32 :: (atK x.ks 0 e ++ [59, 10])))
theorem stmtX_congr {x : T5.Nd} {ab : Nat} {e b b' o o' : Int → List UInt8} (hb : ∀ k ∈ x.ks, b k = b' k) (ho : ∀ k ∈ x.ks, o k = o' k) : stmtX x ab e b o = stmtX x ab e b' o' := by
  have a1 : ∀ i, atK x.ks i b = atK x.ks i b' := fun i => atK_congr hb
  have a2 : ∀ i, atK x.ks i o = atK x.ks i o' := fun i => atK_congr ho
  unfold stmtX
  simp only [a1, a2]
/-- What stands behind an if's first block. -/
def elseB (L : List T5.Nd) (ab : Nat) (b : Int → List UInt8) (k : Int) : List UInt8 := if T5.kd L k = 4 then [32, 101, 108, 115, 101, 32, 123, 10] ++ (b k ++ (ind ab ++ [125])) else []
def stmtF (L : List T5.Nd) : Nat → Nat → Int → List UInt8
  | 0, _, _ => []
  | f + 1, ab, k => match L[k.toNat]? with
    | none => []
    | some x => stmtX x ab (eN L) (fun j => match L[j.toNat]? with | none => [] | some y => (y.ks.map (stmtF L f (ab + 1))).flatten) (elseB L ab (fun j => match L[j.toNat]? with | none => [] | some y => (y.ks.map (stmtF L f (ab + 1))).flatten))
theorem stmtF_same {L : List T5.Nd} (hK : Kids L) : ∀ (f g ab : Nat) (k : Int), k.toNat < f → k.toNat < g → stmtF L f ab k = stmtF L g ab k := by
  intro f
  induction f with
  | zero => intro g ab k h; omega
  | succ f ih =>
    intro g ab k h hg
    obtain _ | g := g
    · omega
    simp only [stmtF]
    cases hx : L[k.toNat]? with
    | none => rfl
    | some x =>
      have e : ∀ j ∈ x.ks, (match L[j.toNat]? with | none => [] | some y => (y.ks.map (stmtF L f (ab + 1))).flatten) = (match L[j.toNat]? with | none => [] | some y => (y.ks.map (stmtF L g (ab + 1))).flatten : List UInt8) := fun j hj => by
        obtain ⟨k0, k1⟩ := hK _ x hx j hj
        cases hy : L[j.toNat]? with
        | none => rfl
        | some y =>
          have e2 : y.ks.map (stmtF L f (ab + 1)) = y.ks.map (stmtF L g (ab + 1)) := List.map_congr_left (fun i hi => by
            obtain ⟨i0, i1⟩ := hK _ y hy i hi
            exact ih g (ab + 1) i (by omega) (by omega))
          simp only [e2]
      exact stmtX_congr e (fun j hj => by unfold elseB; simp only [e j hj])
def sN (L : List T5.Nd) (ab : Nat) (k : Int) : List UInt8 := stmtF L (k.toNat + 1) ab k
def bN (L : List T5.Nd) (ab : Nat) (k : Int) : List UInt8 := match L[k.toNat]? with | none => [] | some y => (y.ks.map (sN L ab)).flatten
theorem sN_eq {L : List T5.Nd} (hK : Kids L) {ab : Nat} {k : Int} {x : T5.Nd} (hx : L[k.toNat]? = some x) : sN L ab k = stmtX x ab (eN L) (bN L (ab + 1)) (elseB L ab (bN L (ab + 1))) := by
  unfold sN
  simp only [stmtF, hx]
  have e : ∀ j ∈ x.ks, (match L[j.toNat]? with | none => [] | some y => (y.ks.map (stmtF L k.toNat (ab + 1))).flatten) = bN L (ab + 1) j := fun j hj => by
    obtain ⟨k0, k1⟩ := hK _ x hx j hj
    unfold bN
    cases hy : L[j.toNat]? with
    | none => rfl
    | some y =>
      have e2 : y.ks.map (stmtF L k.toNat (ab + 1)) = y.ks.map (sN L (ab + 1)) := List.map_congr_left (fun i hi => by
        obtain ⟨i0, i1⟩ := hK _ y hy i hi
        exact stmtF_same hK _ _ (ab + 1) i (by omega) (by omega))
      simp only [e2]
  exact stmtX_congr e (fun j hj => by unfold elseB; simp only [e j hj])
/-- A declaration's text, and a program's. -/
def declX (L : List T5.Nd) (x : T5.Nd) : List UInt8 :=
  if x.kind = 2 then [114, 101, 99, 32] ++ (tx x ++ ([32, 123] ++ (joinC (x.ks.map (eN L)) ++ [125, 10])))
  else [102, 110, 32] ++ (tx x ++ (40 :: (joinC ((x.ks.take (x.ks.length - 1)).map (eN L)) ++ ([41, 32, 123, 10] ++ (atK x.ks (x.ks.length - 1) (bN L 1) ++ [125, 10])))))
def dN (L : List T5.Nd) (k : Int) : List UInt8 := match L[k.toNat]? with | none => [] | some x => declX L x
def pN (L : List T5.Nd) (k : Int) : List UInt8 := match L[k.toNat]? with | none => [] | some x => (x.ks.map (dN L)).flatten

/-- How long what is made of a node can be. -/
def szF (L : List T5.Nd) (C : T5.Nd → Nat) : Nat → Int → Nat
  | 0, _ => 0
  | f + 1, k => match L[k.toNat]? with
    | none => 0
    | some x => C x + (x.ks.map (szF L C f)).sum
theorem szF_same {L : List T5.Nd} {C : T5.Nd → Nat} (hK : Kids L) : ∀ (f g : Nat) (k : Int), k.toNat < f → k.toNat < g → szF L C f k = szF L C g k := by
  intro f
  induction f with
  | zero => intro g k h; omega
  | succ f ih =>
    intro g k h hg
    obtain _ | g := g
    · omega
    simp only [szF]
    cases hx : L[k.toNat]? with
    | none => rfl
    | some x =>
      have e : x.ks.map (szF L C f) = x.ks.map (szF L C g) := List.map_congr_left (fun j hj => by
        obtain ⟨k0, k1⟩ := hK _ x hx j hj
        exact ih g j (by omega) (by omega))
      simp only [e]
def szN (L : List T5.Nd) (C : T5.Nd → Nat) (k : Int) : Nat := szF L C (k.toNat + 1) k
theorem szN_eq {L : List T5.Nd} {C : T5.Nd → Nat} (hK : Kids L) {k : Int} {x : T5.Nd} (hx : L[k.toNat]? = some x) : szN L C k = C x + (x.ks.map (szN L C)).sum := by
  unfold szN
  simp only [szF, hx]
  have e : x.ks.map (szF L C k.toNat) = x.ks.map (szN L C) := List.map_congr_left (fun j hj => by
    obtain ⟨k0, k1⟩ := hK _ x hx j hj
    exact szF_same hK _ _ j (by omega) (by omega))
  simp only [e]
  rfl
/-- What a node costs by itself, with at most A blocks about it. -/
def cst (A : Nat) (x : T5.Nd) : Nat := (tx x).length + 100 + 12 * A + x.ks.length * 4
theorem held_len {L : List T5.Nd} (k : Int) (t : Nat) : (hN L k t).length ≤ (eN L k).length + 2 := heldB_len _ _ _
theorem eN_len {L : List T5.Nd} (hK : Kids L) (A : Nat) : ∀ (n : Nat) (k : Int), k.toNat < n → (eN L k).length ≤ szN L (cst A) k := by
  intro n
  induction n with
  | zero => intro k h; omega
  | succ n ih =>
    intro k hn
    cases hx : L[k.toNat]? with
    | none => simp [eN, exprF, hx]
    | some x =>
      rw [eN_eq hK hx, szN_eq hK hx]
      have hk : ∀ j ∈ x.ks, (eN L j).length ≤ szN L (cst A) j := fun j hj => by
        obtain ⟨k0, k1⟩ := hK _ x hx j hj
        exact ih j (by omega)
      have hj := joinC_len (eN L) x.ks
      have hs : (x.ks.map (fun k => (eN L k).length)).sum ≤ (x.ks.map (szN L (cst A))).sum := sum_le hk
      have ha := fun i => atK_len (g := eN L) (szN L (cst A)) hk i
      have hw := wordB_len x.kind
      have hc : cst A x = (tx x).length + 100 + 12 * A + x.ks.length * 4 := rfl
      have hh1 : ∀ t j, j ∈ x.ks → (hN L j t).length ≤ szN L (cst A) j + 2 := fun t j hj => by have := held_len (L := L) j t; have := hk j hj; omega
      have h1 : ∀ i t, (atK x.ks i (fun j => hN L j t)).length ≤ (x.ks.map (szN L (cst A))).sum + 2 := by
        intro i t
        unfold atK
        cases hi : x.ks[i]? with
        | none => simp
        | some j =>
          have e1 := hh1 t j (List.mem_of_getElem? hi)
          have e2 := mem_le_sum (List.mem_map.2 ⟨j, List.mem_of_getElem? hi, rfl⟩ : szN L (cst A) j ∈ x.ks.map (szN L (cst A)))
          simp only
          omega
      have h2 : ∀ t u, (atK x.ks 0 (fun j => hN L j t)).length + (atK x.ks 1 (fun j => hN L j u)).length ≤ (x.ks.map (szN L (cst A))).sum + 4 := by
        intro t u
        match hq : x.ks with
        | [] => simp [atK]
        | [a] =>
          have e1 := hh1 t a (by simp [hq])
          simp only [atK, List.getElem?_cons_zero, List.getElem?_cons_succ, List.getElem?_nil, List.map_cons, List.map_nil, List.sum_cons, List.sum_nil, List.length_nil]
          omega
        | a :: b :: r =>
          have e1 := hh1 t a (by simp [hq])
          have e2 := hh1 u b (by simp [hq])
          simp only [atK, List.getElem?_cons_zero, List.getElem?_cons_succ, List.map_cons, List.sum_cons]
          omega
      have h3 : ∀ t, (atK x.ks 0 (fun j => hN L j t)).length + (atK x.ks 1 (eN L)).length ≤ (x.ks.map (szN L (cst A))).sum + 4 := by
        intro t
        match hq : x.ks with
        | [] => simp [atK]
        | [a] =>
          have e1 := hh1 t a (by simp [hq])
          simp only [atK, List.getElem?_cons_zero, List.getElem?_cons_succ, List.getElem?_nil, List.map_cons, List.map_nil, List.sum_cons, List.sum_nil, List.length_nil]
          omega
        | a :: b :: r =>
          have e1 := hh1 t a (by simp [hq])
          have e2 := hk b (by simp [hq])
          simp only [atK, List.getElem?_cons_zero, List.getElem?_cons_succ, List.map_cons, List.sum_cons]
          omega
      have h5 := h1 0 6
      have h6 := h1 0 7
      have h7 := h2 (max (opT (tx x)) 1) (opT (tx x) + 1)
      have h8 := h3 7
      unfold exprX
      repeat (first | omega | (simp only [List.length_append, List.length_cons, List.length_nil]; omega) | split)
end Go.Proofs.YtnebhkglpggnlaaGreatDoor
namespace Go.Proofs.YtnebhkglpggnlaaGreatDoor
open Go.RowKit
set_option linter.unusedVariables false
set_option linter.unusedSimpArgs false

theorem atK_len3 {ks : List Int} {g0 g1 g2 : Int → List UInt8} (n : Int → Nat) (c : Nat) (h0 : ∀ k ∈ ks, (g0 k).length ≤ n k) (h1 : ∀ k ∈ ks, (g1 k).length ≤ n k) (h2 : ∀ k ∈ ks, (g2 k).length ≤ n k + c) : (atK ks 0 g0).length + (atK ks 1 g1).length + (atK ks 2 g2).length ≤ (ks.map n).sum + c := by
  match ks, h0, h1, h2 with
  | [], _, _, _ => simp [atK]
  | [a], h0, h1, h2 =>
    have e1 := h0 a (by simp)
    simp only [atK, List.getElem?_cons_zero, List.getElem?_cons_succ, List.getElem?_nil, List.map_cons, List.map_nil, List.sum_cons, List.sum_nil, List.length_nil]
    omega
  | [a, b], h0, h1, h2 =>
    have e1 := h0 a (by simp)
    have e2 := h1 b (by simp)
    simp only [atK, List.getElem?_cons_zero, List.getElem?_cons_succ, List.getElem?_nil, List.map_cons, List.map_nil, List.sum_cons, List.sum_nil, List.length_nil]
    omega
  | a :: b :: d :: r, h0, h1, h2 =>
    have e1 := h0 a (by simp)
    have e2 := h1 b (by simp)
    have e3 := h2 d (by simp)
    simp only [atK, List.getElem?_cons_zero, List.getElem?_cons_succ, List.map_cons, List.sum_cons]
    omega
theorem flat_lenS (f : Int → List UInt8) : ∀ ks : List Int, ((ks.map f).flatten).length = (ks.map (fun k => (f k).length)).sum
  | [] => rfl
  | k :: r => by simp only [List.map_cons, List.flatten_cons, List.length_append, List.sum_cons, flat_lenS f r]
theorem sN_len {L : List T5.Nd} (hK : Kids L) (A : Nat) : ∀ (n ab : Nat) (k : Int), k.toNat < n → ab + k.toNat ≤ A → (sN L ab k).length ≤ szN L (cst A) k := by
  intro n
  induction n with
  | zero => intro ab k h; omega
  | succ n ih =>
    intro ab k hn hA
    cases hx : L[k.toNat]? with
    | none => simp [sN, stmtF, hx]
    | some x =>
      rw [sN_eq hK hx, szN_eq hK hx]
      have hk : ∀ j ∈ x.ks, (eN L j).length ≤ szN L (cst A) j := fun j hj => eN_len hK A (j.toNat + 1) j (by omega)
      have hb : ∀ j ∈ x.ks, (bN L (ab + 1) j).length ≤ szN L (cst A) j := fun j hj => by
        obtain ⟨k0, k1⟩ := hK _ x hx j hj
        unfold bN
        cases hy : L[j.toNat]? with
        | none => simp
        | some y =>
          simp only
          rw [flat_lenS, szN_eq hK hy]
          have : (y.ks.map (fun i => (sN L (ab + 1) i).length)).sum ≤ (y.ks.map (szN L (cst A))).sum := sum_le (fun i hi => by
            obtain ⟨i0, i1⟩ := hK _ y hy i hi
            exact ih (ab + 1) i (by omega) (by omega))
          omega
      have ho : ∀ j ∈ x.ks, (elseB L ab (bN L (ab + 1)) j).length ≤ szN L (cst A) j + (4 * A + 9) := fun j hj => by
        have := hb j hj
        unfold elseB
        split
        · simp only [List.length_append, List.length_cons, List.length_nil, ind_len]; omega
        · simp
      have hj := joinC_len (eN L) x.ks
      have hs : (x.ks.map (fun k => (eN L k).length)).sum ≤ (x.ks.map (szN L (cst A))).sum := sum_le hk
      have hw := wordB_len x.kind
      have hc : cst A x = (tx x).length + 100 + 12 * A + x.ks.length * 4 := rfl
      have h1 := atK_len3 (szN L (cst A)) (4 * A + 9) hk hb ho
      have h2 := atK_len3 (szN L (cst A)) (4 * A + 9) hk hk ho
      unfold stmtX
      repeat (first | omega | (simp only [List.length_append, List.length_cons, List.length_nil, ind_len]; omega) | split)
theorem bN_len {L : List T5.Nd} (hK : Kids L) {A ab : Nat} {k : Int} (h : ab + k.toNat ≤ A) : (bN L ab k).length ≤ szN L (cst A) k := by
  unfold bN
  cases hy : L[k.toNat]? with
  | none => simp
  | some y =>
    simp only
    rw [flat_lenS, szN_eq hK hy]
    have : (y.ks.map (fun i => (sN L ab i).length)).sum ≤ (y.ks.map (szN L (cst A))).sum := sum_le (fun i hi => by
      obtain ⟨i0, i1⟩ := hK _ y hy i hi
      exact sN_len hK A (i.toNat + 1) ab i (by omega) (by omega))
    omega
theorem take_sum (n : Int → Nat) (ks : List Int) (i : Nat) : ((ks.take i).map n).sum ≤ (ks.map n).sum := by
  conv => rhs; rw [← List.take_append_drop i ks]
  simp only [List.map_append, List.sum_append]
  omega
theorem dN_len {L : List T5.Nd} (hK : Kids L) {A : Nat} {k : Int} (hA : k.toNat ≤ A) : (dN L k).length ≤ szN L (cst A) k := by
  unfold dN
  cases hx : L[k.toNat]? with
  | none => simp
  | some x =>
    simp only
    rw [szN_eq hK hx]
    have hk : ∀ j ∈ x.ks, (eN L j).length ≤ szN L (cst A) j := fun j hj => eN_len hK A (j.toNat + 1) j (by omega)
    have hs : (x.ks.map (fun k => (eN L k).length)).sum ≤ (x.ks.map (szN L (cst A))).sum := sum_le hk
    have hj := joinC_len (eN L) x.ks
    have hc : cst A x = (tx x).length + 100 + 12 * A + x.ks.length * 4 := rfl
    unfold declX
    split
    · simp only [List.length_append, List.length_cons, List.length_nil]; omega
    · have hj2 := joinC_len (eN L) (x.ks.take (x.ks.length - 1))
      have hl : ((x.ks.take (x.ks.length - 1)).length) ≤ x.ks.length := by simp
      have h4 : ((x.ks.take (x.ks.length - 1)).map (fun k => (eN L k).length)).sum + (atK x.ks (x.ks.length - 1) (bN L 1)).length ≤ (x.ks.map (szN L (cst A))).sum := by
        have h5 : ((x.ks.take (x.ks.length - 1)).map (fun k => (eN L k).length)).sum ≤ ((x.ks.take (x.ks.length - 1)).map (szN L (cst A))).sum := sum_le (fun j hj => hk j (List.mem_of_mem_take hj))
        unfold atK
        cases hl : x.ks[x.ks.length - 1]? with
        | none => simp only [List.length_nil]; have := take_sum (szN L (cst A)) x.ks (x.ks.length - 1); omega
        | some j =>
          obtain ⟨k0, k1⟩ := hK _ x hx j (List.mem_of_getElem? hl)
          have h6 := bN_len hK (A := A) (ab := 1) (k := j) (by omega)
          have h7 : x.ks = x.ks.take (x.ks.length - 1) ++ [j] := by
            have hp := (List.getElem?_eq_some_iff.1 hl).1
            have h8 : x.ks.take (x.ks.length - 1 + 1) = x.ks.take (x.ks.length - 1) ++ [j] := by rw [List.take_add_one, hl]; rfl
            rw [← h8, List.take_of_length_le (by omega)]
          have h9 : (x.ks.map (szN L (cst A))).sum = ((x.ks.take (x.ks.length - 1)).map (szN L (cst A))).sum + szN L (cst A) j := by
            conv => lhs; rw [h7]
            simp
          simp only
          omega
      have hl2 : (x.ks.take (x.ks.length - 1)).length * 2 ≤ x.ks.length * 2 := Nat.mul_le_mul_right _ hl
      simp only [List.length_append, List.length_cons, List.length_nil]
      omega
theorem pN_len {L : List T5.Nd} (hK : Kids L) {A : Nat} {k : Int} (hA : k.toNat ≤ A) : (pN L k).length ≤ szN L (cst A) k := by
  unfold pN
  cases hx : L[k.toNat]? with
  | none => simp
  | some x =>
    simp only
    rw [flat_lenS, szN_eq hK hx]
    have : (x.ks.map (fun i => (dN L i).length)).sum ≤ (x.ks.map (szN L (cst A))).sum := sum_le (fun i hi => by
      obtain ⟨i0, i1⟩ := hK _ x hx i hi
      exact dN_len hK (by omega))
    omega
/-- Together they are not too long. -/
theorem sz_le {L : List T5.Nd} {T : List Bool} (h : T5.nodesL L L.length = .ok T) (hl : L.length ≤ 50000) (ht : ∀ x ∈ L, x.text.size ≤ 200020) {n : Nat} (hn : n < L.length) : szN L (cst 50001) (n : Nat) ≤ 100000000000 := by
  have hK := kids_of h
  have h1 := len_bound (L := L) (len := fun i => szN L (cst 50001) (i : Nat)) (cost := fun i => match L[i]? with | some x => cst 50001 x | none => 0) (fun i x hx => by
    have hx' : L[((i : Nat) : Int).toNat]? = some x := by simpa using hx
    show szN L (cst 50001) ((i : Nat) : Int) ≤ _
    rw [szN_eq hK hx']
    simp only [hx]
    have : (x.ks.map (szN L (cst 50001))).sum ≤ (x.ks.map (fun k => szN L (cst 50001) ((k.toNat : Nat) : Int))).sum := sum_le (fun k hk => by
      obtain ⟨k0, k1⟩ := hK i x hx k hk
      rw [show ((k.toNat : Nat) : Int) = k by omega]
      exact Nat.le_refl _)
    omega) h hn
  have h2 := sumTo_mono (cost := fun i => match L[i]? with | some x => cst 50001 x | none => 0) (show n + 1 ≤ L.length by omega)
  have h3 := sumTo_le (cost := fun i => match L[i]? with | some x => cst 50001 x | none => 0) (K := 1100000) L.length (fun i hi => by
    have hx : L[i]? = some L[i] := List.getElem?_eq_getElem hi
    generalize L[i] = x at hx
    have e3 := kids_few h hx
    have e4 := ht x (List.mem_of_getElem? hx)
    rw [Lib.size_eq] at e4
    simp only [hx]
    unfold cst tx
    omega)
  have h4 : L.length * 1100000 ≤ 50000 * 1100000 := Nat.mul_le_mul_right _ hl
  omega

/-- A tree's nodes, as they are. -/
structure Shp (L : List T5.Nd) : Prop where
  kids : Kids L
  sh : ∀ (i : Nat) (x : T5.Nd), L[i]? = some x → T5.shapeL x.kind (x.ks.map (T5.kd L)) = true
  kd : ∀ (i : Nat) (x : T5.Nd), L[i]? = some x → 1 ≤ x.kind ∧ x.kind ≤ 30
  pl : ∀ (i : Nat) (x : T5.Nd), L[i]? = some x → 0 ≤ x.pl
theorem shp_of {L : List T5.Nd} {T : List Bool} (h : T5.nodesL L L.length = .ok T) : Shp L := by
  refine ⟨kids_of h, fun i x hx => ?_, fun i x hx => ?_, fun i x hx => ?_⟩
  · obtain ⟨U, V, hU, hV⟩ := nodes_at_ok h hx
    obtain ⟨⟨t, ls, hw, _, hf⟩, _, _⟩ := node_parts hV
    rw [← T5.shape_fit _ t ls _ hw]
    exact hf
  · obtain ⟨U, V, hU, hV⟩ := nodes_at_ok h hx
    obtain ⟨⟨t, ls, hw, _, hf⟩, _, _⟩ := node_parts hV
    exact kind_in hw
  · obtain ⟨U, V, hU, hV⟩ := nodes_at_ok h hx
    exact (node_parts hV).2.1
theorem len1 {l : List Int} (h : l.length = 1) : ∃ a, l = [a] := by
  match l, h with
  | [a], _ => exact ⟨a, rfl⟩
theorem len2 {l : List Int} (h : l.length = 2) : ∃ a b, l = [a, b] := by
  match l, h with
  | [a, b], _ => exact ⟨a, b, rfl⟩
theorem len3 {l : List Int} (h : l.length = 3) : ∃ a b c, l = [a, b, c] := by
  match l, h with
  | [a, b, c], _ => exact ⟨a, b, c, rfl⟩
section
variable {L : List T5.Nd} (S : Shp L) {i : Nat} {x : T5.Nd} (hx : L[i]? = some x)
include S hx
theorem Shp.one (hk : x.kind = 5 ∨ x.kind = 9 ∨ x.kind = 10 ∨ x.kind = 11 ∨ x.kind = 18 ∨ x.kind = 20 ∨ x.kind = 24 ∨ x.kind = 25 ∨ x.kind = 27 ∨ x.kind = 29) : ∃ a, x.ks = [a] ∧ T5.isEx (T5.kd L a) = true := by
  have h := S.sh i x hx
  rcases hk with e | e | e | e | e | e | e | e | e | e <;> rw [e] at h <;> simp [T5.shapeL] at h <;> obtain ⟨h1, h2⟩ := h <;> obtain ⟨a, rfl'⟩ := len1 h2 <;> exact ⟨a, rfl', h1 a (by simp [rfl'])⟩
theorem Shp.two (hk : x.kind = 19 ∨ x.kind = 21 ∨ x.kind = 6) : ∃ a b, x.ks = [a, b] ∧ T5.isEx (T5.kd L a) = true ∧ T5.isEx (T5.kd L b) = true := by
  have h := S.sh i x hx
  rcases hk with e | e | e <;> rw [e] at h <;> simp [T5.shapeL] at h
  · obtain ⟨h1, h2⟩ := h
    obtain ⟨a, b, e⟩ := len2 h2
    exact ⟨a, b, e, h1 a (by simp [e]), h1 b (by simp [e])⟩
  · obtain ⟨h1, h2⟩ := h
    obtain ⟨a, b, e⟩ := len2 h2
    exact ⟨a, b, e, h1 a (by simp [e]), h1 b (by simp [e])⟩
  · obtain ⟨⟨h1, h2⟩, _⟩ := h
    obtain ⟨a, b, e⟩ := len2 h2
    exact ⟨a, b, e, h1 a (by simp [e]), h1 b (by simp [e])⟩
theorem Shp.iff_ (hk : x.kind = 7) : ∃ a b c, x.ks = [a, b, c] ∧ T5.isEx (T5.kd L a) = true ∧ T5.kd L b = 4 ∧ (T5.kd L c = 4 ∨ T5.kd L c = 14) := by
  have h := S.sh i x hx
  rw [hk] at h
  simp [T5.shapeL] at h
  obtain ⟨⟨⟨h1, h2⟩, h3⟩, h4⟩ := h
  obtain ⟨a, b, c, e⟩ := len3 h1
  rw [e] at h2 h3 h4
  simp at h2 h3 h4
  exact ⟨a, b, c, e, h2, h3, h4⟩
theorem Shp.whl (hk : x.kind = 8) : ∃ a b, x.ks = [a, b] ∧ T5.isEx (T5.kd L a) = true ∧ T5.kd L b = 4 := by
  have h := S.sh i x hx
  rw [hk] at h
  simp [T5.shapeL] at h
  obtain ⟨⟨h1, h2⟩, h3⟩ := h
  obtain ⟨a, b, e⟩ := len2 h1
  rw [e] at h2 h3
  simp at h2 h3
  exact ⟨a, b, e, h2, h3⟩
theorem Shp.do_ (hk : x.kind = 12) : ∃ a, x.ks = [a] ∧ T5.kd L a = 22 := by
  have h := S.sh i x hx
  rw [hk] at h
  simp [T5.shapeL] at h
  obtain ⟨h1, h2⟩ := h
  obtain ⟨a, e⟩ := len1 h1
  rw [e] at h2
  simp at h2
  exact ⟨a, e, h2⟩
theorem Shp.fn (hk : x.kind = 3) : ∃ ps b, x.ks = ps ++ [b] ∧ (∀ k ∈ ps, T5.kd L k = 17) ∧ T5.kd L b = 4 := by
  have h := S.sh i x hx
  rw [hk] at h
  simp [T5.shapeL] at h
  obtain ⟨⟨h1, h2⟩, h3⟩ := h
  have hne : x.ks ≠ [] := by intro e; rw [e] at h1; simp at h1
  refine ⟨x.ks.dropLast, x.ks.getLast hne, (List.dropLast_concat_getLast hne).symm, fun k hk => ?_, ?_⟩
  · exact h2 _ (by rw [← List.map_take, ← List.dropLast_eq_take]; exact List.mem_map.2 ⟨k, hk, rfl⟩)
  · rw [List.getLast?_eq_some_getLast hne] at h3
    simpa using h3
theorem Shp.many (hk : x.kind = 2 ∨ x.kind = 13 ∨ x.kind = 22) : ∀ k ∈ x.ks, T5.isEx (T5.kd L k) = true := by
  have h := S.sh i x hx
  rcases hk with e | e | e <;> rw [e] at h <;> simp [T5.shapeL] at h
  · intro k hk; rw [h k hk]; rfl
  · intro k hk; rw [h k hk]; rfl
  · exact h
theorem Shp.blk (hk : x.kind = 4) : ∀ k ∈ x.ks, T5.isSt (T5.kd L k) = true := by
  have h := S.sh i x hx
  rw [hk] at h
  simp [T5.shapeL] at h
  exact h
theorem Shp.prg (hk : x.kind = 1) : ∀ k ∈ x.ks, T5.kd L k = 2 ∨ T5.kd L k = 3 := by
  have h := S.sh i x hx
  rw [hk] at h
  simp [T5.shapeL] at h
  exact h
theorem Shp.nil (hk : x.kind = 14 ∨ x.kind = 15 ∨ x.kind = 16 ∨ x.kind = 17 ∨ x.kind = 23 ∨ x.kind = 26 ∨ x.kind = 28 ∨ x.kind = 30) : x.ks = [] := by
  have h := S.sh i x hx
  rcases hk with e | e | e | e | e | e | e | e <;> rw [e] at h <;> simpa [T5.shapeL] using h
end
end Go.Proofs.YtnebhkglpggnlaaGreatDoor
namespace Go.Proofs.YtnebhkglpggnlaaGreatDoor
open Go.RowKit
set_option linter.unusedVariables false
set_option linter.unusedSimpArgs false

theorem prgL_len {s : ByteArray} (hs : s.size ≤ 200000) {ms : List PN} (h : prgL s = .ok ms) : (∀ x ∈ ms, LenOK 200020 x) ∧ ms.length ≤ 50000 := by
  rcases hsc : sc s 0 with ⟨ts, _ | ⟨p, c⟩⟩
  · rw [prgL_after hsc rfl] at h
    have hT : Toks (withEnd s ts) := (toks_of (by rw [hsc])).1
    have HLE : ∀ i, i < (withEnd s ts).length → TLen 200020 (tk (withEnd s ts) i) := fun i hi => by
      have := (toks_good (s := s) (ts := ts) (by rw [hsc]) i hi).2
      exact ⟨Nat.le_trans this.1 (by omega), Nat.le_trans this.2 (by omega)⟩
    generalize withEnd s ts = us at *
    unfold afterL at h
    split at h
    · cases h
    · split at h
      · cases h
      · rename_i v j ns hr
        split at h
        · cases h
        · rename_i h5
          split at h
          · cases h
          · cases h
            have hh := (fullP_eq hT).trans (congrArg some hr)
            exact ⟨fun x hx => keep_len (M := 200020) hT (by omega) HLE _ .prog _ _ (fun t h => by cases h) v j ms hh (by simp) x hx, by omega⟩
  · unfold prgL at h
    rw [hsc] at h
    cases h
/-- What is written of what one of both readers answers. -/
def wrtP (s : ByteArray) : List UInt8 := match prgL s with | .error _ => (lispO []).1 | .ok ms => (lispO (ms.map nx5)).1
theorem wrtP_err {s : ByteArray} {x : Nat × Nat} (h : prgL s = .error x) : wrtP s = (lispO []).1 := by unfold wrtP; rw [h]
theorem wrtP_ok {s : ByteArray} {ms : List PN} (h : prgL s = .ok ms) {L : List MN} (hL : L.map MN.x = ms) : (lispO (L.map nd5)).1 = wrtP s := by
  unfold wrtP
  rw [h]
  simp only
  rw [← lispO_bare (L.map nd5), ← lispO_bare (ms.map nx5), ← hL]
  have e1 : (L.map nd5).map bare5 = (L.map MN.x).map nx5 := by simp [nd5, nx5, bare5, Function.comp_def]
  have e2 : ((L.map MN.x).map nx5).map bare5 = (L.map MN.x).map nx5 := by simp [nx5, bare5, Function.comp_def]
  rw [e1, e2]
/-- What a reader answers, for whoever goes on: a list that is written so, a place and an error. -/
def RdOut (s : ByteArray) (w w' : World) (e : Ending) : Prop :=
  ∃ (a : Option Addr) (n c : Nat) (p q : Nat) (L : List T5.Nd), e = .returned (.tuple #[.slice a n c, .int .i64 (p : Nat), .int .i64 (q : Nat)]) ∧ (p, q) = (match prgL s with | .error x => x | .ok _ => (0, 0)) ∧ L.length = n ∧ T5.NAt w'.heap.size w' a L ∧ n ≤ 50000 ∧ (∀ x ∈ L, x.text.size ≤ 200020) ∧ (∀ x ∈ L, x.pl ≤ 9223372036854775807) ∧ (lispO L).1 = wrtP s
theorem rd_of {s : ByteArray} (hs : s.size ≤ 200000) {w w' : World} {e : Ending} (h : PrgOut s w w' e) : RdOut s w w' e := by
  unfold PrgOut at h
  unfold RdOut
  cases hp : prgL s with
  | error x =>
    obtain ⟨p, c⟩ := x
    rw [hp] at h
    exact ⟨none, 0, 0, p, c, [], h, rfl, rfl, fun i x hx => by simp at hx, by omega, by simp, by simp, (wrtP_err hp).symm⟩
  | ok ms =>
    rw [hp] at h
    obtain ⟨nv, L, F', rfl, hL, hown, hob, hkr, hF⟩ := h
    obtain ⟨a, c, rfl, -⟩ := own_slice hown
    obtain ⟨h1, h2⟩ := prgL_len hs hp
    have hl : L.length = ms.length := by rw [← hL]; simp
    have hx : ∀ m ∈ L, LenOK 200020 m.x := fun m hm => h1 m.x (by rw [← hL]; exact List.mem_map_of_mem hm)
    refine ⟨a, L.length, c, 0, 0, L.map nd5, rfl, rfl, by simp, nodes5 hown hkr (fun j hj => (hF j hj).2) (fun m hm => (hx m hm).1), by omega, ?_, ?_, wrtP_ok hp hL⟩
    · intro x hx'
      obtain ⟨m, hm, rfl⟩ := List.mem_map.1 hx'
      have := (hx m hm).1
      rw [Lib.size_eq]
      simpa [nd5] using this
    · intro x hx'
      obtain ⟨m, hm, rfl⟩ := List.mem_map.1 hx'
      have := (hx m hm).2
      simp only [nd5]
      omega

end Go.Proofs.YtnebhkglpggnlaaGreatDoor
