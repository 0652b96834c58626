/-
  What the parser's calls do that go round: blocks, whole descriptions, lists; conditions: the parser lies as told.
-/
import Derived.Test.YtekjfddcbcijdaaGreatDoorParJ
namespace Go.Proofs.YtekjfddcbcijdaaGreatDoor
open Go.RowKit Go.Shelf
set_option linter.unusedVariables false
set_option linter.unusedSimpArgs false

def posOf (pb : Nat) (w : World) : Nat := match w.cell? ⟨pb, 1, none⟩ with | some (.int _ i) => i.toNat | _ => 0
theorem PS.pos {ts : List Tok} {B pb : Nat} {F : List Nat} {i : Nat} {ns : List PN} {w : World} (h : PS ts B pb F i ns w) : posOf pb w = i := by
  obtain ⟨v0, v1, v2, v3, v4, v5, h1, _⟩ := h.pt
  obtain ⟨_, c1, _⟩ := pt_cells h1.blk
  unfold posOf
  rw [c1]
  simp
theorem info3 : (Tryz.prog.info? 3).map (fun i => (i.zero, i.size, i.bytes)) = some (some (.int .i64 0), 1, 8) := by kernel_rfl
theorem under35 : Tryz.prog.underlying 28 = some (.slice 3) := by kernel_rfl
theorem one_new (W : World) (z : Int) : ∀ j u, [Value.int .i64 z][j]? = some u → (W.alloc (.cells #[.int .i64 z] 3)).cell? ((⟨W.heap.size, 0, none⟩ : Addr).add j) = some u := by
  intro j u hu
  have hadd : (⟨W.heap.size, 0, none⟩ : Addr).add j = ⟨W.heap.size, j, none⟩ := by unfold Addr.add; split <;> simp_all
  rw [hadd]
  exact at_cells (heap_alloc_new W _) j (by simpa using hu)

theorem row_tr {F F1 G : List Nat} {w w1 w2 : World} (t : Tr F w F1 w1) (k : Fr G w1 w2) (h : ∀ j ∈ G, w.heap.size ≤ j) : Tr F w F1 w2 :=
  ⟨⟨k.os.trans t.f.os, k.tape.trans t.f.tape, k.output.trans t.f.output, Nat.le_trans t.f.size k.size, fun j hj hF => by
    rw [k.block j (Nat.lt_of_lt_of_le hj t.f.size) (fun hm => by have := h j hm; omega)]
    exact t.f.block j hj hF⟩, t.s⟩

/-- A row of kids beside a parser. -/
structure KR (B : Nat) (w : World) (F : List Nat) (wr : World) (kv : Value) (acc : List Nat) : Prop where
  on : ON wr B kv acc
  ni : ∀ k, kv.ownBlock = some k → k ∉ F
  lo : ∀ k, kv.ownBlock = some k → w.heap.size ≤ k
theorem KR.nil (B : Nat) (w : World) (F : List Nat) (wr : World) : KR B w F wr (.slice none 0 0) [] := ⟨ON.nil _ _, fun k h => by simp [Value.ownBlock] at h, fun k h => by simp [Value.ownBlock] at h⟩
theorem KR.tr {B : Nat} {w : World} {F F' : List Nat} {wr wr' : World} {kv : Value} {acc : List Nat} (h : KR B w F wr kv acc) (t : Tr F wr F' wr') : KR B w F' wr' kv acc :=
  ⟨own_fr h.on t.f (fun k hk => h.ni k hk), fun k hk => t.notin (h.ni k hk) (h.on.lt k hk).2, h.lo⟩
/-- One number more. -/
theorem KR.snoc {B : Nat} {w : World} {F : List Nat} {wr w3 : World} {kv v1 : Value} {acc : List Nat} {m : Nat} (h : KR B w F wr kv acc) (hw : w.heap.size ≤ wr.heap.size) (hF : ∀ k ∈ F, k < wr.heap.size) (ho : w3.ownsRow B 3 1 v1 (acc.length + 1) (acc.map (fun k => Value.int .i64 (k : Nat)) ++ [.int .i64 (m : Nat)])) (hl : v1.ownBlock = kv.ownBlock ∨ v1.ownBlock = some (wr.heap.size + 1)) : KR B w F w3 v1 (acc ++ [m]) := by
  refine ⟨?_, fun k hk => ?_, fun k hk => ?_⟩
  · unfold ON
    simpa using ho
  · rcases hl with e | e
    · exact h.ni k (by rw [← e]; exact hk)
    · rw [e] at hk
      simp at hk
      exact fun hm => by have := hF k hm; omega
  · rcases hl with e | e
    · exact h.lo k (by rw [← e]; exact hk)
    · rw [e] at hk
      simp at hk
      omega

set_option maxRecDepth 100000 in
set_option maxHeartbeats 4000000 in
theorem c_block {ts : List Tok} {B pb : Nat} (hT : Toks ts) {f i pl0 : Nat} {ns : List PN} {w : World} {F : List Nat} {r : Except Nat (List Nat × Nat × List PN)} (H : Hyp ts B pb f) (h0 : PS ts B pb F i ns w) (T0 : Tabs w) (hn : ns.length ≤ 2 * i + 1) (hP : P ts (f + 1) (.block pl0) i ns = some r) : Ctr ts B pb F w r (.block pl0) := by
  obtain ⟨i3, hi3, hz, hz1, hby⟩ := info_parts info3
  have hi := h0.ti
  have HTL : Hid (ts.length ≤ 200001) := h0.tl
  have HBW : Hid (B ≤ w.heap.size) := by have := h0.fb pb h0.pf; unfold Hid; omega
  simp only [P] at hP
  simp only [Ctr, ptr]
  by_cases e1 : nx ts i = [123]
  · rw [wantR_yes e1] at hP
    have q1 := hT.more hi (show nx ts i ≠ [] by rw [e1]; decide)
    have C1 := want_yes h0 [123] e1 q1
    unfold tokA at C1
    have HP : Hid (P ts f (.blockL (tk ts i).frm []) (i + 1) ns = some r) := hP
    clear hP e1
    go_enter Tryz.func56, Tryz.ntmps56
    go_wp2_with fail
    refine C1.mono ?_
    rintro e w1 ⟨rfl, h1, f1⟩
    have fl := fld2 ((tk ts i).kind : Nat) ((tk ts i).frm : Nat) ((tk ts i).to : Nat) ((tk ts i).n : Nat) ⟨(tk ts i).text.toArray⟩ w1
    have T1 := h0.tabs T0 f1
    have t1 := (Tr.refl F w).trans (Tr.of f1)
    clear C1
    go_wp2
    clear fl
    generalize (tk ts i).frm = pl at *
    go_loopw [4] (fun kv wr => ∃ g acc i' ns' F', g ≤ f ∧ PS ts B pb F' i' ns' wr ∧ Tabs wr ∧ KR B w F' wr kv acc ∧ Tr F w F' wr ∧ Hid (ns'.length + 1 ≤ 2 * i' ∧ i < i' ∧ acc.length ≤ i') ∧ Hid (P ts g (.blockL pl acc) i' ns' = some r)) (fun _ wr => ts.length - posOf pb wr)
    case atStart => exact ⟨f, [], i + 1, ns, F, Nat.le_refl _, h1, T1, KR.nil _ _ _ _, t1, by unfold Hid; simp; omega, HP⟩
    case round =>
      obtain ⟨g, acc, p, ms, F1, hg, hps, hTb, hkr, htr, hbd, hPP⟩ := hrel
      clear h1 T1 t1 HP f1
      have HG : Hid (g ≤ f) := hg
      have hpi := hps.ti
      have HPI : Hid (p < ts.length ∧ posOf pb wr = p) := ⟨hpi, hps.pos⟩
      clear hg
      obtain ⟨ka, kc, hkv, _⟩ := own_slice hkr.on
      subst hkv
      cases g with
      | zero => exact absurd hPP.out (by simp [P])
      | succ g =>
        have hP := hPP.out
        clear hPP
        simp only [P] at hP
        by_cases e : nx ts p = [125]
        · rw [if_pos e] at hP
          cases hP
          have q2 := hT.more hpi (show nx ts p ≠ [] by rw [e]; decide)
          have C2 := passIf_yes hps [125] e q2
          clear e
          go_wp2_with fail
          refine C2.mono ?_
          rintro e w2 ⟨rfl, h2, f2⟩
          have k2 := hkr.tr (Tr.of f2)
          have CL := lay_any h2 (ON.kv k2.on) 4 [] pl (by have := hbd.out; have := HTL.out; omega)
          clear C2
          go_wp2_with fail
          refine CL.mono ?_
          rintro e wz ⟨rfl, Fz, hz', fz, sz⟩
          have tz : Tr F w Fz wz := lay_tr (htr.trans (Tr.of f2)) fz sz (fun k hk => k2.lo k (by simpa using hk))
          go_wp2
          go_ret
          exact ⟨rfl, Fz, hz', tz⟩
        · rw [if_neg e] at hP
          have C2 := passIf_no hps [125] e
          clear e
          go_wp2_with fail
          refine C2.mono ?_
          rintro e w2 ⟨rfl, f2⟩
          have h2 := hps.fr f2 (by simp)
          have T2 := hTb.fr f2 (by simp)
          have k2 := hkr.tr (Tr.of0 f2)
          have t2 := htr.trans (Tr.of0 f2)
          clear C2
          rcases bindR_some hP with ⟨er, hr, he⟩ | ⟨v3, j3, n3, hr, hP3⟩
          · subst he
            have C3 := H g .stmt _ _ w2 _ _ (by have := HG.out; omega) h2 T2 trivial (by have := hbd.out; omega) hr
            simp only [Ctr, ptr] at C3
            go_wp2_with fail
            refine C3.mono ?_
            rintro e w3 ⟨rfl, f3⟩
            exact ⟨rfl, rfl, t2.ends f3⟩
          · obtain ⟨oa, ob, oc, od, oe⟩ := run_ok hT (nt := .stmt) (ns := ms) h2.ti trivial hr
            simp only [consN, slack] at oa od
            obtain ⟨m3, rfl, hm3⟩ := oe rfl
            have C3 := H g .stmt _ _ w2 _ _ (by have := HG.out; omega) h2 T2 trivial (by have := hbd.out; omega) hr
            simp only [Ctr, ptr] at C3
            have HP3 : Hid (P ts g (.blockL pl (acc ++ [m3])) j3 n3 = some r) := hP3
            have hb3 : Hid (n3.length + 1 ≤ 2 * j3 ∧ i < j3 ∧ acc.length + 1 ≤ j3 ∧ p < j3 ∧ j3 < ts.length) := by have := hbd.out; unfold Hid; omega
            clear hP hr oa ob oc od oe hP3
            go_wp2_with fail
            refine C3.mono ?_
            rintro e w3 ⟨he, F3, h3, s3⟩
            obtain rfl : e = .returned (.int .i64 (m3 : Nat)) := he
            have k3 := k2.tr s3
            have t3 := t2.trans s3
            have T3 := h2.tabs T2 s3.f
            have HB3 : Hid (B ≤ w3.heap.size) := by have := HBW.out; have := t3.f.size; unfold Hid; omega
            clear C3
            go_wp2_with (at_builtin; refine wpList_append_own_at _ rfl _ _ 28 rfl B 3 i3 (.int .i64 0) 1 8 under35 hi3 hz hz1 hby rfl (by decide) (.slice ka acc.length kc) acc.length (acc.map (fun k => Value.int .i64 (k : Nat))) rfl (k3.on.alloc _) ⟨w3.heap.size, 0, none⟩ 1 1 [.int .i64 (m3 : Nat)] rfl rfl (one_new w3 _) (by simp [Value.oneCell']) (by have := hb3.out; have := HTL.out; unfold maxLen; omega) (by have := hb3.out; have := HTL.out; omega) (by have := HB3.out; simp; omega) ?_)
            intro v4 w4 hown4 hgrow4 hnil4 hloc4
            have f4 : Fr (Value.slice ka acc.length kc).ownBlock.toList w3 w4 := ((Fr.refl _ _).alloc _).trans ((Fr.ofGrown hgrow4).sub (fun k hk => .inl hk))
            have hni : ∀ k ∈ (Value.slice ka acc.length kc).ownBlock.toList, k ∉ F3 := fun k hk => k3.ni k (by simpa using hk)
            have h4 := h3.fr f4 hni
            have T4 : Tabs w4 := T3.fr f4 (fun k hk => by have := (k3.on.lt k (by simpa using hk)).1; have := h3.lo; omega)
            have k4 := k3.snoc t3.f.size (fun k hk => (h3.fb k hk).2) hown4 (by simpa using hloc4)
            have t4 : Tr F w F3 w4 := row_tr t3 f4 (fun k hk => k3.lo k (by simpa using hk))
            clear hgrow4 hnil4 hloc4 f4 hni h3 T3 k3 t3 k2 t2 h2 T2 hkr hps hTb htr hown4
            have HM4 : Hid (posOf pb w4 = j3) := h4.pos
            go_wp2
            go_roundw
            case rel => exact ⟨g, acc ++ [m3], j3, n3, F3, by have := HG.out; omega, h4, T4, k4, t4, by have := hb3.out; unfold Hid; simp; omega, HP3⟩
            case measure =>
              have e1 := hb3.out
              have e2 := HPI.out
              have e3 := HM4.out
              omega
  · rw [wantR_no e1] at hP
    cases hP
    have C1 := want_no h0 [123] e1
    clear e1
    go_enter Tryz.func56, Tryz.ntmps56
    go_wp2_with fail
    refine C1.mono ?_
    rintro e w1 ⟨rfl, f1⟩
    exact ⟨rfl, rfl, f1.sub (by simp)⟩
set_option maxRecDepth 100000 in
set_option maxHeartbeats 4000000 in
theorem c_prog {ts : List Tok} {B pb : Nat} (hT : Toks ts) {f i : Nat} {ns : List PN} {w : World} {F : List Nat} {r : Except Nat (List Nat × Nat × List PN)} (H : Hyp ts B pb f) (h0 : PS ts B pb F i ns w) (T0 : Tabs w) (hn : ns.length ≤ 2 * i + 1) (hP : P ts (f + 1) .prog i ns = some r) : Ctr ts B pb F w r .prog := by
  obtain ⟨i3, hi3, hz, hz1, hby⟩ := info_parts info3
  have hi := h0.ti
  have HTL : Hid (ts.length ≤ 200001) := h0.tl
  have HBW : Hid (B ≤ w.heap.size) := by have := h0.fb pb h0.pf; unfold Hid; omega
  simp only [P] at hP
  simp only [Ctr, ptr]
  have HP : Hid (P ts f (.progL []) i ns = some r) := hP
  clear hP
  have t1 := Tr.refl F w
  have h1 := h0
  have T1 := T0
  go_enter Tryz.func16, Tryz.ntmps16
  go_wp2
  go_loopw [3] (fun kv wr => ∃ g acc i' ns' F', g ≤ f ∧ PS ts B pb F' i' ns' wr ∧ Tabs wr ∧ KR B w F' wr kv acc ∧ Tr F w F' wr ∧ Hid (ns'.length ≤ 2 * i' + 1 ∧ i ≤ i' ∧ acc.length ≤ i') ∧ Hid (P ts g (.progL acc) i' ns' = some r)) (fun _ wr => ts.length - posOf pb wr)
  case atStart => exact ⟨f, [], i, ns, F, Nat.le_refl _, h1, T1, KR.nil _ _ _ _, t1, by unfold Hid; simp; omega, HP⟩
  case round =>
    obtain ⟨g, acc, p, ms, F1, hg, hps, hTb, hkr, htr, hbd, hPP⟩ := hrel
    clear h1 T1 t1 HP
    have HG : Hid (g ≤ f) := hg
    have hpi := hps.ti
    have HPI : Hid (p < ts.length ∧ posOf pb wr = p) := ⟨hpi, hps.pos⟩
    clear hg
    obtain ⟨ka, kc, hkv, _⟩ := own_slice hkr.on
    subst hkv
    cases g with
    | zero => exact absurd hPP.out (by simp [P])
    | succ g =>
      have hP := hPP.out
      clear hPP
      simp only [P] at hP
      by_cases e : nx ts p = []
      · rw [if_pos e] at hP
        cases hP
        have C2 := next_any hps
        rw [e] at C2
        clear e
        go_wp2_with fail
        refine C2.mono ?_
        rintro e w2 ⟨rfl, f2⟩
        have h2 := hps.fr f2 (by simp)
        have k2 := hkr.tr (Tr.of0 f2)
        have CL := lay_any h2 (ON.kv k2.on) 1 [] 0 (by have := hbd.out; have := HTL.out; have := HPI.out; omega)
        clear C2
        go_wp2_with fail
        refine CL.mono ?_
        rintro e wz ⟨rfl, Fz, hz', fz, sz⟩
        have tz : Tr F w Fz wz := lay_tr (htr.trans (Tr.of0 f2)) fz sz (fun k hk => k2.lo k (by simpa using hk))
        go_wp2
        go_ret
        exact ⟨rfl, Fz, hz', tz⟩
      · rw [if_neg e] at hP
        have C2 := next_any hps
        have ne : (nx ts p == []) = false := by simpa using e
        have ne2 : (nx ts p).isEmpty = false := by simpa using e
        generalize nx ts p = X at *
        go_wp2_with fail
        refine C2.mono ?_
        rintro e w2 ⟨rfl, f2⟩
        have h2 := hps.fr f2 (by simp)
        have T2 := hTb.fr f2 (by simp)
        have k2 := hkr.tr (Tr.of0 f2)
        have t2 := htr.trans (Tr.of0 f2)
        obtain ⟨x0, x1, x2, bd, bs, bf, hbk, hmd, _, _⟩ := h2.maps
        obtain ⟨_, _, _, c3, _, _, _⟩ := pt_cells hbk
        clear C2 hbk
        rcases bindR_some hP with ⟨er, hr, he⟩ | ⟨v3, j3, n3, hr, hP3⟩
        · subst he
          have C3 := H g .decl _ _ w2 _ _ (by have := HG.out; omega) h2 T2 trivial (by have := hbd.out; omega) hr bd hmd
          simp only [ptr] at C3
          go_wp2_with fail
          refine C3.mono ?_
          rintro e w3 ⟨rfl, f3⟩
          exact ⟨rfl, rfl, t2.ends f3⟩
        · obtain ⟨oa, ob, oc, od, oe⟩ := run_ok hT (nt := .decl) (ns := ms) h2.ti trivial hr
          simp only [consN, slack] at oa od
          obtain ⟨m3, rfl, hm3⟩ := oe rfl
          have C3 := H g .decl _ _ w2 _ _ (by have := HG.out; omega) h2 T2 trivial (by have := hbd.out; omega) hr bd hmd
          simp only [ptr] at C3
          have HP3 : Hid (P ts g (.progL (acc ++ [m3])) j3 n3 = some r) := hP3
          have hb3 : Hid (n3.length ≤ 2 * j3 + 1 ∧ i < j3 ∧ acc.length + 1 ≤ j3 ∧ p < j3 ∧ j3 < ts.length) := by have := hbd.out; unfold Hid; omega
          clear hP hr oa ob oc od oe hP3
          go_wp2_with fail
          refine C3.mono ?_
          rintro e w3 ⟨he, F3, h3, s3⟩
          obtain rfl : e = .returned (.int .i64 (m3 : Nat)) := he
          have k3 := k2.tr s3
          have t3 := t2.trans s3
          have T3 := h2.tabs T2 s3.f
          have HB3 : Hid (B ≤ w3.heap.size) := by have := HBW.out; have := t3.f.size; unfold Hid; omega
          clear C3
          go_wp2_with (at_builtin; refine wpList_append_own_at _ rfl _ _ 28 rfl B 3 i3 (.int .i64 0) 1 8 under35 hi3 hz hz1 hby rfl (by decide) (.slice ka acc.length kc) acc.length (acc.map (fun k => Value.int .i64 (k : Nat))) rfl (k3.on.alloc _) ⟨w3.heap.size, 0, none⟩ 1 1 [.int .i64 (m3 : Nat)] rfl rfl (one_new w3 _) (by simp [Value.oneCell']) (by have := hb3.out; have := HTL.out; unfold maxLen; omega) (by have := hb3.out; have := HTL.out; omega) (by have := HB3.out; simp; omega) ?_)
          intro v4 w4 hown4 hgrow4 hnil4 hloc4
          have f4 : Fr (Value.slice ka acc.length kc).ownBlock.toList w3 w4 := ((Fr.refl _ _).alloc _).trans ((Fr.ofGrown hgrow4).sub (fun k hk => .inl hk))
          have hni : ∀ k ∈ (Value.slice ka acc.length kc).ownBlock.toList, k ∉ F3 := fun k hk => k3.ni k (by simpa using hk)
          have h4 := h3.fr f4 hni
          have T4 : Tabs w4 := T3.fr f4 (fun k hk => by have := (k3.on.lt k (by simpa using hk)).1; have := h3.lo; omega)
          have k4 := k3.snoc t3.f.size (fun k hk => (h3.fb k hk).2) hown4 (by simpa using hloc4)
          have t4 : Tr F w F3 w4 := row_tr t3 f4 (fun k hk => k3.lo k (by simpa using hk))
          clear hgrow4 hnil4 hloc4 f4 hni h3 T3 k3 t3 k2 t2 h2 T2 hkr hps hTb htr hown4 c3 hmd
          have HM4 : Hid (posOf pb w4 = j3) := h4.pos
          go_wp2
          go_roundw
          case rel => exact ⟨g, acc ++ [m3], j3, n3, F3, by have := HG.out; omega, h4, T4, k4, t4, by have := hb3.out; unfold Hid; simp; omega, HP3⟩
          case measure =>
            have e1 := hb3.out
            have e2 := HPI.out
            have e3 := HM4.out
            omega
end Go.Proofs.YtekjfddcbcijdaaGreatDoor
