/-
  What reads signs and what stands behind them; conditions: the parser lies as told.
-/
import Derived.Test.YtekjfddcbcijdaaGreatDoorParS
namespace Go.Proofs.YtekjfddcbcijdaaGreatDoor
open Go.RowKit Go.Shelf
attribute [local go_sem] Oper.semAt_some store_func
set_option linter.unusedVariables false
set_option linter.unusedSimpArgs false

/-- What the signs' loop keeps. -/
structure GS (ts : List Tok) (B pb j : Nat) (F : List Nat) (w : World) (sv : Value) (acc : List Tok) (bn : Nat) (rec : LoopState → Option Code → Loop) (st : LoopState) (F' : List Nat) (n : Nat) (ns : List PN) (W : World) : Prop where
  ps : PS ts B pb F' j ns W
  tabs : Tabs W
  on : W.ownsRow B 43 5 sv acc.length (flatT acc)
  oi : ∀ k, sv.ownBlock = some k → k ∉ F'
  b0 : W.heap[w.heap.size]? = some (.cells #[.pointer (some ⟨pb, 0, none⟩)] 56 (0, 0))
  n0 : w.heap.size ∉ F'
  bb : W.heap[bn]? = some (.cells #[.int .i64 (n : Nat)] 3 (0, 0))
  nb : bn ∉ F'
  bx : W.heap[bn + 1]? = some (.cells #[sv] 32 (0, 0))
  nx : bn + 1 ∉ F'
  dd : W.heap[bn + 1 + 1]? = some (.deferred (some []))
  nd : bn + 1 + 1 ∉ F'
  ll : W.heap[bn + 1 + 1 + 1]? = some (.loop (rec st none))
  nl : bn + 1 + 1 + 1 ∉ F'
  tr : Tr F w F' W
  lo : w.heap.size < bn ∧ 6 ≤ w.heap.size
section
variable {ts : List Tok} {B pb j : Nat} {F : List Nat} {w : World} {sv : Value} {acc : List Tok} {bn : Nat} {rec : LoopState → Option Code → Loop} {st st' : LoopState} {F' F'' : List Nat} {n n' : Nat} {ns ns' : List PN} {W W' : World}
theorem GS.fr (h : GS ts B pb j F w sv acc bn rec st F' n ns W) (f : Fr [] W W') : GS ts B pb j F w sv acc bn rec st F' n ns W' := by
  have kp : ∀ {k : Nat} {o : Obj}, W.heap[k]? = some o → W'.heap[k]? = some o := fun hk => (f.block _ (Array.getElem?_eq_some_iff.1 hk).1 (by simp)).trans hk
  exact ⟨h.ps.fr f (by simp), h.tabs.fr f (by simp), own_fr h.on f (by simp), h.oi, kp h.b0, h.n0, kp h.bb, h.nb, kp h.bx, h.nx, kp h.dd, h.nd, kp h.ll, h.nl, h.tr.trans (Tr.of0 f), h.lo⟩
theorem GS.put (h : GS ts B pb j F w sv acc bn rec st F' n ns W) : GS ts B pb j F w sv acc bn rec st' F' n ns (W.putObj (bn + 1 + 1 + 1) (.loop (rec st' none))) := by
  have f := Fr.putObj (W := W) (l := bn + 1 + 1 + 1) (.loop (rec st' none))
  have kp : ∀ {k : Nat} {o : Obj}, k ≠ bn + 1 + 1 + 1 → W.heap[k]? = some o → (W.putObj (bn + 1 + 1 + 1) (.loop (rec st' none))).heap[k]? = some o := fun hk h => (World.putObj_heap_other hk).trans h
  have hlo := h.lo
  have hB : 6 ≤ bn + 1 + 1 + 1 := by omega
  exact ⟨h.ps.fr f (fun k hk => by simp at hk; subst hk; exact h.nl), h.tabs.fr f (fun k hk => by simp at hk; subst hk; exact hB), own_fr h.on f (fun k hk => by simp; rintro rfl; exact own_notloop h.on h.ll (by intro c t z e; cases e) hk), h.oi, kp (by omega) h.b0, h.n0, kp (by omega) h.bb, h.nb, kp (by omega) h.bx, h.nx, kp (by omega) h.dd, h.nd, World.putObj_heap_same (Array.getElem?_eq_some_iff.1 h.ll).1, h.nl, row_tr h.tr f (fun k hk => by simp at hk; omega), h.lo⟩
theorem GS.laid (h : GS ts B pb j F w sv acc bn rec st F' n ns W) {W2 wz : World} {Fz G : List Nat} (gb : Fr [] W W2) (hz : PS ts B pb Fz j ns' wz) (fz : Fr F' W2 wz) (sz : ∀ k ∈ Fz, k ∈ F' ∨ k ∈ G ∨ W2.heap.size ≤ k) (hG : ∀ k ∈ G, W.heap.size ≤ k) (m : Nat) : GS ts B pb j F w sv acc bn rec st Fz m ns' (wz.setCell ⟨bn, 0, none⟩ (.int .i64 (m : Nat))) := by
  have fs : Fr [bn] wz (wz.setCell ⟨bn, 0, none⟩ (.int .i64 (m : Nat))) := Fr.setCell (Fr.refl _ _) (.inl (by simp)) _
  have hlo := h.lo
  have lt : ∀ {k : Nat} {o : Obj}, W.heap[k]? = some o → k < W.heap.size := fun h => (Array.getElem?_eq_some_iff.1 h).1
  have ni : ∀ {b : Nat}, b < W.heap.size → b ∉ F' → b ∉ Fz := fun hb hn hm => by
    rcases sz _ hm with h1 | h1 | h1
    · exact hn h1
    · have := hG _ h1; omega
    · have := gb.size; omega
  have kz : ∀ {k : Nat} {o : Obj}, k ∉ F' → W.heap[k]? = some o → wz.heap[k]? = some o := fun hk hh => by
    have h2 := (gb.block _ (lt hh) (by simp)).trans hh
    exact (fz.block _ (Array.getElem?_eq_some_iff.1 h2).1 hk).trans h2
  have kp : ∀ {k : Nat} {o : Obj}, k ≠ bn → k ∉ F' → W.heap[k]? = some o → (wz.setCell ⟨bn, 0, none⟩ (.int .i64 (m : Nat))).heap[k]? = some o := fun hk hk2 hh => (fs.block _ (Array.getElem?_eq_some_iff.1 (kz hk2 hh)).1 (by simpa using hk)).trans (kz hk2 hh)
  have hbn := kz h.nb h.bb
  have T2 := h.tabs.fr gb (by simp)
  have P2 := h.ps.fr gb (by simp)
  have Tz : Tabs wz := P2.tabs T2 fz
  have o2 := own_fr (own_fr h.on gb (by simp)) fz (fun k hk => h.oi k hk)
  have tz : Tr F w Fz wz := ⟨(h.tr.trans (Tr.of0 gb)).ends fz, fun k hk => by
    rcases sz k hk with h1 | h1 | h1
    · exact h.tr.s k h1
    · have := hG k h1; have := h.tr.f.size; exact .inr (by omega)
    · have := gb.size; have := h.tr.f.size; exact .inr (by omega)⟩
  exact ⟨hz.fr fs (fun k hk => by simp at hk; subst hk; exact ni (lt h.bb) h.nb), Tz.fr fs (fun k hk => by simp at hk; omega), own_fr o2 fs (fun k hk => by simp; rintro rfl; exact own_ne o2 hbn (by decide) hk), fun k hk => ni (h.on.lt k hk).2 (h.oi k hk), kp (by omega) h.n0 h.b0, ni (lt h.b0) h.n0, set_same hbn, ni (lt h.bb) h.nb, kp (by omega) h.nx h.bx, ni (lt h.bx) h.nx, kp (by omega) h.nd h.dd, ni (lt h.dd) h.nd, kp (by omega) h.nl h.ll, ni (lt h.ll) h.nl, row_tr tz fs (fun k hk => by simp at hk; omega), h.lo⟩
end

/-- A row of tokens beside a parser. -/
structure SR (B : Nat) (w : World) (F : List Nat) (wr : World) (sv : Value) (acc : List Tok) : Prop where
  on : wr.ownsRow B 43 5 sv acc.length (flatT acc)
  ni : ∀ k, sv.ownBlock = some k → k ∉ F
  lo : ∀ k, sv.ownBlock = some k → w.heap.size ≤ k
theorem SR.nil (B : Nat) (w : World) (F : List Nat) (wr : World) : SR B w F wr (.slice none 0 0) [] := ⟨World.ownsRow_nil _ _ _ _, fun k h => by simp [Value.ownBlock] at h, fun k h => by simp [Value.ownBlock] at h⟩
theorem SR.tr {B : Nat} {w : World} {F F' : List Nat} {wr wr' : World} {sv : Value} {acc : List Tok} (h : SR B w F wr sv acc) (t : Tr F wr F' wr') : SR B w F' wr' sv acc :=
  ⟨own_fr h.on t.f (fun k hk => h.ni k hk), fun k hk => t.notin (h.ni k hk) (h.on.lt k hk).2, h.lo⟩
theorem SR.snoc {B : Nat} {w : World} {F : List Nat} {wr w3 : World} {sv v1 : Value} {acc : List Tok} {t : Tok} (h : SR B w F wr sv acc) (hw : w.heap.size ≤ wr.heap.size) (hF : ∀ k ∈ F, k < wr.heap.size) (ho : w3.ownsRow B 43 5 v1 (acc.length + 1) (flatT acc ++ (tokA t).toList)) (hl : v1.ownBlock = sv.ownBlock ∨ v1.ownBlock = some (wr.heap.size + 1)) : SR B w F w3 v1 (acc ++ [t]) := by
  refine ⟨?_, fun k hk => ?_, fun k hk => ?_⟩
  · rw [flatT_append, flatT_one]
    simpa using ho
  · rcases hl with e | e
    · exact h.ni k (by rw [← e]; exact hk)
    · rw [e] at hk
      simp at hk
      exact fun hm => by have := hF k hm; omega
  · rcases hl with e | e
    · exact h.lo k (by rw [← e]; exact hk)
    · rw [e] at hk
      simp at hk
      omega
theorem own_tc {wr : World} {B c : Nat} {a : Option Addr} {acc : List Tok} (h : wr.ownsRow B 43 5 (.slice a acc.length c) acc.length (flatT acc)) : TC wr a acc := fun p t hp => by
  have hlt := (List.getElem?_eq_some_iff.1 hp).1
  rcases h.2 with ⟨_, e0⟩ | ⟨g, cap, cur, e, hb, hg, hc, hm, hs, ht⟩
  · omega
  · injection e with e1 _ _
    have cell : ∀ j u, j < acc.length * 5 → (flatT acc)[j]? = some u → wr.cell? ⟨g, j, none⟩ = some u := fun j u hj hu => by
      have : (cur.toList.take (acc.length * 5))[j]? = (flatT acc)[j]? := by rw [ht]
      rw [List.getElem?_take_of_lt hj, hu] at this
      simp only [World.cell?, hg]
      simpa using this
    exact ⟨g, e1, cell (p * 5 + 0) _ (by omega) (flatT_get hp 0 (by decide)), cell (p * 5 + 1) _ (by omega) (flatT_get hp 1 (by decide)), cell (p * 5 + 2) _ (by omega) (flatT_get hp 2 (by decide)), cell (p * 5 + 3) _ (by omega) (flatT_get hp 3 (by decide)), cell (p * 5 + 4) _ (by omega) (flatT_get hp 4 (by decide))⟩
theorem laySg_snoc : ∀ (l : List Tok) (t : Tok) (n : Nat) (ns : List PN), laySg (l ++ [t]) n ns = ((laySg l n ns).2.length, (laySg l n ns).2 ++ [⟨18, t.text, [(laySg l n ns).1], t.frm⟩])
  | [], t, n, ns => rfl
  | x :: l, t, n, ns => by
    simp only [List.cons_append, laySg]
    exact laySg_snoc l t _ _

set_option maxRecDepth 100000 in
set_option maxHeartbeats 4000000 in
theorem c_signed {ts : List Tok} {B pb : Nat} (hT : Toks ts) {f i : Nat} {ns : List PN} {w : World} {F : List Nat} {r : Except Nat (List Nat × Nat × List PN)} (H : Hyp ts B pb f) (h0 : PS ts B pb F i ns w) (T0 : Tabs w) (hn : ns.length ≤ 2 * i + 1) (hP : P ts (f + 1) .signed i ns = some r) : Ctr ts B pb F w r .signed := by
  obtain ⟨i5, hi5, hz, hz1, hby⟩ := info_parts info56
  have hi := h0.ti
  have HTL : Hid (ts.length ≤ 200001) := h0.tl
  have HBW : Hid (B ≤ w.heap.size) := by have := h0.fb pb h0.pf; unfold Hid; omega
  have HP : Hid (P ts f (.signedL []) i ns = some r) := by simp only [P] at hP; exact hP
  clear hP
  simp only [Ctr, ptr]
  have g0 : Fr [] w (w.alloc (.cells #[.pointer (some ⟨pb, 0, none⟩)] 56)) := (Fr.refl _ _).alloc _
  have b0 : (w.alloc (.cells #[.pointer (some ⟨pb, 0, none⟩)] 56)).heap[w.heap.size]? = some (.cells #[.pointer (some ⟨pb, 0, none⟩)] 56 (0, 0)) := heap_alloc_new w _
  have h1 := h0.fr g0 (by simp)
  have T1 := T0.fr g0 (by simp)
  have t1 := (Tr.refl F w).trans (Tr.of0 g0)
  have n1 : w.heap.size ∉ F := fun hm => by have := (h0.fb _ hm).2; omega
  have HN : Hid (ns.length ≤ 2 * i + 1) := hn
  clear hn
  refine callsIn_wide.1 (callsIn_of_wp_marks (n := 0) Tryz.func82 rfl trivial ?_ rfl)
  simp only [Tryz.ntmps82, List.size_toArray, List.length_cons, List.length_nil, Nat.reduceAdd, Nat.reduceSub, Array.replicate_succ, Array.replicate_zero, List.push_toArray, List.append_toArray, List.nil_append, List.cons_append]
  gi_wp2
  generalize w.alloc (.cells #[.pointer (some ⟨pb, 0, none⟩)] 56) = wA at *
  gi_loopw [3] (fun sv wr => ∃ g acc i' ns' F', g ≤ f ∧ PS ts B pb F' i' ns' wr ∧ Tabs wr ∧ SR B w F' wr sv acc ∧ wr.heap[w.heap.size]? = some (.cells #[.pointer (some ⟨pb, 0, none⟩)] 56 (0, 0)) ∧ w.heap.size ∉ F' ∧ Tr F w F' wr ∧ Hid (ns'.length + 2 * acc.length ≤ 2 * i' + 1 ∧ i ≤ i' ∧ acc.length ≤ i') ∧ Hid (P ts g (.signedL acc) i' ns' = some r)) (fun _ wr => ts.length - posOf pb wr)
  case atStart => exact ⟨f, [], i, ns, F, Nat.le_refl _, h1, T1, SR.nil _ _ _ _, b0, n1, t1, by have := HN.out; unfold Hid; simp; omega, HP⟩
  case round =>
    obtain ⟨g, acc, p, ms, F1, hg, hps, hTb, hsr, hbx, hbn, htr, hbd, hPP⟩ := hrel
    clear h1 T1 t1 HP b0 n1 g0
    have HG : Hid (g ≤ f) := hg
    have hpi := hps.ti
    have HPI : Hid (p < ts.length ∧ posOf pb wr = p) := ⟨hpi, hps.pos⟩
    clear hg
    obtain ⟨sa, sc, hsv, _⟩ := own_slice hsr.on
    subst hsv
    have cb := at_cells hbx 0 rfl
    cases g with
    | zero => exact absurd hPP.out (by simp [P])
    | succ g =>
      have hP := hPP.out
      clear hPP
      simp only [P] at hP
      have C2 := next_any hps
      have CS := fun w => isSign_any (nx ts p) w
      cases hsg : isSg (nx ts p) with
      | true =>
        rw [hsg] at hP CS
        simp only [if_true] at hP
        have q2 := hT.more hpi (fun e => by rw [e, isSg_nil] at hsg; cases hsg)
        have HP2 : Hid (P ts g (.signedL (acc ++ [tk ts p])) (p + 1) ms = some r) := hP
        clear hsg hP
        generalize nx ts p = X at C2 CS
        gi_wp2
        refine ⟨trivial, rfl, (callsIn_wide.2 C2).mono ?_⟩
        rintro e w2 ⟨rfl, f2⟩
        have h2 := hps.fr f2 (by simp)
        have T2 := hTb.fr f2 (by simp)
        have s2 := hsr.tr (Tr.of0 f2)
        have t2 := htr.trans (Tr.of0 f2)
        have bx2 := (f2.block _ (Array.getElem?_eq_some_iff.1 hbx).1 (by simp)).trans hbx
        have cb2 := at_cells bx2 0 rfl
        clear C2
        gi_wp2
        refine ⟨trivial, rfl, (callsIn_wide.2 (CS w2)).mono ?_⟩
        rintro e w2 ⟨rfl, rfl⟩
        have C3 := pass_any h2 q2
        unfold tokA at C3
        gi_wp2
        refine ⟨trivial, rfl, (callsIn_wide.2 C3).mono ?_⟩
        rintro e w3 ⟨rfl, h3, f3⟩
        have T3 := h2.tabs T2 f3
        have s3 := s2.tr (Tr.of f3)
        have t3 := t2.trans (Tr.of f3)
        have bx3 := (f3.block _ (Array.getElem?_eq_some_iff.1 bx2).1 hbn).trans bx2
        have HB3 : Hid (B ≤ w3.heap.size) := by have := HBW.out; have := t3.f.size; unfold Hid; omega
        have hnew := tok_new w3 (.int .i64 ((tk ts p).kind : Nat)) (.string ⟨(tk ts p).text.toArray⟩) (.int .i64 ((tk ts p).frm : Nat)) (.int .i64 ((tk ts p).to : Nat)) (.int .i64 ((tk ts p).n : Nat))
        clear C3 CS cb cb2
        gi_wp2_with (gi_at_builtin; refine wpListIn_append_own_at _ rfl _ _ 32 rfl B 43 i5 (.agg #[.int .i64 0, .string ⟨#[]⟩, .int .i64 0, .int .i64 0, .int .i64 0]) 5 48 under42 hi5 hz hz1 hby rfl (by decide) (.slice sa acc.length sc) acc.length (flatT acc) rfl (s3.on.alloc _) ⟨w3.heap.size, 0, none⟩ 1 1 [.int .i64 ((tk ts p).kind : Nat), .string ⟨(tk ts p).text.toArray⟩, .int .i64 ((tk ts p).frm : Nat), .int .i64 ((tk ts p).to : Nat), .int .i64 ((tk ts p).n : Nat)] rfl rfl hnew (by simp [Value.oneCell']) (by have := hbd.out; have := HTL.out; have := HPI.out; unfold maxLen; omega) (by have := hbd.out; have := HTL.out; have := HPI.out; omega) (by have := HB3.out; simp; omega) ?_)
        intro v4 w4 hown4 hgrow4 hnil4 hloc4
        have f4 : Fr (Value.slice sa acc.length sc).ownBlock.toList w3 w4 := ((Fr.refl _ _).alloc _).trans ((Fr.ofGrown hgrow4).sub (fun k hk => .inl hk))
        have h4 := h3.fr f4 (fun k hk => s3.ni k (by simpa using hk))
        have T4 : Tabs w4 := T3.fr f4 (fun k hk => by have := (s3.on.lt k (by simpa using hk)).1; have := h3.lo; omega)
        have s4 := s3.snoc (t := tk ts p) t3.f.size (fun k hk => (h3.fb k hk).2) hown4 (by simpa using hloc4)
        have t4 : Tr F w F1 w4 := row_tr t3 f4 (fun k hk => s3.lo k (by simpa using hk))
        have bx4 := (f4.block _ (Array.getElem?_eq_some_iff.1 bx3).1 (fun hm => own_ne s3.on bx3 (by decide) (by simpa using hm))).trans bx3
        clear hgrow4 hnil4 hloc4 f4 h3 T3 s3 t3 s2 t2 h2 T2 hsr hps hTb htr hown4 bx2 bx3 hbx hnew
        have HM4 : Hid (posOf pb w4 = p + 1) := h4.pos
        gi_wp2
        go_roundw
        case rel => exact ⟨g, acc ++ [tk ts p], p + 1, ms, F1, by have := HG.out; omega, h4, T4, s4, bx4, hbn, t4, by have := hbd.out; unfold Hid; simp; omega, HP2⟩
        case measure =>
          have e2 := HPI.out
          have e3 := HM4.out
          omega
      | false =>
        rw [hsg] at hP CS
        simp only [Bool.false_eq_true, if_false] at hP
        clear hsg
        generalize nx ts p = X at C2 CS
        gi_wp2
        refine ⟨trivial, rfl, (callsIn_wide.2 C2).mono ?_⟩
        rintro e w2 ⟨rfl, f2⟩
        have h2 := hps.fr f2 (by simp)
        have T2 := hTb.fr f2 (by simp)
        have s2 := hsr.tr (Tr.of0 f2)
        have t2 := htr.trans (Tr.of0 f2)
        have bx2 := (f2.block _ (Array.getElem?_eq_some_iff.1 hbx).1 (by simp)).trans hbx
        have cb2 := at_cells bx2 0 rfl
        clear C2
        gi_wp2
        refine ⟨trivial, rfl, (callsIn_wide.2 (CS w2)).mono ?_⟩
        rintro e w2 ⟨rfl, rfl⟩
        clear CS cb hsr hps hTb htr hbx
        rcases bindR_some hP with ⟨er, hr, he⟩ | ⟨v3, j3, n3, hr, hP3⟩
        · subst he
          have C3 := H g .back _ _ w2 _ _ (by have := HG.out; omega) h2 T2 trivial (by have := hbd.out; omega) hr
          simp only [Ctr, ptr] at C3
          gi_wp2
          refine ⟨trivial, rfl, (callsIn_wide.2 C3).mono ?_⟩
          rintro e w3 ⟨rfl, f3⟩
          exact ⟨rfl, t2.ends f3⟩
        · obtain ⟨oa, ob, oc, od, oe⟩ := run_ok hT (nt := .back) (ns := ms) h2.ti trivial hr
          simp only [consN, slack] at oa od
          obtain ⟨m3, rfl, hm3⟩ := oe rfl
          have C3 := H g .back _ _ w2 _ _ (by have := HG.out; omega) h2 T2 trivial (by have := hbd.out; omega) hr
          simp only [Ctr, ptr] at C3
          cases g with
          | zero => exact absurd hP3 (by simp [P])
          | succ g =>
            simp only [P] at hP3
            cases hP3
            have hb3 : Hid (n3.length + 2 * acc.length ≤ 2 * j3 + 1 ∧ j3 < ts.length ∧ acc.length ≤ 200001 ∧ m3 < n3.length) := by have := hbd.out; have := HTL.out; have := HPI.out; unfold Hid; omega
            clear hP hr oa ob oc od oe hm3
            gi_wp2
            refine ⟨trivial, rfl, (callsIn_wide.2 C3).mono ?_⟩
            rintro e w3 ⟨he, F3, h3, z3⟩
            obtain rfl : e = .returned (.int .i64 (m3 : Nat)) := he
            have T3 := h2.tabs T2 z3.f
            have s3 := s2.tr z3
            have t3 := t2.trans z3
            have bx3 := (z3.f.block _ (Array.getElem?_eq_some_iff.1 bx2).1 hbn).trans bx2
            have n3' := z3.notin hbn (Array.getElem?_eq_some_iff.1 bx2).1
            clear C3 cb2 h2 T2 s2 t2 bx2 hbn
            have gB : Fr [] w3 (w3.alloc (.cells #[.int .i64 (m3 : Nat)] 3)) := (Fr.refl _ _).alloc _
            have bB : (w3.alloc (.cells #[.int .i64 (m3 : Nat)] 3)).heap[w3.heap.size]? = some (.cells #[.int .i64 (m3 : Nat)] 3 (0, 0)) := heap_alloc_new w3 _
            have HSB : Hid ((w3.alloc (.cells #[.int .i64 (m3 : Nat)] 3)).heap.size = w3.heap.size + 1) := by unfold Hid; simp
            gi_wp2
            generalize w3.alloc (.cells #[.int .i64 (m3 : Nat)] 3) = wB at *
            refine ⟨trivial, rfl, (callsIn_wide.2 (backT_any _ _ _ wB)).mono ?_⟩
            rintro e wC ⟨rfl, rfl⟩
            have gC : Fr [] wB (wB.alloc (.cells #[.slice sa acc.length sc] 32)) := (Fr.refl _ _).alloc _
            have bC : (wB.alloc (.cells #[.slice sa acc.length sc] 32)).heap[wB.heap.size]? = some (.cells #[.slice sa acc.length sc] 32 (0, 0)) := heap_alloc_new wB _
            have HSC : Hid ((wB.alloc (.cells #[.slice sa acc.length sc] 32)).heap.size = wB.heap.size + 1) := by unfold Hid; simp
            generalize wB.alloc (.cells #[.slice sa acc.length sc] 32) = wC at *
            have eB : wB.heap.size = w3.heap.size + 1 := HSB.out
            rw [eB] at bC ⊢
            have HSB' : Hid (wB.heap.size = w3.heap.size + 1) := eB
            have eC : wC.heap.size = w3.heap.size + 1 + 1 := by rw [HSC.out, eB]
            have HSC' : Hid (wC.heap.size = w3.heap.size + 1 + 1) := eC
            clear eB HSB HSC eC
            gi_wp2
            refine range_outer (gf := 102) (lb := #[.pointer (some ⟨w3.heap.size + 1, 0, none⟩)]) rfl (enters_of Tryz.func102 (by kernel_rfl) rfl) ?_
            intro rec hYr
            show CallsIn Fence.wide 0 Tryz.prog 102 #[.func (.yield (wC.heap.size + 1)) #[] #[], .pointer (some ⟨w3.heap.size + 1, 0, none⟩)] _ _
            have gD : Fr [] wC ((wC.alloc (.deferred (some []))).alloc (.loop (rec .ready none))) := ((Fr.refl _ _).alloc _).alloc _
            have hL5 := blk2 wC (.deferred (some [])) (.loop (rec .ready none))
            have hD5 : ((wC.alloc (.deferred (some []))).alloc (.loop (rec .ready none))).heap[wC.heap.size]? = some (.deferred (some [])) := (Below.heap_alloc _ _ _ (by simp)).trans (heap_alloc_new wC _)
            generalize (wC.alloc (.deferred (some []))).alloc (.loop (rec .ready none)) = wD at *
            have eC : wC.heap.size = w3.heap.size + 1 + 1 := HSC'.out
            rw [eC] at hL5 hD5 hYr ⊢
            have HSC'' : Hid (wC.heap.size = w3.heap.size + 1 + 1) := eC
            clear eC
            have gBD := gC.trans gD
            have g3D := gB.trans gBD
            have kB : ∀ {k : Nat} {o : Obj}, wB.heap[k]? = some o → wD.heap[k]? = some o := fun h => (gBD.block _ (Array.getElem?_eq_some_iff.1 h).1 (by simp)).trans h
            have kC : ∀ {k : Nat} {o : Obj}, wC.heap[k]? = some o → wD.heap[k]? = some o := fun h => (gD.block _ (Array.getElem?_eq_some_iff.1 h).1 (by simp)).trans h
            have nF : ∀ k, w3.heap.size ≤ k → k ∉ F3 := fun k hk hm => by have := (h3.fb k hm).2; omega
            have G0 : GS ts B pb j3 F w (.slice sa acc.length sc) acc w3.heap.size rec .ready F3 m3 n3 wD := ⟨h3.fr g3D (by simp), T3.fr g3D (by simp), own_fr s3.on g3D (by simp), s3.ni, (g3D.block _ (Array.getElem?_eq_some_iff.1 bx3).1 (by simp)).trans bx3, n3', kB bB, nF _ (by omega), kC bC, nF _ (by omega), hD5, nF _ (by omega), hL5, nF _ (by omega), t3.trans (Tr.of0 g3D), (Array.getElem?_eq_some_iff.1 bx3).1, T0.len⟩
            clear gB gC gD gBD g3D kB kC nF bB bC hL5 hD5 h3 T3 s3 t3 bx3 n3' z3
            generalize w3.heap.size = bn at *
            refine (backT1 (fun q W => ∃ F', GS ts B pb j3 F w (.slice sa acc.length sc) acc bn rec .ready F' (laySg (acc.reverse.take q) m3 n3).1 (laySg (acc.reverse.take q) m3 n3).2 W) (bn + 1) (bn + 1 + 1 + 1) sa sc acc hb3.out.2.2.1 (fun q W h => by obtain ⟨F', h⟩ := h; exact ⟨h.bx, own_tc h.on⟩) ?_ wD ⟨F3, by simpa [laySg] using G0⟩).mono ?_
            · rintro q t Y hq ⟨F4, hg4⟩
              have hql := (List.getElem?_eq_some_iff.1 hq).1
              have htk : Hid (laySg (acc.reverse.take (q + 1)) m3 n3 = ((laySg (acc.reverse.take q) m3 n3).2.length, (laySg (acc.reverse.take q) m3 n3).2 ++ [⟨18, t.text, [(laySg (acc.reverse.take q) m3 n3).1], t.frm⟩])) := by
                unfold Hid
                rw [List.take_add_one, hq]
                exact laySg_snoc _ _ _ _
              rw [htk.out]
              have HLQ : Hid ((laySg (acc.reverse.take q) m3 n3).2.length + 1 ≤ 1000000) := by
                have e1 := laySg_len (acc.reverse.take q) m3 n3 hb3.out.2.2.2
                have e2 := hb3.out
                have e3 := HTL.out
                simp only [List.length_take, List.length_reverse] at e1 hql
                unfold Hid
                omega
              generalize laySg (acc.reverse.take q) m3 n3 = LS at *
              obtain ⟨nn, nl⟩ := LS
              simp only at *
              clear htk hq hql
              unfold tokA
              refine hYr _ Y _ rfl hg4.ll ?_
              clear hYr
              gi_wp2
              have gA : Fr [] Y (Y.alloc (.cells #[.int .i64 (t.kind : Nat), .string ⟨t.text.toArray⟩, .int .i64 (t.frm : Nat), .int .i64 (t.to : Nat), .int .i64 (t.n : Nat)] 43)) := (Fr.refl _ _).alloc _
              have uA := TB.new Y (.int .i64 (t.kind : Nat)) (.string ⟨t.text.toArray⟩) (.int .i64 (t.frm : Nat)) (.int .i64 (t.to : Nat)) (.int .i64 (t.n : Nat))
              have hgA := hg4.fr gA
              refine ⟨hgA.ll, ?_⟩
              have HLY : Hid (bn + 1 + 1 + 1 < Y.heap.size) := (Array.getElem?_eq_some_iff.1 hg4.ll).1
              generalize Y.alloc (.cells #[.int .i64 (t.kind : Nat), .string ⟨t.text.toArray⟩, .int .i64 (t.frm : Nat), .int .i64 (t.to : Nat), .int .i64 (t.n : Nat)] 43) = YA at *
              have hg5 := hgA.put (st' := .busy)
              have u5 := uA.fr (Fr.putObj (W := YA) (l := bn + 1 + 1 + 1) (.loop (rec .busy none))) (by have := HLY.out; simp; omega)
              generalize YA.putObj (bn + 1 + 1 + 1) (.loop (rec .busy none)) = Y1 at *
              clear hg4 hgA uA gA
              have c0 := at_cells hg5.b0 0 rfl
              have c1 := u5.c1
              have c2 := u5.c2
              have c3 := at_cells hg5.bb 0 rfl
              have gb : Fr [] Y1 (Y1.alloc (.cells #[.int .i64 (nn : Nat)] 3)) := (Fr.refl _ _).alloc _
              have ob : ON (Y1.alloc (.cells #[.int .i64 (nn : Nat)] 3)) B (.slice (some ⟨Y1.heap.size, 0, none⟩) 1 1) [nn] := ON.built Y1 B (by have := hg5.ps.fb pb hg5.ps.pf; omega) [nn] (by simp)
              have CL := lay_any (hg5.ps.fr gb (by simp)) (ON.kv ob) 18 t.text t.frm HLQ.out
              have gb2 := gb
              gi_wp2
              refine ⟨trivial, rfl, (callsIn_wide.2 CL).mono ?_⟩
              rintro e wz ⟨rfl, Fz, hz', fz, sz⟩
              have hgz := hg5.laid gb2 hz' fz sz (fun k hk => by rw [own_mem hk]; exact Nat.le_refl _) nl.length
              have bz : wz.heap[bn]? = some (.cells #[.int .i64 (nn : Nat)] 3 (0, 0)) := by
                have h2 := (gb2.block _ (Array.getElem?_eq_some_iff.1 hg5.bb).1 (by simp)).trans hg5.bb
                exact (fz.block _ (Array.getElem?_eq_some_iff.1 h2).1 hg5.nb).trans h2
              have cz := at_cells bz 0 rfl
              have fzz : wz.frozen? ⟨bn, 0, none⟩ = false := by simp [World.frozen?, bz]
              clear CL c0 c1 c2 c3 ob gb gb2 fz sz hz' u5 hg5 bz
              gi_wp2
              exact ⟨hgz.ll, rfl, Fz, hgz.put⟩
            · rintro e W2 ⟨hv, F4, hg4⟩
              refine ⟨hv, .inl ⟨hg4.ll, ?_⟩⟩
              rw [List.take_of_length_le (by simp)] at hg4
              have hg5 := hg4.put (st' := .exhausted)
              generalize W2.putObj (bn + 1 + 1 + 1) (.loop (rec .exhausted none)) = W3 at *
              clear hg4 hYr G0
              have c3 := at_cells hg5.bb 0 rfl
              gi_wp2
              refine ⟨by simp, .inl ⟨_, _, rfl, run_takeDeferred hg5.dd, ?_⟩⟩
              have f9 := Fr.putObj (W := W3) (l := bn + 1 + 1) (.deferred none)
              exact ⟨_, results_tmp rfl _ _ _, rfl, F4, hg5.ps.fr f9 (fun k hk => by simp at hk; subst hk; exact hg5.nd), row_tr hg5.tr f9 (fun k hk => by have := hg5.lo; simp at hk; omega)⟩
end Go.Proofs.YtekjfddcbcijdaaGreatDoor
