/-
  Hit of a book of the program; conditions: the book lies as told and is as a book must be.
-/
import Derived.Test.YtjeddgjndpdhoaaPrN
import Derived.Deep.Cut
namespace Go.Proofs.Ytjeddgjndpdhoaa
open Go.RowKit Go.Shelf Go.Maps Go.ChangeShapes
set_option linter.unusedVariables false
set_option linter.unusedSimpArgs false

/-- What a book is for a key: as it was, or with room made for it. -/
def roomB (S : Bk) (k : Ky) : Bk := if hasL S.L k then S else entB S
def hitC (S : Bk) (k : Ky) : Int := (if hasL S.L k then cntL S.L k else 0) + 1
def hitS (S : Bk) (k : Ky) : Int := if hasL S.L k then sncL S.L k else S.ent + 1
/-- What Hit makes of a book, and its answer. -/
def hitB (S : Bk) (k : Ky) : Bk × Bool :=
  if k ∈ S.O then (S, false) else ({ roomB S k with L := putL (roomB S k).L k (if hitC S k = S.thr then 0 else hitC S k) (hitS S k) }, decide (hitC S k = S.thr))
theorem set_at20 {W : World} {k : Nat} {u0 u1 v : Value} {t : TypeId} {z : Nat × Nat} (h : W.heap[k]? = some (.cells #[u0, u1] t z)) : (W.setCell ⟨k, 0, none⟩ v).heap[k]? = some (.cells #[v, u1] t z) := by simp [World.setCell, Array.getElem?_modify, h]
/-- What the way to the count has come to. -/
structure Has (S S1 : Bk) (k : Ky) (c0 s0 : Int) : Prop where
  room : roomB S k = S1
  c : hitC S k = c0 + 1
  s : hitS S k = s0
theorem hit_any0 {S S1 : Bk} {k : Ky} {c0 s0 : Int} (hno : k ∉ S.O) (h : Has S S1 k c0 s0) : hitB S k = ({ S1 with L := putL S1.L k (if c0 + 1 = S.thr then 0 else c0 + 1) s0 }, decide (c0 + 1 = S.thr)) := by
  unfold hitB
  rw [if_neg hno, h.room, h.c, h.s]
theorem hit_full {S S1 : Bk} {k : Ky} {c0 s0 : Int} (hno : k ∉ S.O) (h : Has S S1 k c0 s0) (hf : c0 + 1 = S.thr) : (hitB S k).1 = { S1 with L := putL S1.L k 0 s0 } := by rw [hit_any0 hno h, if_pos hf]
theorem hit_full2 {S S1 : Bk} {k : Ky} {c0 s0 : Int} (hno : k ∉ S.O) (h : Has S S1 k c0 s0) (hf : c0 + 1 = S.thr) : (hitB S k).2 = true := by rw [hit_any0 hno h]; simp [hf]
theorem hit_less {S S1 : Bk} {k : Ky} {c0 s0 : Int} (hno : k ∉ S.O) (h : Has S S1 k c0 s0) (hf : c0 + 1 ≠ S.thr) : (hitB S k).1 = { S1 with L := putL S1.L k (c0 + 1) s0 } := by rw [hit_any0 hno h, if_neg hf]
theorem hit_less2 {S S1 : Bk} {k : Ky} {c0 s0 : Int} (hno : k ∉ S.O) (h : Has S S1 k c0 s0) (hf : c0 + 1 ≠ S.thr) : (hitB S k).2 = false := by rw [hit_any0 hno h]; simp [hf]
theorem cnt_ok {S : Bk} (h : Ok S) (k : Ky) : 0 ≤ cntL S.L k ∧ cntL S.L k < S.thr := by
  unfold cntL
  cases hr : rowOf S.L k with
  | none => have := h.thr; simp; omega
  | some r => have := h.cnt r (mem_of_row hr).1; simpa using this
set_option maxRecDepth 100000 in
set_option maxHeartbeats 2000000 in
theorem hit_any {w : World} {b mb bb : Nat} {S : Bk} (h : BA w b mb bb S) (hok : Ok S) (he : S.ent ≤ 1000000000) {k : Ky} (hk : kw k) : Calls Try.prog 16 #[.pointer (some ⟨b, 0, none⟩), .agg (kc k)] w fun e w' => e = .returned (.bool (hitB S k).2) ∧ Fr [b, mb] w w' ∧ BA w' b mb bb (hitB S k).1 := by
  obtain ⟨W, hW⟩ : ∃ W, W = w.alloc (.cells (kc k) 28) := ⟨_, rfl⟩
  have F : Fr [] w W := by rw [hW]; exact (Fr.refl [] w).alloc _
  have hb : BA W b mb bb S := by rw [hW]; exact h.box _
  have kW : W.heap[w.heap.size]? = some (.cells (kc k) 28 (0, 0)) := by rw [hW]; exact heap_alloc_new _ _
  have HBS : Hid (b < w.heap.size) := (Array.getElem?_eq_some_iff.1 h.blk).1
  have HMS : Hid (mb < w.heap.size) := h.cm.lt
  have HBBS : Hid (bb < w.heap.size) := h.bm.lt
  have C := alive_any hb
  have CB := banned_any hb hk
  have HF0 : Hid (Fr [] w W) := F
  have HB0 : Hid (BA W b mb bb S) := hb
  have KW : Hid _ := kW
  have hH : Hid (W = _) := hW
  have HOK : Hid (Ok S) := hok
  have HEN : Hid (S.ent ≤ 1000000000) := he
  clear hW F hb kW h hok he
  go_enter Try.func16, Try.ntmps16
  go_wp2_with fail
  rw [← hH.out]
  refine C.mono ?_
  rintro e w' ⟨rfl, hw⟩
  rw [hw]
  clear hw C w'
  obtain ⟨x0, x1, x2, x3, x4, x5, x6, x7, x8, x9, hkc⟩ := kc_ten k
  have m0 : W.cell? ⟨w.heap.size, 0, none⟩ = some (.int .i64 x0) := at_cells KW.out 0 (by rw [hkc]; rfl)
  have m1 : W.cell? ⟨w.heap.size, 1, none⟩ = some (.int .i64 x1) := at_cells KW.out 1 (by rw [hkc]; rfl)
  have m2 : W.cell? ⟨w.heap.size, 2, none⟩ = some (.int .i64 x2) := at_cells KW.out 2 (by rw [hkc]; rfl)
  have m3 : W.cell? ⟨w.heap.size, 3, none⟩ = some (.int .i64 x3) := at_cells KW.out 3 (by rw [hkc]; rfl)
  have m4 : W.cell? ⟨w.heap.size, 4, none⟩ = some (.int .i64 x4) := at_cells KW.out 4 (by rw [hkc]; rfl)
  have m5 : W.cell? ⟨w.heap.size, 5, none⟩ = some (.int .i64 x5) := at_cells KW.out 5 (by rw [hkc]; rfl)
  have m6 : W.cell? ⟨w.heap.size, 6, none⟩ = some (.int .i64 x6) := at_cells KW.out 6 (by rw [hkc]; rfl)
  have m7 : W.cell? ⟨w.heap.size, 7, none⟩ = some (.int .i64 x7) := at_cells KW.out 7 (by rw [hkc]; rfl)
  have m8 : W.cell? ⟨w.heap.size, 8, none⟩ = some (.int .i64 x8) := at_cells KW.out 8 (by rw [hkc]; rfl)
  have m9 : W.cell? ⟨w.heap.size, 9, none⟩ = some (.int .i64 x9) := at_cells KW.out 9 (by rw [hkc]; rfl)
  rw [hkc] at CB
  clear hkc
  go_wp2_with fail
  refine CB.mono ?_
  rintro e Y ⟨rfl, fY⟩
  have FY : Hid (Fr [] W Y) := fY
  clear CB fY m0 m1 m2 m3 m4 m5 m6 m7 m8 m9
  by_cases hno : k ∈ S.O
  · have HNO : Hid (k ∈ S.O) := hno
    rw [decide_eq_true hno]
    clear hno
    go_wp2
    go_ret
    refine ⟨by rw [hitB, if_pos HNO.out]; rfl, (HF0.out.trans FY.out).sub (by simp), ?_⟩
    unfold hitB
    rw [if_pos HNO.out]
    exact HB0.out.fr FY.out (by simp) (by simp) (by simp)
  · have HNO : Hid (k ∉ S.O) := hno
    rw [decide_eq_false hno]
    clear hno
    go_wp2_with fail
    refine reg16a (k := k) (n := cntL S.L k) (s := sncL S.L k) (hs := hasL S.L k) (mb := mb) (kb := w.heap.size) ?_ ?_ ?_ ?_
    · intro w' f; exact (FY.out.trans f).cell1 (at_cells HB0.out.blk 1 rfl) (by simp)
    · intro w' f j v hv
      exact at_cells (((FY.out.trans f).block _ (Array.getElem?_eq_some_iff.1 KW.out).1 (by simp)).trans KW.out) (0 + j) (by simpa using hv)
    · intro w' f
      exact (HB0.out.cm.fr (FY.out.trans f) (by simp)).lookOk hk
    intro X2 tb f2 bA hnb
    have F2 : Hid (Fr [] W X2) := FY.out.trans f2
    have T2 : Hid _ := bA
    have HTB : Hid (w.heap.size < tb) := by
      have h1 := (Array.getElem?_eq_some_iff.1 KW.out).1
      have h2 := FY.out.size
      unfold Hid
      omega
    have HCO : Hid _ := cnt_ok HOK.out k
    clear f2 bA hnb hH FY
    cases hh : hasL S.L k with
    | true =>
      have HHAS : Hid (Has S S k (cntL S.L k) (sncL S.L k)) := ⟨by unfold roomB; rw [if_pos hh], by unfold hitC; rw [if_pos hh], by unfold hitS; rw [if_pos hh]⟩
      obtain ⟨X4, hX4⟩ : ∃ X4, X4 = X2 := ⟨_, rfl⟩
      obtain ⟨S1, hS1⟩ : ∃ S1, S1 = S := ⟨_, rfl⟩
      have HB4 : Hid (BA X4 b mb bb S1) := by rw [hX4, hS1]; exact HB0.out.fr F2.out (by simp) (by simp) (by simp)
      have K4 : Hid (X4.heap[w.heap.size]? = some (.cells (kc k) 28 (0, 0))) := by rw [hX4]; exact (F2.out.block _ (Array.getElem?_eq_some_iff.1 KW.out).1 (by simp)).trans KW.out
      have F4 : Hid (Fr [b, mb] w X4) := by rw [hX4]; exact (HF0.out.trans F2.out).sub (by simp)
      have T4 : Hid (X4.heap[tb]? = some (.cells #[.int .i64 (cntL S.L k), .int .i64 (sncL S.L k)] 60 (0, 0))) := by rw [hX4]; exact T2.out
      have HTH : Hid (S1.thr = S.thr) := by rw [hS1]; rfl
      have HL1 : Hid (S1.L.length ≤ 100000) := by rw [hS1]; have := HOK.out.len; unfold Hid; omega
      have HHAS : Hid (Has S S1 k (cntL S.L k) (sncL S.L k)) := by rw [hS1]; exact HHAS.out
      obtain ⟨hc1, hc2⟩ := HCO.out
      have hc3 : cntL S.L k + 1 ≤ 9223372036854775807 := by have := HOK.out.thr; omega
      have HX4 : Hid (X4 = X2) := hX4
      rw [← hX4]
      clear hX4 hS1 hh F2 T2 KW HB0 HF0 HCO HX4
      generalize cntL S.L k = c0 at *
      generalize sncL S.L k = s0 at *
      go_upto_region 6 with (fail)

      -- from here on: the tally's block tb holds c0 and s0, the book is S1
      have HG : Hid (∀ Z : World, Fr [tb] X4 Z → BA Z b mb bb S1 ∧ Z.heap[w.heap.size]? = some (.cells (kc k) 28 (0, 0)) ∧ Fr [b, mb] w Z) := by
        intro Z f
        have h1 := HTB.out
        have h2 := HBS.out
        have h3 := HMS.out
        have h4 := HBBS.out
        exact ⟨HB4.out.fr f (by simp; omega) (by simp; omega) (by simp; omega), (f.block _ (Array.getElem?_eq_some_iff.1 K4.out).1 (by simp; omega)).trans K4.out, F4.out.over f (fun i hi => .inr (by simp at hi; omega))⟩
      obtain ⟨X5, hX5⟩ : ∃ X5, X5 = X4.setCell ⟨tb, 0, none⟩ (.int .i64 (c0 + 1)) := ⟨_, rfl⟩
      have F5 : Hid (Fr [tb] X4 X5) := by rw [hX5]; exact (Fr.refl _ _).setCell (.inl (by simp)) _
      have T5 : X5.heap[tb]? = some (.cells #[.int .i64 (c0 + 1), .int .i64 s0] 60 (0, 0)) := by rw [hX5]; exact set_at20 T4.out
      have t40 : X4.cell? ⟨tb, 0, none⟩ = some (.int .i64 c0) := at_cells T4.out 0 rfl
      have t4f : X4.frozen? ⟨tb, 0, none⟩ = false := frozen4 T4.out 0
      have t50 : X5.cell? ⟨tb, 0, none⟩ = some (.int .i64 (c0 + 1)) := at_cells T5 0 rfl
      have t5f : X5.frozen? ⟨tb, 0, none⟩ = false := frozen4 T5 0
      have t5t : X5.cell? ⟨b, 0, none⟩ = some (.int .i64 S1.thr) := at_cells ((HG.out X5 F5.out).1.blk) 0 rfl
      have HT5 : Hid _ := T5
      have HX5 : Hid (X5 = _) := hX5
      clear T5 hX5
      have hthr : S1.thr = S.thr := HTH.out
      rw [hthr] at t5t
      clear hthr
      go_upto_region 7 with (fail)
      rw [← HX5.out]
      clear HX5 t40 t4f
      by_cases hf : c0 + 1 = S.thr
      · have hf1 : (c0 + 1 == S.thr) = true := by simp [hf]
        have HF : Hid (c0 + 1 = S.thr) := hf
        clear hf
        go_quiet (fail)
        have F6 : Hid (Fr [tb] X4 (X5.drewN nq)) := F5.out.drewN _
        have T6 : Hid ((X5.drewN nq).heap[tb]? = some (.cells #[.int .i64 (c0 + 1), .int .i64 s0] 60 (0, 0))) := HT5.out
        have t60 : (X5.drewN nq).cell? ⟨tb, 0, none⟩ = some (.int .i64 (c0 + 1)) := t50
        have t6f : (X5.drewN nq).frozen? ⟨tb, 0, none⟩ = false := t5f
        generalize X5.drewN nq = Y5 at F6 T6 t60 t6f ⊢
        go_wp2_with fail
        refine reg16b (k := k) (n := 0) (s := s0) (L := S1.L) (mb := mb) (tb := tb) (kb := w.heap.size) ?_ ?_ ?_ (HG.out _ ?_).1.cm HL1.out hk ?_
        · intro w' f; exact f.cell1 (at_cells (HG.out _ ((F6.out.setCell (p := ⟨tb, 0, none⟩) (.inl (by simp)) (.int .i64 0)))).1.blk 1 rfl) (by simpa using (HG.out X5 F5.out).1.cm.noCells (HG.out X5 F5.out).1.blk)
        · intro w' f j v hv
          have h3 := HMS.out
          exact at_cells ((f.block _ (Array.getElem?_eq_some_iff.1 (HG.out _ (F6.out.setCell (p := ⟨tb, 0, none⟩) (.inl (by simp)) (.int .i64 0))).2.1).1 (by simp; omega)).trans (HG.out _ (F6.out.setCell (p := ⟨tb, 0, none⟩) (.inl (by simp)) (.int .i64 0))).2.1) (0 + j) (by simpa using hv)
        · intro w' f j v hv
          have h1 := HTB.out
          have h3 := HMS.out
          have hz : _ := set_at20 (v := .int .i64 0) T6.out
          exact at_cells ((f.block _ (Array.getElem?_eq_some_iff.1 hz).1 (by simp; omega)).trans hz) (0 + j) (by simpa using hv)
        · exact (F6.out.setCell (p := ⟨tb, 0, none⟩) (.inl (by simp)) (.int .i64 0))
        · intro X6 f6 c6
          have HE : Hid (Fr [b, mb] w X6 ∧ BA X6 b mb bb (hitB S k).1) := by
            have hz := HG.out _ (F6.out.setCell (p := ⟨tb, 0, none⟩) (.inl (by simp)) (.int .i64 0))
            have hzb := hz.1
            refine ⟨hz.2.2.trans (f6.sub (T := [b, mb]) (by simp)), ?_⟩
            rw [hit_full HNO.out HHAS.out HF.out]
            exact ⟨(f6.block _ (Array.getElem?_eq_some_iff.1 hzb.blk).1 (by simpa using hzb.cm.noCells hzb.blk)).trans hzb.blk, c6, hzb.bm.fr f6 (by simpa using hzb.ne.symm), hzb.ne, hzb.thr⟩
          have HE2 : Hid ((hitB S k).2 = true) := hit_full2 HNO.out HHAS.out HF.out
          clear f6 c6
          go_wp2
          go_ret
          exact ⟨by rw [HE2.out]; rfl, HE.out⟩
      · have hf1 : (c0 + 1 == S.thr) = false := by simp [hf]
        have HF : Hid (c0 + 1 ≠ S.thr) := hf
        clear hf
        go_quiet (fail)
        have F6 : Hid (Fr [tb] X4 (X5.drewN nq)) := F5.out.drewN _
        have T6 : Hid ((X5.drewN nq).heap[tb]? = some (.cells #[.int .i64 (c0 + 1), .int .i64 s0] 60 (0, 0))) := HT5.out
        have t60 : (X5.drewN nq).cell? ⟨tb, 0, none⟩ = some (.int .i64 (c0 + 1)) := t50
        have t6f : (X5.drewN nq).frozen? ⟨tb, 0, none⟩ = false := t5f
        generalize X5.drewN nq = Y5 at F6 T6 t60 t6f ⊢
        go_wp2_with fail
        refine reg16b (k := k) (n := c0 + 1) (s := s0) (L := S1.L) (mb := mb) (tb := tb) (kb := w.heap.size) ?_ ?_ ?_ (HG.out _ ?_).1.cm HL1.out hk ?_
        · intro w' f; exact f.cell1 (at_cells (HG.out _ (F6.out)).1.blk 1 rfl) (by simpa using (HG.out X5 F5.out).1.cm.noCells (HG.out X5 F5.out).1.blk)
        · intro w' f j v hv
          have h3 := HMS.out
          exact at_cells ((f.block _ (Array.getElem?_eq_some_iff.1 (HG.out _ F6.out).2.1).1 (by simp; omega)).trans (HG.out _ F6.out).2.1) (0 + j) (by simpa using hv)
        · intro w' f j v hv
          have h1 := HTB.out
          have h3 := HMS.out
          have hz := T6.out
          exact at_cells ((f.block _ (Array.getElem?_eq_some_iff.1 hz).1 (by simp; omega)).trans hz) (0 + j) (by simpa using hv)
        · exact F6.out
        · intro X6 f6 c6
          have HE : Hid (Fr [b, mb] w X6 ∧ BA X6 b mb bb (hitB S k).1) := by
            have hz := HG.out _ F6.out
            have hzb := hz.1
            refine ⟨hz.2.2.trans (f6.sub (T := [b, mb]) (by simp)), ?_⟩
            rw [hit_less HNO.out HHAS.out HF.out]
            exact ⟨(f6.block _ (Array.getElem?_eq_some_iff.1 hzb.blk).1 (by simpa using hzb.cm.noCells hzb.blk)).trans hzb.blk, c6, hzb.bm.fr f6 (by simpa using hzb.ne.symm), hzb.ne, hzb.thr⟩
          have HE2 : Hid ((hitB S k).2 = false) := hit_less2 HNO.out HHAS.out HF.out
          clear f6 c6
          go_wp2
          go_ret
          exact ⟨by rw [HE2.out]; rfl, HE.out⟩
    | false =>
      have hr0 : rowOf S.L k = none := by unfold hasL at hh; simpa using hh
      have HHAS : Hid (Has S (entB S) k 0 (S.ent + 1)) := ⟨by unfold roomB; rw [hh]; rfl, by unfold hitC; rw [hh]; rfl, by unfold hitS; rw [hh]; rfl⟩
      have CE := enter_any (HB0.out.fr F2.out (by simp) (by simp) (by simp)) HOK.out HEN.out
      unfold tv at CE
      clear hr0
      go_wp2_with fail
      refine CE.mono ?_
      rintro e X3 ⟨rfl, f3, b3⟩
      have T3 : X3.heap[tb]? = some (.cells #[.int .i64 (cntL S.L k), .int .i64 (sncL S.L k)] 60 (0, 0)) := (f3.block _ (Array.getElem?_eq_some_iff.1 T2.out).1 (by have h1 := HTB.out; have h2 := HBS.out; have h3 := HMS.out; simp; omega)).trans T2.out
      obtain ⟨X4, hX4⟩ : ∃ X4, X4 = X3.setRow tb #[.int .i64 0, .int .i64 (S.ent + 1)] := ⟨_, rfl⟩
      have g4 : Fr [tb] X3 X4 := by rw [hX4]; exact (Fr.refl _ _).setRow (.inl (by simp)) _
      have F3 : Fr [b, mb] w X3 := ((HF0.out.trans F2.out).sub (by simp)).trans f3
      obtain ⟨S1, hS1⟩ : ∃ S1, S1 = entB S := ⟨_, rfl⟩
      have q1 : w.heap.size < tb := HTB.out
      have q2 : b < w.heap.size := HBS.out
      have q3 : mb < w.heap.size := HMS.out
      have q4 : bb < w.heap.size := HBBS.out
      have HB4 : Hid (BA X4 b mb bb S1) := by rw [hS1]; exact b3.fr g4 (by simp; omega) (by simp; omega) (by simp; omega)
      have K3 : X3.heap[w.heap.size]? = some (.cells (kc k) 28 (0, 0)) := (f3.block _ (by have := F2.out.size; have := (Array.getElem?_eq_some_iff.1 KW.out).1; omega) (by simp; omega)).trans ((F2.out.block _ (Array.getElem?_eq_some_iff.1 KW.out).1 (by simp)).trans KW.out)
      have K4 : Hid (X4.heap[w.heap.size]? = some (.cells (kc k) 28 (0, 0))) := (g4.block _ (Array.getElem?_eq_some_iff.1 K3).1 (by simp; omega)).trans K3
      have F4 : Hid (Fr [b, mb] w X4) := F3.over g4 (fun i hi => .inr (by simp at hi; omega))
      have T4 : Hid (X4.heap[tb]? = some (.cells #[.int .i64 0, .int .i64 (S.ent + 1)] 60 (0, 0))) := by rw [hX4]; exact row_new T3
      have HTH : Hid (S1.thr = S.thr) := by rw [hS1]; rfl
      have HL1 : Hid (S1.L.length ≤ 100000) := by
        rw [hS1]
        have := HOK.out.len
        unfold Hid entB
        simp only
        split
        · have := List.length_eraseIdx_le S.L (lsI S.L S.L.length); omega
        · omega
      have HHAS : Hid (Has S S1 k 0 (S.ent + 1)) := by rw [hS1]; exact HHAS.out
      have HX4 : Hid (X3.setRow tb #[.int .i64 0, .int .i64 (S.ent + 1)] = X4) := hX4.symm
      clear hX4 hS1 hh F2 T2 KW HB0 HF0 HCO CE f3 b3 g4 F3 K3 q1 q2 q3 q4
      go_upto_region 6 with (refine wpList_store_row rfl 60 (.tmp 5) (.tmp 28) rfl tb #[.int .i64 0, .int .i64 (S.ent + 1)] rfl rfl 60 _ T3 (by rw [info60]; rfl) rfl (by simp [Value.oneCell']) ?_; rw [HX4.out])
      clear T3 HX4
      obtain ⟨c0, hc0⟩ : ∃ c0 : Int, c0 = 0 := ⟨_, rfl⟩
      rw [← hc0] at HHAS T4
      have hc1 : 0 ≤ c0 := by omega
      have hc3 : c0 + 1 ≤ 9223372036854775807 := by omega
      clear hc0
      generalize S.ent + 1 = s0 at *
      try simp only [Act.put]

      -- from here on: the tally's block tb holds c0 and s0, the book is S1
      have HG : Hid (∀ Z : World, Fr [tb] X4 Z → BA Z b mb bb S1 ∧ Z.heap[w.heap.size]? = some (.cells (kc k) 28 (0, 0)) ∧ Fr [b, mb] w Z) := by
        intro Z f
        have h1 := HTB.out
        have h2 := HBS.out
        have h3 := HMS.out
        have h4 := HBBS.out
        exact ⟨HB4.out.fr f (by simp; omega) (by simp; omega) (by simp; omega), (f.block _ (Array.getElem?_eq_some_iff.1 K4.out).1 (by simp; omega)).trans K4.out, F4.out.over f (fun i hi => .inr (by simp at hi; omega))⟩
      obtain ⟨X5, hX5⟩ : ∃ X5, X5 = X4.setCell ⟨tb, 0, none⟩ (.int .i64 (c0 + 1)) := ⟨_, rfl⟩
      have F5 : Hid (Fr [tb] X4 X5) := by rw [hX5]; exact (Fr.refl _ _).setCell (.inl (by simp)) _
      have T5 : X5.heap[tb]? = some (.cells #[.int .i64 (c0 + 1), .int .i64 s0] 60 (0, 0)) := by rw [hX5]; exact set_at20 T4.out
      have t40 : X4.cell? ⟨tb, 0, none⟩ = some (.int .i64 c0) := at_cells T4.out 0 rfl
      have t4f : X4.frozen? ⟨tb, 0, none⟩ = false := frozen4 T4.out 0
      have t50 : X5.cell? ⟨tb, 0, none⟩ = some (.int .i64 (c0 + 1)) := at_cells T5 0 rfl
      have t5f : X5.frozen? ⟨tb, 0, none⟩ = false := frozen4 T5 0
      have t5t : X5.cell? ⟨b, 0, none⟩ = some (.int .i64 S1.thr) := at_cells ((HG.out X5 F5.out).1.blk) 0 rfl
      have HT5 : Hid _ := T5
      have HX5 : Hid (X5 = _) := hX5
      clear T5 hX5
      have hthr : S1.thr = S.thr := HTH.out
      rw [hthr] at t5t
      clear hthr
      go_upto_region 7 with (fail)
      rw [← HX5.out]
      clear HX5 t40 t4f
      by_cases hf : c0 + 1 = S.thr
      · have hf1 : (c0 + 1 == S.thr) = true := by simp [hf]
        have HF : Hid (c0 + 1 = S.thr) := hf
        clear hf
        go_quiet (fail)
        have F6 : Hid (Fr [tb] X4 (X5.drewN nq)) := F5.out.drewN _
        have T6 : Hid ((X5.drewN nq).heap[tb]? = some (.cells #[.int .i64 (c0 + 1), .int .i64 s0] 60 (0, 0))) := HT5.out
        have t60 : (X5.drewN nq).cell? ⟨tb, 0, none⟩ = some (.int .i64 (c0 + 1)) := t50
        have t6f : (X5.drewN nq).frozen? ⟨tb, 0, none⟩ = false := t5f
        generalize X5.drewN nq = Y5 at F6 T6 t60 t6f ⊢
        go_wp2_with fail
        refine reg16b (k := k) (n := 0) (s := s0) (L := S1.L) (mb := mb) (tb := tb) (kb := w.heap.size) ?_ ?_ ?_ (HG.out _ ?_).1.cm HL1.out hk ?_
        · intro w' f; exact f.cell1 (at_cells (HG.out _ ((F6.out.setCell (p := ⟨tb, 0, none⟩) (.inl (by simp)) (.int .i64 0)))).1.blk 1 rfl) (by simpa using (HG.out X5 F5.out).1.cm.noCells (HG.out X5 F5.out).1.blk)
        · intro w' f j v hv
          have h3 := HMS.out
          exact at_cells ((f.block _ (Array.getElem?_eq_some_iff.1 (HG.out _ (F6.out.setCell (p := ⟨tb, 0, none⟩) (.inl (by simp)) (.int .i64 0))).2.1).1 (by simp; omega)).trans (HG.out _ (F6.out.setCell (p := ⟨tb, 0, none⟩) (.inl (by simp)) (.int .i64 0))).2.1) (0 + j) (by simpa using hv)
        · intro w' f j v hv
          have h1 := HTB.out
          have h3 := HMS.out
          have hz : _ := set_at20 (v := .int .i64 0) T6.out
          exact at_cells ((f.block _ (Array.getElem?_eq_some_iff.1 hz).1 (by simp; omega)).trans hz) (0 + j) (by simpa using hv)
        · exact (F6.out.setCell (p := ⟨tb, 0, none⟩) (.inl (by simp)) (.int .i64 0))
        · intro X6 f6 c6
          have HE : Hid (Fr [b, mb] w X6 ∧ BA X6 b mb bb (hitB S k).1) := by
            have hz := HG.out _ (F6.out.setCell (p := ⟨tb, 0, none⟩) (.inl (by simp)) (.int .i64 0))
            have hzb := hz.1
            refine ⟨hz.2.2.trans (f6.sub (T := [b, mb]) (by simp)), ?_⟩
            rw [hit_full HNO.out HHAS.out HF.out]
            exact ⟨(f6.block _ (Array.getElem?_eq_some_iff.1 hzb.blk).1 (by simpa using hzb.cm.noCells hzb.blk)).trans hzb.blk, c6, hzb.bm.fr f6 (by simpa using hzb.ne.symm), hzb.ne, hzb.thr⟩
          have HE2 : Hid ((hitB S k).2 = true) := hit_full2 HNO.out HHAS.out HF.out
          clear f6 c6
          go_wp2
          go_ret
          exact ⟨by rw [HE2.out]; rfl, HE.out⟩
      · have hf1 : (c0 + 1 == S.thr) = false := by simp [hf]
        have HF : Hid (c0 + 1 ≠ S.thr) := hf
        clear hf
        go_quiet (fail)
        have F6 : Hid (Fr [tb] X4 (X5.drewN nq)) := F5.out.drewN _
        have T6 : Hid ((X5.drewN nq).heap[tb]? = some (.cells #[.int .i64 (c0 + 1), .int .i64 s0] 60 (0, 0))) := HT5.out
        have t60 : (X5.drewN nq).cell? ⟨tb, 0, none⟩ = some (.int .i64 (c0 + 1)) := t50
        have t6f : (X5.drewN nq).frozen? ⟨tb, 0, none⟩ = false := t5f
        generalize X5.drewN nq = Y5 at F6 T6 t60 t6f ⊢
        go_wp2_with fail
        refine reg16b (k := k) (n := c0 + 1) (s := s0) (L := S1.L) (mb := mb) (tb := tb) (kb := w.heap.size) ?_ ?_ ?_ (HG.out _ ?_).1.cm HL1.out hk ?_
        · intro w' f; exact f.cell1 (at_cells (HG.out _ (F6.out)).1.blk 1 rfl) (by simpa using (HG.out X5 F5.out).1.cm.noCells (HG.out X5 F5.out).1.blk)
        · intro w' f j v hv
          have h3 := HMS.out
          exact at_cells ((f.block _ (Array.getElem?_eq_some_iff.1 (HG.out _ F6.out).2.1).1 (by simp; omega)).trans (HG.out _ F6.out).2.1) (0 + j) (by simpa using hv)
        · intro w' f j v hv
          have h1 := HTB.out
          have h3 := HMS.out
          have hz := T6.out
          exact at_cells ((f.block _ (Array.getElem?_eq_some_iff.1 hz).1 (by simp; omega)).trans hz) (0 + j) (by simpa using hv)
        · exact F6.out
        · intro X6 f6 c6
          have HE : Hid (Fr [b, mb] w X6 ∧ BA X6 b mb bb (hitB S k).1) := by
            have hz := HG.out _ F6.out
            have hzb := hz.1
            refine ⟨hz.2.2.trans (f6.sub (T := [b, mb]) (by simp)), ?_⟩
            rw [hit_less HNO.out HHAS.out HF.out]
            exact ⟨(f6.block _ (Array.getElem?_eq_some_iff.1 hzb.blk).1 (by simpa using hzb.cm.noCells hzb.blk)).trans hzb.blk, c6, hzb.bm.fr f6 (by simpa using hzb.ne.symm), hzb.ne, hzb.thr⟩
          have HE2 : Hid ((hitB S k).2 = false) := hit_less2 HNO.out HHAS.out HF.out
          clear f6 c6
          go_wp2
          go_ret
          exact ⟨by rw [HE2.out]; rfl, HE.out⟩

end Go.Proofs.Ytjeddgjndpdhoaa
