/-
  What an instruction reads and writes of the registers that count, by the program; conditions: the instruction lies as told, the tables as the program's text lays them.
-/
import Derived.Test.YtajdnakpljgkpaaDoorLvA
namespace Go.Proofs.YtajdnakpljgkpaaDoor
open Go.RowKit
set_option linter.unusedVariables false
set_option linter.unusedSimpArgs false

def cntB (rs r : Int) : Bool := decide (cnt rs r)
set_option maxRecDepth 100000 in
theorem counts_any (r rs : Int) (w : World) : Calls Tryd.prog 68 #[.int .i64 r, .int .i64 rs] w fun e w' => e = .returned (.bool (cntB rs r)) ∧ w' = w := by
  have HC : ∀ b : Bool, (b = true ↔ cnt rs r) → cntB rs r = b := fun b hb => by
    unfold cntB
    cases b with
    | true => simp [hb.1 rfl]
    | false => simp; exact fun h => by simpa using hb.2 h
  by_cases h0 : 0 ≤ r
  · by_cases h1 : rs ≤ 1000
    · by_cases h2 : r < rs
      · have HE : Hid (cntB rs r = true) := HC true ⟨fun _ => ⟨h0, h2, by omega⟩, fun _ => rfl⟩
        clear HC
        go_enter Tryd.func68, Tryd.ntmps68
        go_wp2
        go_ret
        exact ⟨by rw [HE.out]; rfl, rfl⟩
      · have HE : Hid (cntB rs r = false) := HC false ⟨(fun h => by cases h), fun h => absurd h.2.1 h2⟩
        clear HC
        go_enter Tryd.func68, Tryd.ntmps68
        go_wp2
        go_ret
        exact ⟨by rw [HE.out]; rfl, rfl⟩
    · by_cases h2 : r < 1000
      · have HE : Hid (cntB rs r = true) := HC true ⟨fun _ => ⟨h0, by omega, by omega⟩, fun _ => rfl⟩
        clear HC
        go_enter Tryd.func68, Tryd.ntmps68
        go_wp2
        go_ret
        exact ⟨by rw [HE.out]; rfl, rfl⟩
      · have HE : Hid (cntB rs r = false) := HC false ⟨(fun h => by cases h), fun h => absurd h.2.2 h2⟩
        clear HC
        go_enter Tryd.func68, Tryd.ntmps68
        go_wp2
        go_ret
        exact ⟨by rw [HE.out]; rfl, rfl⟩
  · have HE : Hid (cntB rs r = false) := HC false ⟨(fun h => by cases h), fun h => absurd h.1 h0⟩
    clear HC
    have hd : decide (0 ≤ r) = false := by simp; omega
    go_enter Tryd.func68, Tryd.ntmps68
    go_wp2
    go_ret
    exact ⟨by rw [HE.out]; rfl, rfl⟩

def adS (rs : Int) (s : Nat → Nat) (r : Int) : Nat → Nat := if cntB rs r = true then addS s r.toNat else s
def rdS (rs : Int) (l : List Int) : Nat → Nat := l.foldl (adS rs) (fun _ => 0)
theorem okS.ad {s : Nat → Nat} (h : okS s) (rs r : Int) : okS (adS rs s r) := by
  unfold adS
  split
  · exact h.add _
  · exact h
theorem fold_ok (rs : Int) : ∀ (l : List Int) (s : Nat → Nat), okS s → okS (l.foldl (adS rs) s)
  | [], s, h => h
  | r :: l, s, h => fold_ok rs l _ (h.ad rs r)
theorem rdS_ok (rs : Int) (l : List Int) : okS (rdS rs l) := fold_ok rs l _ okS.zero
theorem fold_has (rs : Int) : ∀ (l : List Int) (s : Nat → Nat) (r : Nat), hasS (l.foldl (adS rs) s) r = true ↔ hasS s r = true ∨ ((r : Int) ∈ l ∧ cnt rs r)
  | [], s, r => by simp
  | q :: l, s, r => by
    rw [List.foldl_cons, fold_has rs l]
    unfold adS cntB
    by_cases hc : cnt rs q
    · simp only [hc, decide_true, if_true, hasS_add]
      obtain ⟨n, rfl⟩ := Int.eq_ofNat_of_zero_le hc.1
      simp only [Int.toNat_natCast, Bool.or_eq_true, decide_eq_true_eq, List.mem_cons]
      constructor
      · rintro ((h | h) | h)
        · exact .inl h
        · subst h; exact .inr ⟨.inl rfl, hc⟩
        · exact .inr ⟨.inr h.1, h.2⟩
      · rintro (h | ⟨h | h, h2⟩)
        · exact .inl (.inl h)
        · exact .inl (.inr (by omega))
        · exact .inr ⟨h, h2⟩
    · simp only [hc, decide_false, Bool.false_eq_true, if_false, List.mem_cons]
      constructor
      · rintro (h | h)
        · exact .inl h
        · exact .inr ⟨.inr h.1, h.2⟩
      · rintro (h | ⟨h | h, h2⟩)
        · exact .inl h
        · exact absurd (h ▸ h2) hc
        · exact .inr ⟨h, h2⟩
theorem rdS_has (rs : Int) (l : List Int) (r : Nat) : hasS (rdS rs l) r = true ↔ (r : Int) ∈ l ∧ cnt rs r := by
  unfold rdS
  rw [fold_has, hasS_zero]
  simp
theorem rdS_take (rs : Int) (l : List Int) {p : Nat} {r : Int} (h : l[p]? = some r) : rdS rs (l.take (p + 1)) = adS rs (rdS rs (l.take p)) r := by
  unfold rdS
  rw [List.take_add_one, h]
  simp

set_option maxRecDepth 100000 in
set_option maxHeartbeats 4000000 in
theorem readBy_any (B : Nat) (x : In) (rs : Int) (w : World) (hx : InOk B w x) (hB : B ≤ w.heap.size) (hxl : x.l.length ≤ 8000000000000) (T : Tabs w) :
    Calls Tryd.prog 41 #[.agg x.arr, .int .i64 rs] w fun e w' => e = .returned (.agg (setA (rdS rs (rdL x)))) ∧ Fr [] w w' := by
  have f1 : Fr [] w (w.alloc (.cells x.arr 59)) := (Fr.refl _ _).alloc _
  have f2 : Fr [] (w.alloc (.cells x.arr 59)) ((w.alloc (.cells x.arr 59)).alloc (.cells zA 67)) := (Fr.refl _ _).alloc _
  have f3 : Fr [] ((w.alloc (.cells x.arr 59)).alloc (.cells zA 67)) (((w.alloc (.cells x.arr 59)).alloc (.cells zA 67)).alloc (.cells zA 67)) := (Fr.refl _ _).alloc _
  have b0 : (((w.alloc (.cells x.arr 59)).alloc (.cells zA 67)).alloc (.cells zA 67)).heap[w.heap.size]? = some (.cells x.arr 59 (0, 0)) := (f2.trans f3).at (heap_alloc_new w _) (by simp)
  have b1 : (((w.alloc (.cells x.arr 59)).alloc (.cells zA 67)).alloc (.cells zA 67)).heap[w.heap.size + 1]? = some (.cells zA 67 (0, 0)) := f3.at (blk2 w _ _) (by simp)
  have b2 : (((w.alloc (.cells x.arr 59)).alloc (.cells zA 67)).alloc (.cells zA 67)).heap[w.heap.size + 2]? = some (.cells zA 67 (0, 0)) := by
    have h := heap_alloc_new ((w.alloc (.cells x.arr 59)).alloc (.cells zA 67)) (.cells zA 67)
    simp only [World.size_alloc] at h
    exact h
  have F3 := (f1.trans f2).trans f3
  have CR := reads_any B x _ (hx.fr F3 (by simp)) (Nat.le_trans hB F3.size) hxl (T.fr F3 (by simp))
  have HZA : Hid (zA = setA (fun _ => 0)) := rfl
  rw [show regsL x (rT x.op) = rdL x from rfl] at CR
  have hlen : (rdL x).length ≤ 9000000000000 := by
    have := regsL_len x (rT x.op)
    have h1 := rowN_lt x.op
    have h2 := okLs_r _ h1
    unfold okLs at h2
    simp at h2
    have e : rT x.op = readsT.getD (rowN x.op) [] := rfl
    unfold rdL
    rw [e] at this ⊢
    simp only [List.getD_eq_getElem?_getD] at this ⊢
    generalize readsT[rowN x.op]?.getD [] = l at *
    have h3 : nL l * x.l.length ≤ 1 * x.l.length := Nat.mul_le_mul_right _ (by omega)
    omega
  generalize rdL x = RL at *
  clear f1 f2 f3 hx T
  unfold In.arr at *
  rw [zA_eq] at b0 b1 b2 F3 CR
  go_enter Tryd.func41, Tryd.ntmps41
  go_wp2_with fail
  with_reducible (refine CR.mono ?_)
  rintro e W ⟨v, rfl, ho, f4⟩
  obtain ⟨va, vc, rfl, hvc, hvn⟩ := ho.slice
  have B2 : W.heap[w.heap.size + 2]? = some (.cells (setA (rdS rs (RL.take 0))) 67 (0, 0)) := by
    have := f4.at b2 (by simp)
    rw [← zA_eq, HZA.out] at this
    simpa [rdS] using this
  have B1 := f4.at b1 (by simp)
  have KA : KAt W.heap.size W va RL := ho.kat
  have HF : Hid (Fr [] w W) := F3.trans f4
  have HS : Hid (w.heap.size + 2 < W.heap.size) := (Array.getElem?_eq_some_iff.1 B2).1
  have HB2 : Hid _ := B2
  clear b0 b1 b2 F3 f4 ho CR HZA B2
  have CC := fun q w' => counts_any q rs w'
  generalize hn : RL.length = n at *
  have HN : Hid (RL.length = n) := hn
  clear hn
  go_wp2
  go_loopw [11] (fun i wr => ∃ p : Nat, p ≤ n ∧ i = .int .i64 p ∧ wr.heap[w.heap.size + 2]? = some (.cells (setA (rdS rs (RL.take p))) 67 (0, 0)) ∧ Fr [w.heap.size + 2] W wr) (fun i _ => n - (intOf i).toNat)
  case atStart => exact ⟨0, by omega, rfl, HB2.out, Fr.refl _ _⟩
  case round =>
    obtain ⟨p, hp, rfl, Bp, fw⟩ := hrel
    by_cases hlt : p < n
    · have hx : RL[p]? = some (RL[p]'(by rw [HN.out]; exact hlt)) := List.getElem?_eq_getElem _
      generalize RL[p]'(by rw [HN.out]; exact hlt) = q at hx
      obtain ⟨b, o, rfl, hb, hc⟩ := KA p q hx
      have hne : b ≠ w.heap.size + 2 := by
        rintro rfl
        have := HB2.out
        unfold World.cell? at hc
        rw [this] at hc
        simp only [setA, setL] at hc
        rw [List.getElem?_toArray, List.getElem?_map] at hc
        cases h : (List.range 16)[o + p]? <;> simp [h] at hc
      have hc' := fw.cell1 hc (by simpa using hne)
      have HT : Hid _ := rdS_take rs RL hx
      have HBp : Hid _ := Bp
      have ok := rdS_ok rs (RL.take p)
      clear hc hx Bp
      go_wp2_with fail
      with_reducible (refine (CC q _).mono ?_)
      rintro e w1 ⟨rfl, rfl⟩
      by_cases hcn : cntB rs q = true
      · have hq0 : cnt rs q := of_decide_eq_true hcn
        have hq : 0 ≤ q ∧ q < 1000 := ⟨hq0.1, hq0.2.2⟩
        obtain ⟨m, rfl⟩ := Int.eq_ofNat_of_zero_le hq.1
        have CA := add_any _ m _ w1 ok (by omega) HBp.out
        have HA : Hid (rdS rs (RL.take (p + 1)) = addS (rdS rs (RL.take p)) m) := by unfold Hid; rw [HT.out, adS, if_pos hcn]; rfl
        rw [hcn]
        clear hcn HT hq0
        go_wp2_with fail
        with_reducible (refine CA.mono ?_)
        rintro e w2 ⟨rfl, B3, f3⟩
        have HB3 : Hid _ := B3
        have H3 : Hid (Fr [w.heap.size + 2] W w2) := fw.trans f3
        clear B3 f3 CA fw
        go_wp2
        refine ⟨⟨p + 1, hlt, by go_num, ?_, H3.out⟩, by simp [intOf]; omega⟩
        rw [HA.out]
        exact HB3.out
      · have hcf : cntB rs q = false := by simpa using hcn
        have HA : Hid (rdS rs (RL.take (p + 1)) = rdS rs (RL.take p)) := by unfold Hid; rw [HT.out, adS, if_neg hcn]
        rw [hcf]
        have H3 : Hid (Fr [w.heap.size + 2] W w1) := fw
        clear hcn HT hcf fw
        go_wp2
        refine ⟨⟨p + 1, hlt, by go_num, ?_, H3.out⟩, by simp [intOf]; omega⟩
        rw [HA.out]
        exact HBp.out
    · obtain rfl : p = n := by omega
      rw [show RL.take p = RL by rw [← HN.out]; simp] at Bp
      have Z0 := fw.at B1 (by simp)
      have HF' : Hid (Fr [] w wr) := ((HF.out.sub (T := [w.heap.size + 2]) (by simp)).trans fw).sub (fun k hk => .inr (by simp at hk; omega))
      have HZ' : Hid ((setA (rdS rs RL)).size = 16) := setA_size _
      have HO : Hid ((setA (rdS rs RL)).all (·.oneCell') = true) := setA_one _
      clear fw B1 KA CC
      generalize hA : setA (rdS rs RL) = A at *
      have HE : Hid _ := hA
      clear hA
      have R1 : (wr.setRow (w.heap.size + 1) A).heap[w.heap.size + 1]? = some (.cells A 67 (0, 0)) := row_new Z0
      go_wp2_with (first
        | refine wpList_load_row rfl 67 (.tmp 5) rfl (w.heap.size + 2) rfl 67 A (0, 0) (.array 16 65) Bp under67 rfl (by rw [HZ'.out]; exact info67) ?_
        | refine wpList_store_row rfl 67 (.tmp 4) (.tmp 21) rfl (w.heap.size + 1) A rfl rfl 67 _ Z0 (by rw [HZ'.out]; exact info67) (by rw [HZ'.out]; rfl) HO.out ?_)
      refine bodyPost_ret (results_cell_row rfl _ _ (w.heap.size + 1) 67 A (0, 0) (.array 16 65) rfl R1 under67 rfl (by rw [HZ'.out]; exact info67)) rfl ?_
      exact ⟨by rw [HE.out], HF'.out.setRow (.inr (by omega)) _⟩

/-- The register that is written, if it counts. -/
def wrB (rs : Int) (x : In) : Int := if cntB rs (wrI x) = true then wrI x else -1
set_option maxRecDepth 100000 in
set_option maxHeartbeats 4000000 in
theorem writtenBy_any (B : Nat) (x : In) (rs : Int) (w : World) (hx : InOk B w x) (hB : B ≤ w.heap.size) (hxl : x.l.length ≤ 8000000000000) (T : Tabs w) :
    Calls Tryd.prog 42 #[.agg x.arr, .int .i64 rs] w fun e w' => e = .returned (.int .i64 (wrB rs x)) ∧ Fr [] w w' := by
  have f1 : Fr [] w (w.alloc (.cells x.arr 59)) := (Fr.refl _ _).alloc _
  have CW := writes_any B x _ (hx.fr f1 (by simp)) (Nat.le_trans hB f1.size) hxl (T.fr f1 (by simp))
  rw [show wrL (regsL x (wT x.op)) = wrI x from rfl] at CW
  have HW : Hid (∀ b, cntB rs (wrI x) = b → wrB rs x = if b = true then wrI x else -1) := fun b h => by unfold wrB; rw [h]
  generalize wrB rs x = WB at *
  generalize wrI x = q at *
  have HF : Hid _ := f1
  have CC := fun q w' => counts_any q rs w'
  clear f1 hx T
  unfold In.arr at *
  go_enter Tryd.func42, Tryd.ntmps42
  go_wp2_with fail
  with_reducible (refine CW.mono ?_)
  rintro e W ⟨rfl, f4⟩
  have H4 : Hid (Fr [] w W) := HF.out.trans f4
  clear f4 HF CW
  go_wp2_with fail
  with_reducible (refine (CC q _).mono ?_)
  rintro e w1 ⟨rfl, rfl⟩
  cases hcn : cntB rs q with
  | true =>
    have HE : Hid (WB = q) := HW.out true hcn
    clear hcn HW
    go_wp2
    go_ret
    exact ⟨by rw [HE.out]; rfl, H4.out⟩
  | false =>
    have HE : Hid (WB = -1) := HW.out false hcn
    clear hcn HW
    go_wp2
    go_ret
    exact ⟨by rw [HE.out]; rfl, H4.out⟩
end Go.Proofs.YtajdnakpljgkpaaDoor
