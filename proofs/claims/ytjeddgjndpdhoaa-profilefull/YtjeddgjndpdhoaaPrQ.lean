/-
  The key of a merge with green values, by the program and by the document; condition: the values lie as told.
-/
import Derived.Test.YtjeddgjndpdhoaaPrP
namespace Go.Proofs.Ytjeddgjndpdhoaa
open Go.RowKit Go.Shelf Go.Maps Go.ChangeShapes
set_option linter.unusedVariables false
set_option linter.unusedSimpArgs false

/-- Values in a row. -/
def VAt (B : Nat) (w : World) (a : Option Addr) (l : List (Int × Int)) : Prop := ∀ (j : Nat) (p : Int × Int), l[j]? = some p → ∃ b o, a = some ⟨b, o, none⟩ ∧ b < B ∧ w.cell? ⟨b, o + j * 2, none⟩ = some (.int .i64 p.1) ∧ w.cell? ⟨b, o + j * 2 + 1, none⟩ = some (.int .i64 p.2)
theorem VAt.fr {B : Nat} {S : List Nat} {w w' : World} {a : Option Addr} {l : List (Int × Int)} (h : VAt B w a l) (f : Fr S w w') (hS : ∀ k, k ∈ S → B ≤ k) : VAt B w' a l := fun j p hp => by
  obtain ⟨b, o, e, hb, h1, h2⟩ := h j p hp
  exact ⟨b, o, e, hb, f.cell1 h1 (fun hm => by have := hS _ hm; simp at this; omega), f.cell1 h2 (fun hm => by have := hS _ hm; simp at this; omega)⟩
def okV (p : Int × Int) : Bool := decide (p.1 = 0 ∨ p.1 = 1)
def gAt (l : List (Int × Int)) (i : Nat) : Int × Int := (l[i]?).getD (0, 0)
theorem gAt_nil (i : Nat) : gAt [] i = (0, 0) := by simp [gAt]
/-- The key of a merge with the first i of some values. -/
def kyN (m n : Int) (l : List (Int × Int)) : Ky := (m, n, (gAt l 0).1, (gAt l 0).2, (gAt l 1).1, (gAt l 1).2, (gAt l 2).1, (gAt l 2).2, (gAt l 3).1, (gAt l 3).2)
/-- The key of a merge with values, or none. -/
def keyP (m : Int) (l : List (Int × Int)) : Ky × Bool := if l.length ≤ 4 ∧ l.all okV = true then (kyN m l.length l, true) else (k0, false)
theorem ky_step {m n : Int} {l : List (Int × Int)} {i : Nat} {p : Int × Int} (h : l[i]? = some p) (hi : i < 4) : ((kc (kyN m n (l.take i))).setIfInBounds (2 + i * 2) (.int .i64 p.1)).setIfInBounds (2 + i * 2 + 1) (.int .i64 p.2) = kc (kyN m n (l.take (i + 1))) := by
  have hg : ∀ j q, gAt (l.take q) j = if j < q then gAt l j else (0, 0) := by
    intro j q
    unfold gAt
    by_cases hj : j < q
    · rw [List.getElem?_take_of_lt hj, if_pos hj]
    · rw [if_neg hj, List.getElem?_eq_none (by simp; omega)]; rfl
  have hp : gAt l i = p := by unfold gAt; rw [h]; rfl
  have : i = 0 ∨ i = 1 ∨ i = 2 ∨ i = 3 := by omega
  rcases this with rfl | rfl | rfl | rfl <;> simp [kc, kl0, kyN, hg, hp, gAt_nil]
theorem ky_zero (m n : Int) (l : List (Int × Int)) : kc (kyN m n (l.take 0)) = #[.int .i64 m, .int .i64 n, .int .i64 0, .int .i64 0, .int .i64 0, .int .i64 0, .int .i64 0, .int .i64 0, .int .i64 0, .int .i64 0] := by simp [kc, kl0, kyN, gAt]
theorem set_cells {W : World} {k : Nat} {c : Array Value} {t : TypeId} {z : Nat × Nat} (i : Nat) (v : Value) (h : W.heap[k]? = some (.cells c t z)) : (W.setCell ⟨k, i, none⟩ v).heap[k]? = some (.cells (c.setIfInBounds i v) t z) := by
  simp [World.setCell, Array.getElem?_modify, h]
theorem setRow_last2 (w : World) (c c' : Array Value) (t : TypeId) (o : Obj) : ((w.alloc o).alloc (.cells c t)).setRow (w.heap.size + 1) c' = (w.alloc o).alloc (.cells c' t) := by
  have := World.setRow_alloc_new (w.alloc o) c c' t
  rw [World.size_alloc] at this
  exact this
theorem info25 : (Try.prog.info? 25).map (·.size) = some 2 := by kernel_rfl
def KOut (w : World) (m : Int) (l : List (Int × Int)) (e : Ending) (w' : World) : Prop := e = .returned (.tuple #[.agg (kc (keyP m l).1), .bool (keyP m l).2]) ∧ Fr [] w w'
theorem results_key {fn : Func} {p q : Tmp} (h : fn.results = #[.cell p 28, .tmp q]) (tmps : Array Value) (w : World) (g : Nat) (k : Ky) (v : Value) (hp : tmps.getD p undef = .pointer (some ⟨g, 0, none⟩)) (hq : tmps.getD q undef = v) (hg : w.heap[g]? = some (.cells (kc k) 28 (0, 0))) :
    (results fn tmps).run Try.prog w = .ok (.tuple #[.agg (kc k), v]) w := by
  have hp' : tmps[p]?.getD undef = .pointer (some ⟨g, 0, none⟩) := by simpa using hp
  have hq' : tmps[q]?.getD undef = v := by simpa using hq
  have hl := run_loadVar_row (P := Try.prog) w g 28 28 (kc k) (0, 0) _ hg Try.underlying28 rfl (by rw [info28, kc_size])
  simp [results, h, hp', hq', asAddr, hl]
def KRel (w wr : World) (m : Int) (l : List (Int × Int)) (i : Nat) : Prop := Hid (Fr [] w wr) ∧ Hid (wr.heap[w.heap.size]? = some (.cells (kc k0) 28 (0, 0))) ∧ Hid (wr.heap[w.heap.size + 1]? = some (.cells (kc (kyN m l.length (l.take i))) 28 (0, 0))) ∧ Hid ((l.take i).all okV = true)
set_option maxRecDepth 100000 in
set_option maxHeartbeats 2000000 in
theorem keyOf_any (w : World) (m : Int) (l : List (Int × Int)) (a : Option Addr) (c : Nat) (B : Nat) (hB : B ≤ w.heap.size) (hv : VAt B w a l) (hlen : l.length ≤ 1000000000) :
    Calls Try.prog 10 #[.int .i64 m, .slice a l.length c] w (KOut w m l) := by
  have HV : Hid (VAt B w a l) := hv
  have HB : Hid (B ≤ w.heap.size) := hB
  have HN : Hid (l.length ≤ 1000000000) := hlen
  obtain ⟨N, hN⟩ : ∃ N, N = l.length := ⟨_, rfl⟩
  rw [← hN]
  have HNl : Hid (N = l.length) := hN
  clear hv hB hlen hN
  by_cases h4 : 4 < N
  · have h4I : (4 : Int) < N := by omega
    have HK : Hid (keyP m l = (k0, false)) := by
      unfold Hid keyP
      rw [if_neg (by rw [← HNl.out]; omega)]
    have z0 := heap_alloc_new w (.cells (kc k0) 28)
    rw [kc0] at z0
    have HS0 : Hid ((w.alloc (.cells (kc k0) 28)).setRow w.heap.size (kc k0) = w.alloc (.cells (kc k0) 28)) := World.setRow_alloc_new w _ _ _
    rw [kc0] at HS0
    go_enter Try.func10, Try.ntmps10
    go_wp2_with (refine wpList_store_row rfl 28 (.tmp 4) (.tmp 12) rfl w.heap.size _ rfl rfl 28 _ z0 (by rw [info28]; rfl) rfl (by simp [Value.oneCell']) ?_; rw [HS0.out])
    refine bodyPost_ret (results_key rfl _ _ w.heap.size k0 (.bool false) rfl rfl (by rw [kc0]; exact z0)) rfl ⟨by rw [HK.out], (Fr.refl [] w).alloc _⟩
  · have h4N : N ≤ 4 := by omega
    have hNI : (N : Int) ≤ 4 := by omega
    have hNI2 : ¬ ((4 : Int) < N) := by omega
    have z1 : ((w.alloc (.cells Z28 28)).alloc (.cells Z28 28)).heap[w.heap.size + 1]? = some (.cells Z28 28 (0, 0)) := blk2 _ _ _
    have HS1 : Hid (((w.alloc (.cells Z28 28)).alloc (.cells Z28 28)).setRow (w.heap.size + 1) (kc (kyN m N (l.take 0))) = (w.alloc (.cells Z28 28)).alloc (.cells (kc (kyN m N (l.take 0))) 28)) := setRow_last2 _ _ _ _ _
    obtain ⟨W, hW⟩ : ∃ W, W = (w.alloc (.cells Z28 28)).alloc (.cells (kc (kyN m N (l.take 0))) 28) := ⟨_, rfl⟩
    have R0 : KRel w W m l 0 := by
      rw [HNl.out] at hW
      refine ⟨by rw [hW]; exact ((Fr.refl [] w).alloc _).alloc _, ?_, ?_, by simp [Hid]⟩
      · rw [hW]; exact (Below.heap_alloc _ _ _ (by simp)).trans (heap_alloc_new _ _)
      · rw [hW]; exact blk2 _ _ _
    have HW : Hid ((w.alloc (.cells Z28 28)).alloc (.cells (kc (kyN m N (l.take 0))) 28) = W) := hW.symm
    rw [ky_zero] at HS1 HW
    unfold Z28 at z1 HS1 HW
    clear hW h4
    go_enter Try.func10, Try.ntmps10
    go_wp2_with (refine wpList_store_row rfl 28 (.tmp 6) (.tmp 16) rfl (w.heap.size + 1) _ rfl rfl 28 _ z1 (by rw [info28]; rfl) rfl (by simp [Value.oneCell']) ?_; rw [HS1.out, HW.out])
    clear z1 HS1 HW
    have HR0 : Hid (KRel w W m l 0) := R0
    clear R0
    go_loopw [7, 8, 19] (fun _ _ i wr => ∃ j : Nat, j ≤ N ∧ i = .int .i64 j ∧ KRel w wr m l j) (fun _ _ i _ => N - (intOf i).toNat)
    case atStart => exact ⟨0, Nat.zero_le _, rfl, HR0.out⟩
    case round =>
      obtain ⟨j, hj, rfl, hR⟩ := hrel
      obtain ⟨fW, b0, b1, hA⟩ := hR
      by_cases hlt : j < N
      · have hx : l[j]? = some (l[j]'(by rw [← HNl.out]; exact hlt)) := List.getElem?_eq_getElem _
        generalize l[j]'(by rw [← HNl.out]; exact hlt) = p at hx
        obtain ⟨p1, p2⟩ := p
        obtain ⟨gb, go, rfl, hgb, g0, g1⟩ := (HV.out.fr fW.out (by simp)) j (p1, p2) hx
        have HX : Hid (l[j]? = some (p1, p2)) := hx
        have hltI : (j : Int) < N := by omega
        have hj4 : j < 4 := by omega
        have hj4I : (j : Int) < 4 := by omega
        have HSW : Hid (w.heap.size + 2 ≤ wr.heap.size) := by have := (Array.getElem?_eq_some_iff.1 b1.out).1; unfold Hid; omega
        obtain ⟨X, hX⟩ : ∃ X, X = wr.alloc (.cells #[.int .i64 p1, .int .i64 p2] 25) := ⟨_, rfl⟩
        have z2 := heap_alloc_new wr (.cells #[.int .i64 0, .int .i64 0] 25)
        have HS2 : Hid ((wr.alloc (.cells #[.int .i64 0, .int .i64 0] 25)).setRow wr.heap.size #[.int .i64 p1, .int .i64 p2] = X) := by rw [hX]; exact World.setRow_alloc_new _ _ _ _
        have x8 : X.heap[wr.heap.size]? = some (.cells #[.int .i64 p1, .int .i64 p2] 25 (0, 0)) := by rw [hX]; exact heap_alloc_new _ _
        have FX : Hid (Fr [] wr X) := by rw [hX]; exact (Fr.refl _ _).alloc _
        have y0 := at_cells x8 0 rfl
        have y1 := at_cells x8 1 rfl
        have X1 : X.heap[w.heap.size + 1]? = some (.cells (kc (kyN m l.length (l.take j))) 28 (0, 0)) := (FX.out.block _ (Array.getElem?_eq_some_iff.1 b1.out).1 (by simp)).trans b1.out
        have X0 : Hid (X.heap[w.heap.size]? = some (.cells (kc k0) 28 (0, 0))) := (FX.out.block _ (Array.getElem?_eq_some_iff.1 b0.out).1 (by simp)).trans b0.out
        obtain ⟨va, hva⟩ : ∃ va, X.cell? ⟨w.heap.size + 1, 2 + j * 2, none⟩ = some va := ⟨_, at_cells X1 _ (Array.getElem?_eq_getElem (by rw [kc_size]; omega))⟩
        obtain ⟨vb, hvb⟩ : ∃ vb, (X.setCell ⟨w.heap.size + 1, 2 + j * 2, none⟩ (.int .i64 p1)).cell? ⟨w.heap.size + 1, 2 + j * 2 + 1, none⟩ = some vb := ⟨_, at_cells (set_cells _ _ X1) _ (Array.getElem?_eq_getElem (by simp [kc_size]; omega))⟩
        have hfa := frozen4 X1 (2 + j * 2)
        have hfb := frozen4 (set_cells (2 + j * 2) (.int .i64 p1) X1) (2 + j * 2 + 1)
        have HX1 : Hid _ := X1
        clear x8 X1 hX hx
        by_cases hok : p1 = 0 ∨ p1 = 1
        · have HOK : Hid (((l.take (j + 1)).all okV) = true) := by
            unfold Hid
            rw [List.take_add_one, HX.out, List.all_append, hA.out]
            simp [okV, hok]
          obtain ⟨Z, hZ⟩ : ∃ Z, Z = (X.setCell ⟨w.heap.size + 1, 2 + j * 2, none⟩ (.int .i64 p1)).setCell ⟨w.heap.size + 1, 2 + j * 2 + 1, none⟩ (.int .i64 p2) := ⟨_, rfl⟩
          have HE : Hid (KRel w Z m l (j + 1)) := by
            have f1 : Fr [] w X := fW.out.trans FX.out
            refine ⟨?_, ?_, ?_, HOK⟩
            · rw [hZ]; exact (f1.setCell (.inr (by show w.heap.size ≤ w.heap.size + 1; omega)) _).setCell (.inr (by show w.heap.size ≤ w.heap.size + 1; omega)) _
            · rw [hZ]
              have e1 : w.heap.size ≠ w.heap.size + 1 := by omega
              exact (Below.heap_setCell _ _ _ _ e1).trans ((Below.heap_setCell _ _ _ _ e1).trans X0.out)
            · rw [hZ]
              have := set_cells (2 + j * 2 + 1) (.int .i64 p2) (set_cells (2 + j * 2) (.int .i64 p1) HX1.out)
              rw [ky_step HX.out hj4] at this
              exact this
          have HZ : Hid (Z = _) := hZ
          clear hZ
          rcases hok with hok | hok
          · have hk0 : (p1 != 0) = false := by simp [hok]
            clear hok
            go_wp2_with (refine wpList_store_row rfl 25 (.tmp 8) (.tmp 23) rfl wr.heap.size #[.int .i64 p1, .int .i64 p2] rfl rfl 25 _ z2 (by rw [info25]; rfl) rfl (by simp [Value.oneCell']) ?_; rw [HS2.out])
            rw [← HZ.out]
            go_roundw
            case rel => exact ⟨j + 1, hlt, by go_num, HE.out⟩
            case measure => simp [intOf]; omega
          · have hk0 : (p1 != 0) = true := by simp [hok]
            have hk1 : (p1 != 1) = false := by simp [hok]
            clear hok
            go_wp2_with (refine wpList_store_row rfl 25 (.tmp 8) (.tmp 23) rfl wr.heap.size #[.int .i64 p1, .int .i64 p2] rfl rfl 25 _ z2 (by rw [info25]; rfl) rfl (by simp [Value.oneCell']) ?_; rw [HS2.out])
            rw [← HZ.out]
            go_roundw
            case rel => exact ⟨j + 1, hlt, by go_num, HE.out⟩
            case measure => simp [intOf]; omega
        · have hk0 : (p1 != 0) = true := by simp; omega
          have hk1 : (p1 != 1) = true := by simp; omega
          have HK : Hid (keyP m l = (k0, false)) := by
            unfold Hid keyP
            rw [if_neg]
            rintro ⟨_, hall⟩
            have := List.all_eq_true.1 hall _ (List.mem_of_getElem? HX.out)
            simp [okV] at this
            exact hok this
          have x0 := X0.out
          rw [kc0] at x0
          have HF : Hid (Fr [] w X) := fW.out.trans FX.out
          clear hok hva hvb hfa hfb
          go_wp2_with (first
            | (refine wpList_store_row rfl 25 (.tmp 8) (.tmp 23) rfl wr.heap.size #[.int .i64 p1, .int .i64 p2] rfl rfl 25 _ z2 (by rw [info25]; rfl) rfl (by simp [Value.oneCell']) ?_; rw [HS2.out])
            | (refine wpList_store_row rfl 28 (.tmp 4) (.tmp 32) rfl w.heap.size _ rfl rfl 28 _ x0 (by rw [info28]; rfl) rfl (by simp [Value.oneCell']) ?_))
          refine bodyPost_ret (results_key rfl _ _ w.heap.size k0 (.bool false) rfl rfl (by rw [kc0]; exact row_new x0)) rfl ⟨by rw [HK.out], HF.out.setRow (.inr (Nat.le_refl _)) _⟩
      · have hjN : j = N := by omega
        have HJ : Hid (j = N) := hjN
        have hdec : ¬ ((j : Int) < N) := by omega
        have HK : Hid (keyP m l = (kyN m l.length (l.take j), true)) := by
          have e : l.take j = l := List.take_of_length_le (by rw [← HNl.out]; omega)
          have h1 := hA.out
          rw [e] at h1
          unfold Hid keyP
          rw [if_pos ⟨by rw [← HNl.out]; omega, h1⟩, e]
        clear hjN hlt
        go_wp2_with (first
          | refine wpList_load_row rfl 28 (.tmp 6) rfl (w.heap.size + 1) rfl 28 (kc (kyN m l.length (l.take j))) (0, 0) _ b1.out Try.underlying28 rfl (by rw [info28, kc_size]) ?_
          | refine wpList_store_row rfl 28 (.tmp 4) (.tmp 38) rfl w.heap.size (kc (kyN m l.length (l.take j))) rfl rfl 28 _ b0.out (by rw [info28, kc_size]) (by rw [kc_size, kc_size]) (kc_one _) ?_)
        refine bodyPost_ret (results_key rfl _ _ w.heap.size (kyN m l.length (l.take j)) (.bool true) rfl rfl (row_new b0.out)) rfl ⟨by rw [HK.out], fW.out.setRow (.inr (Nat.le_refl _)) _⟩
set_option maxRecDepth 100000 in
set_option maxHeartbeats 2000000 in
theorem rkeyOf_any (w : World) (m : Int) (l : List (Int × Int)) (a : Option Addr) (c : Nat) (B : Nat) (hB : B ≤ w.heap.size) (hv : VAt B w a l) (hlen : l.length ≤ 1000000000) :
    Calls Try.prog 11 #[.int .i64 m, .slice a l.length c] w (KOut w m l) := by
  have HV : Hid (VAt B w a l) := hv
  have HB : Hid (B ≤ w.heap.size) := hB
  have HN : Hid (l.length ≤ 1000000000) := hlen
  obtain ⟨N, hN⟩ : ∃ N, N = l.length := ⟨_, rfl⟩
  rw [← hN]
  have HNl : Hid (N = l.length) := hN
  clear hv hB hlen hN
  by_cases h4 : 4 < N
  · have h4I : (4 : Int) < N := by omega
    have HK : Hid (keyP m l = (k0, false)) := by
      unfold Hid keyP
      rw [if_neg (by rw [← HNl.out]; omega)]
    have z0 := heap_alloc_new w (.cells (kc k0) 28)
    rw [kc0] at z0
    have HS0 : Hid ((w.alloc (.cells (kc k0) 28)).setRow w.heap.size (kc k0) = w.alloc (.cells (kc k0) 28)) := World.setRow_alloc_new w _ _ _
    rw [kc0] at HS0
    go_enter Try.func11, Try.ntmps11
    go_wp2_with (refine wpList_store_row rfl 28 (.tmp 4) (.tmp 12) rfl w.heap.size _ rfl rfl 28 _ z0 (by rw [info28]; rfl) rfl (by simp [Value.oneCell']) ?_; rw [HS0.out])
    refine bodyPost_ret (results_key rfl _ _ w.heap.size k0 (.bool false) rfl rfl (by rw [kc0]; exact z0)) rfl ⟨by rw [HK.out], (Fr.refl [] w).alloc _⟩
  · have h4N : N ≤ 4 := by omega
    have hNI : (N : Int) ≤ 4 := by omega
    have hNI2 : ¬ ((4 : Int) < N) := by omega
    have z1 : ((w.alloc (.cells Z28 28)).alloc (.cells Z28 28)).heap[w.heap.size + 1]? = some (.cells Z28 28 (0, 0)) := blk2 _ _ _
    have HS1 : Hid (((w.alloc (.cells Z28 28)).alloc (.cells Z28 28)).setRow (w.heap.size + 1) (kc (kyN m N (l.take 0))) = (w.alloc (.cells Z28 28)).alloc (.cells (kc (kyN m N (l.take 0))) 28)) := setRow_last2 _ _ _ _ _
    obtain ⟨W, hW⟩ : ∃ W, W = (w.alloc (.cells Z28 28)).alloc (.cells (kc (kyN m N (l.take 0))) 28) := ⟨_, rfl⟩
    have R0 : KRel w W m l 0 := by
      rw [HNl.out] at hW
      refine ⟨by rw [hW]; exact ((Fr.refl [] w).alloc _).alloc _, ?_, ?_, by simp [Hid]⟩
      · rw [hW]; exact (Below.heap_alloc _ _ _ (by simp)).trans (heap_alloc_new _ _)
      · rw [hW]; exact blk2 _ _ _
    have HW : Hid ((w.alloc (.cells Z28 28)).alloc (.cells (kc (kyN m N (l.take 0))) 28) = W) := hW.symm
    rw [ky_zero] at HS1 HW
    unfold Z28 at z1 HS1 HW
    clear hW h4
    go_enter Try.func11, Try.ntmps11
    go_wp2_with (refine wpList_store_row rfl 28 (.tmp 6) (.tmp 16) rfl (w.heap.size + 1) _ rfl rfl 28 _ z1 (by rw [info28]; rfl) rfl (by simp [Value.oneCell']) ?_; rw [HS1.out, HW.out])
    clear z1 HS1 HW
    have HR0 : Hid (KRel w W m l 0) := R0
    clear R0
    go_loopw [7, 8, 19] (fun _ _ i wr => ∃ j : Nat, j ≤ N ∧ i = .int .i64 j ∧ KRel w wr m l j) (fun _ _ i _ => N - (intOf i).toNat)
    case atStart => exact ⟨0, Nat.zero_le _, rfl, HR0.out⟩
    case round =>
      obtain ⟨j, hj, rfl, hR⟩ := hrel
      obtain ⟨fW, b0, b1, hA⟩ := hR
      by_cases hlt : j < N
      · have hx : l[j]? = some (l[j]'(by rw [← HNl.out]; exact hlt)) := List.getElem?_eq_getElem _
        generalize l[j]'(by rw [← HNl.out]; exact hlt) = p at hx
        obtain ⟨p1, p2⟩ := p
        obtain ⟨gb, go, rfl, hgb, g0, g1⟩ := (HV.out.fr fW.out (by simp)) j (p1, p2) hx
        have HX : Hid (l[j]? = some (p1, p2)) := hx
        have hltI : (j : Int) < N := by omega
        have hj4 : j < 4 := by omega
        have hj4I : (j : Int) < 4 := by omega
        have HSW : Hid (w.heap.size + 2 ≤ wr.heap.size) := by have := (Array.getElem?_eq_some_iff.1 b1.out).1; unfold Hid; omega
        obtain ⟨X, hX⟩ : ∃ X, X = wr.alloc (.cells #[.int .i64 p1, .int .i64 p2] 25) := ⟨_, rfl⟩
        have z2 := heap_alloc_new wr (.cells #[.int .i64 0, .int .i64 0] 25)
        have HS2 : Hid ((wr.alloc (.cells #[.int .i64 0, .int .i64 0] 25)).setRow wr.heap.size #[.int .i64 p1, .int .i64 p2] = X) := by rw [hX]; exact World.setRow_alloc_new _ _ _ _
        have x8 : X.heap[wr.heap.size]? = some (.cells #[.int .i64 p1, .int .i64 p2] 25 (0, 0)) := by rw [hX]; exact heap_alloc_new _ _
        have FX : Hid (Fr [] wr X) := by rw [hX]; exact (Fr.refl _ _).alloc _
        have y0 := at_cells x8 0 rfl
        have y1 := at_cells x8 1 rfl
        have X1 : X.heap[w.heap.size + 1]? = some (.cells (kc (kyN m l.length (l.take j))) 28 (0, 0)) := (FX.out.block _ (Array.getElem?_eq_some_iff.1 b1.out).1 (by simp)).trans b1.out
        have X0 : Hid (X.heap[w.heap.size]? = some (.cells (kc k0) 28 (0, 0))) := (FX.out.block _ (Array.getElem?_eq_some_iff.1 b0.out).1 (by simp)).trans b0.out
        obtain ⟨va, hva⟩ : ∃ va, X.cell? ⟨w.heap.size + 1, 2 + j * 2, none⟩ = some va := ⟨_, at_cells X1 _ (Array.getElem?_eq_getElem (by rw [kc_size]; omega))⟩
        obtain ⟨vb, hvb⟩ : ∃ vb, (X.setCell ⟨w.heap.size + 1, 2 + j * 2, none⟩ (.int .i64 p1)).cell? ⟨w.heap.size + 1, 2 + j * 2 + 1, none⟩ = some vb := ⟨_, at_cells (set_cells _ _ X1) _ (Array.getElem?_eq_getElem (by simp [kc_size]; omega))⟩
        have hfa := frozen4 X1 (2 + j * 2)
        have hfb := frozen4 (set_cells (2 + j * 2) (.int .i64 p1) X1) (2 + j * 2 + 1)
        have HX1 : Hid _ := X1
        clear x8 X1 hX hx
        by_cases hok : p1 = 0 ∨ p1 = 1
        · have HOK : Hid (((l.take (j + 1)).all okV) = true) := by
            unfold Hid
            rw [List.take_add_one, HX.out, List.all_append, hA.out]
            simp [okV, hok]
          obtain ⟨Z, hZ⟩ : ∃ Z, Z = (X.setCell ⟨w.heap.size + 1, 2 + j * 2, none⟩ (.int .i64 p1)).setCell ⟨w.heap.size + 1, 2 + j * 2 + 1, none⟩ (.int .i64 p2) := ⟨_, rfl⟩
          have HE : Hid (KRel w Z m l (j + 1)) := by
            have f1 : Fr [] w X := fW.out.trans FX.out
            refine ⟨?_, ?_, ?_, HOK⟩
            · rw [hZ]; exact (f1.setCell (.inr (by show w.heap.size ≤ w.heap.size + 1; omega)) _).setCell (.inr (by show w.heap.size ≤ w.heap.size + 1; omega)) _
            · rw [hZ]
              have e1 : w.heap.size ≠ w.heap.size + 1 := by omega
              exact (Below.heap_setCell _ _ _ _ e1).trans ((Below.heap_setCell _ _ _ _ e1).trans X0.out)
            · rw [hZ]
              have := set_cells (2 + j * 2 + 1) (.int .i64 p2) (set_cells (2 + j * 2) (.int .i64 p1) HX1.out)
              rw [ky_step HX.out hj4] at this
              exact this
          have HZ : Hid (Z = _) := hZ
          clear hZ
          rcases hok with hok | hok
          · have hk0 : (p1 != 0) = false := by simp [hok]
            clear hok
            go_wp2_with (refine wpList_store_row rfl 25 (.tmp 8) (.tmp 23) rfl wr.heap.size #[.int .i64 p1, .int .i64 p2] rfl rfl 25 _ z2 (by rw [info25]; rfl) rfl (by simp [Value.oneCell']) ?_; rw [HS2.out])
            rw [← HZ.out]
            go_roundw
            case rel => exact ⟨j + 1, hlt, by go_num, HE.out⟩
            case measure => simp [intOf]; omega
          · have hk0 : (p1 != 0) = true := by simp [hok]
            have hk1 : (p1 != 1) = false := by simp [hok]
            clear hok
            go_wp2_with (refine wpList_store_row rfl 25 (.tmp 8) (.tmp 23) rfl wr.heap.size #[.int .i64 p1, .int .i64 p2] rfl rfl 25 _ z2 (by rw [info25]; rfl) rfl (by simp [Value.oneCell']) ?_; rw [HS2.out])
            rw [← HZ.out]
            go_roundw
            case rel => exact ⟨j + 1, hlt, by go_num, HE.out⟩
            case measure => simp [intOf]; omega
        · have hk0 : (p1 != 0) = true := by simp; omega
          have hk1 : (p1 != 1) = true := by simp; omega
          have HK : Hid (keyP m l = (k0, false)) := by
            unfold Hid keyP
            rw [if_neg]
            rintro ⟨_, hall⟩
            have := List.all_eq_true.1 hall _ (List.mem_of_getElem? HX.out)
            simp [okV] at this
            exact hok this
          have x0 := X0.out
          rw [kc0] at x0
          have HF : Hid (Fr [] w X) := fW.out.trans FX.out
          clear hok hva hvb hfa hfb
          go_wp2_with (first
            | (refine wpList_store_row rfl 25 (.tmp 8) (.tmp 23) rfl wr.heap.size #[.int .i64 p1, .int .i64 p2] rfl rfl 25 _ z2 (by rw [info25]; rfl) rfl (by simp [Value.oneCell']) ?_; rw [HS2.out])
            | (refine wpList_store_row rfl 28 (.tmp 4) (.tmp 32) rfl w.heap.size _ rfl rfl 28 _ x0 (by rw [info28]; rfl) rfl (by simp [Value.oneCell']) ?_))
          refine bodyPost_ret (results_key rfl _ _ w.heap.size k0 (.bool false) rfl rfl (by rw [kc0]; exact row_new x0)) rfl ⟨by rw [HK.out], HF.out.setRow (.inr (Nat.le_refl _)) _⟩
      · have hjN : j = N := by omega
        have HJ : Hid (j = N) := hjN
        have hdec : ¬ ((j : Int) < N) := by omega
        have HK : Hid (keyP m l = (kyN m l.length (l.take j), true)) := by
          have e : l.take j = l := List.take_of_length_le (by rw [← HNl.out]; omega)
          have h1 := hA.out
          rw [e] at h1
          unfold Hid keyP
          rw [if_pos ⟨by rw [← HNl.out]; omega, h1⟩, e]
        clear hjN hlt
        go_wp2_with (first
          | refine wpList_load_row rfl 28 (.tmp 6) rfl (w.heap.size + 1) rfl 28 (kc (kyN m l.length (l.take j))) (0, 0) _ b1.out Try.underlying28 rfl (by rw [info28, kc_size]) ?_
          | refine wpList_store_row rfl 28 (.tmp 4) (.tmp 38) rfl w.heap.size (kc (kyN m l.length (l.take j))) rfl rfl 28 _ b0.out (by rw [info28, kc_size]) (by rw [kc_size, kc_size]) (kc_one _) ?_)
        refine bodyPost_ret (results_key rfl _ _ w.heap.size (kyN m l.length (l.take j)) (.bool true) rfl rfl (row_new b0.out)) rfl ⟨by rw [HK.out], fW.out.setRow (.inr (Nat.le_refl _)) _⟩
end Go.Proofs.Ytjeddgjndpdhoaa
