/-
  ProfileEach returns true, told of values and worlds; condition: the key is of numbers of 64 bits.
-/
import Derived.Test.YtjeddgjndpdhoaaEchR
import Derived.Deep.Cut
namespace Go.Proofs.Ytjeddgjndpdhoaa
open Go.RowKit Go.Shelf Go.Maps Go.ChangeShapes
set_option linter.unusedVariables false
set_option linter.unusedSimpArgs false

/-- A book behind i meetings of one key. -/
def eachB (t : Int) (k : Ky) : Nat → Bk
  | 0 => ⟨t, [], 0, []⟩
  | i + 1 => (hitB (eachB t k i) k).1
theorem each_thr (t : Int) (k : Ky) : ∀ i, (eachB t k i).thr = t ∧ (eachB t k i).O = []
  | 0 => ⟨rfl, rfl⟩
  | i + 1 => by have := each_thr t k i; have h := hit_thr (eachB t k i) k; exact ⟨h.1.trans this.1, h.2.trans this.2⟩
theorem each_ok {t : Int} (ht : 1 ≤ t) (ht2 : t ≤ 9223372036854775807) {k : Ky} (hk : kw k) : ∀ i, Ok (eachB t k i)
  | 0 => by have := ok_new t ht2; rw [show max t 1 = t by omega] at this; exact this
  | i + 1 => ok_hit (each_ok ht ht2 hk i) hk
theorem each_ent (t : Int) (k : Ky) : ∀ i : Nat, (eachB t k i).ent ≤ i
  | 0 => by simp [eachB]
  | i + 1 => by have := each_ent t k i; have h := hit_ent (eachB t k i) k; show (hitB (eachB t k i) k).1.ent ≤ _; omega
theorem put_cnt (L : List Rw) (k : Ky) (n s : Int) : cntL (putL L k n s) k = n ∧ hasL (putL L k n s) k = true := by
  have := rowOf_put L k n s k
  rw [if_pos rfl] at this
  obtain ⟨h1, _, h3⟩ := cnt_of this
  exact ⟨h1, h3⟩
theorem each_c {t : Int} (ht : 1 ≤ t) (k : Ky) : ∀ i : Nat, cntL (eachB t k i).L k = (i : Int) % t ∧ hitC (eachB t k i) k = (i : Int) % t + 1
  | 0 => by simp [eachB, cntL, rowOf, hitC, hasL]
  | i + 1 => by
    obtain ⟨h1, h2⟩ := each_c ht k i
    have ho := (each_thr t k i)
    have hc : cntL (eachB t k (i + 1)).L k = ((i + 1 : Nat) : Int) % t ∧ hasL (eachB t k (i + 1)).L k = true := by
      show cntL (hitB (eachB t k i) k).1.L k = _ ∧ hasL (hitB (eachB t k i) k).1.L k = true
      unfold hitB
      rw [if_neg (by rw [ho.2]; simp)]
      simp only
      refine ⟨?_, (put_cnt _ _ _ _).2⟩
      rw [(put_cnt _ _ _ _).1, h2, ho.1]
      have hm0 : 0 ≤ (i : Int) % t := Int.emod_nonneg _ (by omega)
      have hm1 : (i : Int) % t < t := Int.emod_lt_of_pos _ (by omega)
      have hadd : ((i + 1 : Nat) : Int) % t = ((i : Int) % t + 1) % t := by rw [Int.natCast_add, Int.emod_add_emod]; rfl
      rw [hadd]
      by_cases e : (i : Int) % t + 1 = t
      · rw [if_pos e, e, Int.emod_self]
      · have hl : ((i : Int) % t + 1) % t = (i : Int) % t + 1 := Int.emod_eq_of_lt (by omega) (by omega)
        rw [if_neg e, hl]
    refine ⟨hc.1, ?_⟩
    unfold hitC
    rw [if_pos hc.2, hc.1]
theorem each_r {t : Int} (ht : 1 ≤ t) (k : Ky) (i : Nat) : (hitB (eachB t k i) k).2 = (((i + 1 : Nat) : Int) % t == 0) := by
  obtain ⟨h1, h2⟩ := each_c ht k i
  have ho := (each_thr t k i)
  unfold hitB
  rw [if_neg (by rw [ho.2]; simp)]
  simp only
  rw [h2, ho.1]
  have hm0 : 0 ≤ (i : Int) % t := Int.emod_nonneg _ (by omega)
  have hm1 : (i : Int) % t < t := Int.emod_lt_of_pos _ (by omega)
  have hadd : ((i + 1 : Nat) : Int) % t = ((i : Int) % t + 1) % t := by rw [Int.natCast_add, Int.emod_add_emod]; rfl
  rw [hadd]
  by_cases e : (i : Int) % t + 1 = t
  · rw [e, Int.emod_self]; simp
  · have hl : ((i : Int) % t + 1) % t = (i : Int) % t + 1 := Int.emod_eq_of_lt (by omega) (by omega)
    rw [hl, decide_eq_false e]
    have : ((i : Int) % t + 1 == 0) = false := by simp; omega
    rw [this]
theorem wf64 {x : Int} (h : (Lit.int .i64 x).wf = true) : -9223372036854775808 ≤ x ∧ x ≤ 9223372036854775807 := by
  have h1 : (decide (IntKind.i64.min ≤ x) && decide (x ≤ IntKind.i64.max)) = true := h
  rw [show IntKind.i64.min = -9223372036854775808 from by decide, show IntKind.i64.max = 9223372036854775807 from by decide] at h1
  simp at h1
  omega
set_option maxRecDepth 100000 in
set_option maxHeartbeats 2000000 in
theorem profileEach_walk (w : World) (k : Ky) (hk : kw k) (t : Int) (wt : (Lit.int .i64 t).wf = true) (n : Int) (wn : (Lit.int .i64 n).wf = true) : Calls Try.prog 6 #[.agg (kc k), .int .i64 t, .int .i64 n] w fun e w' => e = .returned (.bool true) ∧ Fr [] w w' := by
  have CA := awake_any (w.alloc (.cells (kc k) 28))
  have kw0 := heap_alloc_new w (.cells (kc k) 28)
  have HT2 : Hid (t ≤ 9223372036854775807) := (wf64 wt).2
  clear wt wn
  by_cases hq : t < 1 ∨ n < 0 ∨ 2000 < n
  · go_enter Try.func6, Try.ntmps6
    go_wp2_with fail
    refine CA.mono ?_
    rintro e w1 ⟨rfl, f1⟩
    have F1 : Hid (Fr [] w w1) := ((Fr.refl [] w).alloc _).trans f1
    clear CA f1 kw0
    go_wp2_with fail
    all_goals first | (exfalso; omega) | skip
    all_goals (go_ret; exact ⟨rfl, F1.out⟩)
  · have ht : 1 ≤ t := by omega
    have ht' : ¬ (t < 1) := by omega
    obtain ⟨m, rfl⟩ := Int.eq_ofNat_of_zero_le (show 0 ≤ n by omega)
    have hm : m ≤ 2000 := by omega
    have hm' : ¬ ((2000 : Int) < m) := by omega
    clear hq
    go_enter Try.func6, Try.ntmps6
    go_wp2_with fail
    refine CA.mono ?_
    rintro e w1 ⟨rfl, f1⟩
    have F1 : Hid (Fr [] w w1) := ((Fr.refl [] w).alloc _).trans f1
    have K1 : Hid (w1.heap[w.heap.size]? = some (.cells (kc k) 28 (0, 0))) := (f1.block _ (by simp) (by simp)).trans kw0
    have CN := new_any w1 t
    rw [show max t 1 = t by omega] at CN
    clear CA f1 kw0
    go_wp2_with fail
    refine CN.mono ?_
    rintro e w2 ⟨rfl, f2, b2, z2⟩
    have HS1 : Hid (w.heap.size < w1.heap.size) := (Array.getElem?_eq_some_iff.1 K1.out).1
    have F2 : Hid (Fr [] w w2) := F1.out.trans f2
    have K2 : Hid (w2.heap[w.heap.size]? = some (.cells (kc k) 28 (0, 0))) := (f2.block _ HS1.out (by simp)).trans K1.out
    have B2 : Hid (BA w2 (w1.heap.size + 2) w1.heap.size (w1.heap.size + 1) (eachB t k 0)) := b2
    clear CN f2 b2 z2 K1 F1
    go_wp2_with fail
    go_loopw [8] (fun i wr => ∃ j : Nat, j ≤ m ∧ i = .int .i64 (j + 1 : Nat) ∧ Hid (BA wr (w1.heap.size + 2) w1.heap.size (w1.heap.size + 1) (eachB t k j)) ∧ Hid (Fr [] w wr) ∧ Hid (wr.heap[w.heap.size]? = some (.cells (kc k) 28 (0, 0)))) (fun i _ => m + 1 - (intOf i).toNat)
    case atStart => exact ⟨0, Nat.zero_le _, rfl, B2, F2, K2⟩
    case round =>
      obtain ⟨j, hj, rfl, B3, F3, K3⟩ := hrel
      by_cases hlt : j < m
      · have hltI : ((j + 1 : Nat) : Int) ≤ m := by omega
        have hjI : ((j + 1 : Nat) : Int) ≤ 3000 := by omega
        have HTM : Hid ((((hitB (eachB t k j) k).2 != (Int.tmod ((j + 1 : Nat) : Int) t == 0))) = false) := by
          unfold Hid
          rw [each_r ht k j, Int.tmod_eq_emod_of_nonneg (by omega)]
          simp
        go_wp2_with fail
        refine reg6a (k := k) (S := eachB t k j) (kb := w.heap.size) (t := t) B3.out (each_ok ht HT2.out hk j) (by have := each_ent t k j; omega) hk ?_ ht (by omega) ?_
        · intro w' f i v hv
          have h0 := HS1.out
          exact at_cells ((f.block _ (Array.getElem?_eq_some_iff.1 K3.out).1 (by simp; omega)).trans K3.out) (0 + i) (by simpa using hv)
        · intro X2 f4 b4
          have B4 : Hid (BA X2 (w1.heap.size + 2) w1.heap.size (w1.heap.size + 1) (eachB t k (j + 1))) := b4
          have F4 : Hid (Fr [] w X2) := F3.out.over f4 (fun i hi => by have h0 := HS1.out; exact .inr (by simp at hi; omega))
          have K4 : Hid (X2.heap[w.heap.size]? = some (.cells (kc k) 28 (0, 0))) := (f4.block _ (Array.getElem?_eq_some_iff.1 K3.out).1 (by have h0 := HS1.out; simp; omega)).trans K3.out
          clear b4 f4 B3 F3 K3
          rw [HTM.out]
          go_wp2
          go_roundw
          case rel => exact ⟨j + 1, hlt, by go_num, B4, F4, K4⟩
          case measure => simp [intOf]; omega
      · have hjm : j = m := by omega
        subst hjm
        have hgt : ¬ (((j + 1 : Nat) : Int) ≤ j) := by omega
        have HTM : Hid ((cntL (eachB t k j).L k == Int.tmod (j : Int) t) = true) := by
          unfold Hid
          rw [(each_c ht k j).1, Int.tmod_eq_emod_of_nonneg (by omega)]
          simp
        clear hlt
        go_wp2_with fail
        refine reg6b (k := k) (S := eachB t k j) (kb := w.heap.size) (t := t) (i := (j : Int)) B3.out hk ?_ ht (by omega) ?_
        · intro w' f i v hv
          exact at_cells ((f.block _ (Array.getElem?_eq_some_iff.1 K3.out).1 (by simp)).trans K3.out) (0 + i) (by simpa using hv)
        · intro X2 f4
          have F4 : Hid (Fr [] w X2) := F3.out.trans f4
          clear f4
          rw [HTM.out]
          go_wp2
          go_ret
          exact ⟨rfl, F4.out⟩
end Go.Proofs.Ytjeddgjndpdhoaa
