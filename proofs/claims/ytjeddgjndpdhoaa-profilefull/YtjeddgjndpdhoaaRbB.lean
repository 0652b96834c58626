/-
  The document's find and Banned; conditions: the book lies as told, keys are numbers of 64 bits.
-/
import Derived.Test.YtjeddgjndpdhoaaRbA
namespace Go.Proofs.Ytjeddgjndpdhoaa
open Go.RowKit Go.Shelf Go.Maps Go.ChangeShapes
set_option linter.unusedVariables false
set_option linter.unusedSimpArgs false

def FRel (w wr : World) (kb : Nat) (k : Ky) (L : List Rw) (j : Nat) : Prop := Hid (Fr [] w wr) ∧ Hid (wr.heap[kb]? = some (.cells (kc k) 28 (0, 0))) ∧ Hid (∀ p q, p < j → L[p]? = some q → q.k ≠ k)
set_option maxRecDepth 100000 in
set_option maxHeartbeats 2000000 in
theorem find_any {B : Nat} {w : World} {rb : Nat} {S : Bk} (h : RBk B w rb S) (hw : ∀ r ∈ S.L, kw r.k) (hl : S.L.length ≤ 1000000) {k : Ky} (hk : kw k) : Calls Try.prog 24 #[.pointer (some ⟨rb, 0, none⟩), .agg (kc k)] w fun e w' => e = .returned (.int .i64 (fnd S.L k)) ∧ Fr [] w w' := by
  obtain ⟨sv, so, hb, hr, _⟩ := h.ex
  obtain ⟨a, c, rfl, _⟩ := own_slice hr
  have hB : (w.alloc (.cells (kc k) 28)).heap[rb]? = some (.cells #[.slice a S.L.length c, so, .int .i64 S.thr] 46 (0, 0)) := (((Fr.refl [] w).alloc (.cells (kc k) 28)).block _ (Array.getElem?_eq_some_iff.1 hb).1 (by simp)).trans hb
  have c0 := at_cells hB 0 rfl
  have R0 : Hid (FRel w (w.alloc (.cells (kc k) 28)) w.heap.size k S.L 0) := ⟨(Fr.refl [] w).alloc _, heap_alloc_new _ _, fun p q hp => by omega⟩
  have HR : Hid (w.ownsRow B 64 11 (.slice a S.L.length c) S.L.length (S.L.flatMap rc)) := hr
  have HW : Hid (∀ r ∈ S.L, kw r.k) := hw
  have HK : Hid (kw k) := hk
  obtain ⟨N, hN⟩ : ∃ N, N = S.L.length := ⟨_, rfl⟩
  rw [← hN] at c0 hl
  have HN : Hid (N = S.L.length) := hN
  have hNI : (N : Int) ≤ 1000000 := by omega
  clear h hb hr hw hk hN hB
  go_enter Try.func24, Try.ntmps24
  go_wp2_with fail
  clear c0
  go_loopw [5, 6, 12] (fun _ _ i wr => ∃ j : Nat, j ≤ N ∧ i = .int .i64 j ∧ FRel w wr w.heap.size k S.L j) (fun _ _ i _ => N - (intOf i).toNat)
  case atStart => exact ⟨0, Nat.zero_le _, rfl, R0.out⟩
  case round =>
    obtain ⟨j, hj, rfl, hF, hK, hP⟩ := hrel
    by_cases hlt : j < N
    · have hx : S.L[j]? = some (S.L[j]'(by rw [← HN.out]; exact hlt)) := List.getElem?_eq_getElem _
      generalize S.L[j]'(by rw [← HN.out]; exact hlt) = r at hx
      obtain ⟨g, c', e, hrg, hg, _, _, _⟩ := own_at rc_len (own_fr HR.out hF.out (by simp)) hx
      injection e with e1 e2 e3
      subst e1 e3
      have HX : Hid (S.L[j]? = some r) := hx
      have HY : Hid (kw r.k) := HW.out r (List.mem_of_getElem? hx)
      have HRg : Hid (wr.rangeAt g (j * 11) (rc r)) := hrg
      have hltI : (j : Int) < N := by omega
      obtain ⟨X, hX⟩ : ∃ X, X = wr.alloc (.cells (ra r) 64) := ⟨_, rfl⟩
      have zz := heap_alloc_new wr (.cells Z38 64)
      have HS : Hid ((wr.alloc (.cells Z38 64)).setRow wr.heap.size (ra r) = X) := by rw [hX]; exact World.setRow_alloc_new wr _ _ _
      have FX : Fr [] wr X := by rw [hX]; exact (Fr.refl _ _).alloc _
      have XX : Hid (X.heap[wr.heap.size]? = some (.cells (ra r) 64 (0, 0))) := by rw [hX]; exact heap_alloc_new _ _
      have HF : Hid (Fr [] w X) := hF.out.trans FX
      have KX : Hid (X.heap[w.heap.size]? = some (.cells (kc k) 28 (0, 0))) := (FX.block _ (Array.getElem?_eq_some_iff.1 hK.out).1 (by simp)).trans hK.out
      unfold Z38 at zz HS
      clear hX FX hF hK hrg hx hg e2
      by_cases e : r.k = k
      · have HD : Hid (decide (r.k = k) = true) := decide_eq_true e
        have HE : Hid (fnd S.L k = j) := fnd_at HX.out e hP.out
        clear e
        go_wp2_with (first
          | refine wpList_load64 rfl (.tmp 15) rfl g (j * 11) rfl r HRg.out ?_
          | refine wpList_load64 rfl (.tmp 15) rfl g (0 + j * 11) rfl r (by rw [Nat.zero_add]; exact HRg.out) ?_
          | (refine wpList_store_row rfl 64 (.tmp 6) (.tmp 16) rfl wr.heap.size (ra r) rfl rfl 64 _ zz (by rw [info64, ra_size]) (by rw [ra_size]; rfl) (ra_one _) ?_; rw [HS.out])
          | refine wpList_load28 rfl (.tmp 17) rfl wr.heap.size 0 rfl r.k (range_row XX.out) ?_
          | refine wpList_load28 rfl (.tmp 3) rfl w.heap.size 0 rfl k (range_box KX.out) ?_
          | (refine wpList_eql28 rfl (.tmp 18) (.tmp 19) rfl HY.out HK.out rfl rfl ?_; rw [HD.out]))
        go_ret
        exact ⟨by rw [HE.out]; first | done | rfl, HF.out⟩
      · have HD : Hid (decide (r.k = k) = false) := decide_eq_false e
        have R2 : Hid (FRel w X w.heap.size k S.L (j + 1)) := by
          refine ⟨HF, KX, fun p q hp hq => ?_⟩
          by_cases ep : p = j
          · subst ep
            rw [HX.out] at hq
            cases hq
            exact e
          · exact hP.out p q (by omega) hq
        clear e
        go_wp2_with (first
          | refine wpList_load64 rfl (.tmp 15) rfl g (j * 11) rfl r HRg.out ?_
          | refine wpList_load64 rfl (.tmp 15) rfl g (0 + j * 11) rfl r (by rw [Nat.zero_add]; exact HRg.out) ?_
          | (refine wpList_store_row rfl 64 (.tmp 6) (.tmp 16) rfl wr.heap.size (ra r) rfl rfl 64 _ zz (by rw [info64, ra_size]) (by rw [ra_size]; rfl) (ra_one _) ?_; rw [HS.out])
          | refine wpList_load28 rfl (.tmp 17) rfl wr.heap.size 0 rfl r.k (range_row XX.out) ?_
          | refine wpList_load28 rfl (.tmp 3) rfl w.heap.size 0 rfl k (range_box KX.out) ?_
          | (refine wpList_eql28 rfl (.tmp 18) (.tmp 19) rfl HY.out HK.out rfl rfl ?_; rw [HD.out]))
        go_roundw
        case rel => exact ⟨j + 1, hlt, by go_num, R2.out⟩
        case measure => simp [intOf]; omega
    · have hjN : j = N := by omega
      subst hjN
      have HE : Hid (fnd S.L k = -1) := fnd_no fun p q hq => hP.out p q (by rw [HN.out]; exact (List.getElem?_eq_some_iff.1 hq).1) hq
      have HF : Hid (Fr [] w wr) := hF
      clear hlt
      go_wp2
      go_ret
      exact ⟨by rw [HE.out]; first | done | rfl, HF.out⟩
def ORel (w wr : World) (kb : Nat) (k : Ky) (O : List Ky) (j : Nat) : Prop := Hid (Fr [] w wr) ∧ Hid (wr.heap[kb]? = some (.cells (kc k) 28 (0, 0))) ∧ Hid (∀ p q, p < j → O[p]? = some q → q ≠ k)
set_option maxRecDepth 100000 in
set_option maxHeartbeats 2000000 in
theorem rbanned_any {B : Nat} {w : World} {rb : Nat} {S : Bk} (h : RBk B w rb S) (hw : ∀ x ∈ S.O, kw x) (hl : S.O.length ≤ 1000000) {k : Ky} (hk : kw k) : Calls Try.prog 21 #[.pointer (some ⟨rb, 0, none⟩), .agg (kc k)] w fun e w' => e = .returned (.bool (decide (k ∈ S.O))) ∧ Fr [] w w' := by
  obtain ⟨sv, so, hb, _, hr⟩ := h.ex
  obtain ⟨a, c, rfl, _⟩ := own_slice hr
  have hB : (w.alloc (.cells (kc k) 28)).heap[rb]? = some (.cells #[sv, .slice a S.O.length c, .int .i64 S.thr] 46 (0, 0)) := (((Fr.refl [] w).alloc (.cells (kc k) 28)).block _ (Array.getElem?_eq_some_iff.1 hb).1 (by simp)).trans hb
  have c0 := at_cells hB 1 rfl
  have R0 : Hid (ORel w (w.alloc (.cells (kc k) 28)) w.heap.size k S.O 0) := ⟨(Fr.refl [] w).alloc _, heap_alloc_new _ _, fun p q hp => by omega⟩
  have HR : Hid (w.ownsRow B 28 10 (.slice a S.O.length c) S.O.length (S.O.flatMap kcl)) := hr
  have HW : Hid (∀ x ∈ S.O, kw x) := hw
  have HK : Hid (kw k) := hk
  obtain ⟨N, hN⟩ : ∃ N, N = S.O.length := ⟨_, rfl⟩
  rw [← hN] at c0 hl
  have HN : Hid (N = S.O.length) := hN
  have hNI : (N : Int) ≤ 1000000 := by omega
  clear h hb hr hw hk hN hB
  go_enter Try.func21, Try.ntmps21
  go_wp2_with fail
  clear c0
  go_loopw [6, 12] (fun _ i wr => ∃ j : Nat, j ≤ N ∧ i = .int .i64 j ∧ ORel w wr w.heap.size k S.O j) (fun _ i _ => N - (intOf i).toNat)
  case atStart => exact ⟨0, Nat.zero_le _, rfl, R0.out⟩
  case round =>
    obtain ⟨j, hj, rfl, hF, hK, hP⟩ := hrel
    by_cases hlt : j < N
    · have hx : S.O[j]? = some (S.O[j]'(by rw [← HN.out]; exact hlt)) := List.getElem?_eq_getElem _
      generalize S.O[j]'(by rw [← HN.out]; exact hlt) = r at hx
      obtain ⟨g, c', e, hrg, hg, _, _, _⟩ := own_at kcl_len (own_fr HR.out hF.out (by simp)) hx
      injection e with e1 e2 e3
      subst e1 e3
      have HX : Hid (S.O[j]? = some r) := hx
      have HY : Hid (kw r) := HW.out r (List.mem_of_getElem? hx)
      have HRg : Hid (wr.rangeAt g (j * 10) (kc r).toList) := hrg
      have hltI : (j : Int) < N := by omega
      obtain ⟨X, hX⟩ : ∃ X, X = wr.alloc (.cells (kc r) 28) := ⟨_, rfl⟩
      have zz := heap_alloc_new wr (.cells Z28 28)
      have HS : Hid ((wr.alloc (.cells Z28 28)).setRow wr.heap.size (kc r) = X) := by rw [hX]; exact World.setRow_alloc_new wr _ _ _
      have FX : Fr [] wr X := by rw [hX]; exact (Fr.refl _ _).alloc _
      have XX : Hid (X.heap[wr.heap.size]? = some (.cells (kc r) 28 (0, 0))) := by rw [hX]; exact heap_alloc_new _ _
      have HF : Hid (Fr [] w X) := hF.out.trans FX
      have KX : Hid (X.heap[w.heap.size]? = some (.cells (kc k) 28 (0, 0))) := (FX.block _ (Array.getElem?_eq_some_iff.1 hK.out).1 (by simp)).trans hK.out
      unfold Z28 at zz HS
      clear hX FX hF hK hrg hx hg e2
      by_cases e : r = k
      · have HD : Hid (decide (r = k) = true) := decide_eq_true e
        have HE : Hid (decide (k ∈ S.O) = true) := decide_eq_true (e ▸ List.mem_of_getElem? HX.out)
        clear e
        go_wp2_with (first
          | refine wpList_load28 rfl (.tmp 14) rfl g (j * 10) rfl r HRg.out ?_
          | refine wpList_load28 rfl (.tmp 14) rfl g (0 + j * 10) rfl r (by rw [Nat.zero_add]; exact HRg.out) ?_
          | (refine wpList_store_row rfl 28 (.tmp 6) (.tmp 15) rfl wr.heap.size (kc r) rfl rfl 28 _ zz (by rw [info28, kc_size]) (by rw [kc_size]; rfl) (kc_one _) ?_; rw [HS.out])
          | refine wpList_load28 rfl (.tmp 6) rfl wr.heap.size 0 rfl r (range_box XX.out) ?_
          | refine wpList_load28 rfl (.tmp 3) rfl w.heap.size 0 rfl k (range_box KX.out) ?_
          | (refine wpList_eql28 rfl (.tmp 16) (.tmp 17) rfl HY.out HK.out rfl rfl ?_; rw [HD.out]))
        go_ret
        exact ⟨by rw [HE.out]; first | done | rfl, HF.out⟩
      · have HD : Hid (decide (r = k) = false) := decide_eq_false e
        have R2 : Hid (ORel w X w.heap.size k S.O (j + 1)) := by
          refine ⟨HF, KX, fun p q hp hq => ?_⟩
          by_cases ep : p = j
          · subst ep
            rw [HX.out] at hq
            cases hq
            exact e
          · exact hP.out p q (by omega) hq
        clear e
        go_wp2_with (first
          | refine wpList_load28 rfl (.tmp 14) rfl g (j * 10) rfl r HRg.out ?_
          | refine wpList_load28 rfl (.tmp 14) rfl g (0 + j * 10) rfl r (by rw [Nat.zero_add]; exact HRg.out) ?_
          | (refine wpList_store_row rfl 28 (.tmp 6) (.tmp 15) rfl wr.heap.size (kc r) rfl rfl 28 _ zz (by rw [info28, kc_size]) (by rw [kc_size]; rfl) (kc_one _) ?_; rw [HS.out])
          | refine wpList_load28 rfl (.tmp 6) rfl wr.heap.size 0 rfl r (range_box XX.out) ?_
          | refine wpList_load28 rfl (.tmp 3) rfl w.heap.size 0 rfl k (range_box KX.out) ?_
          | (refine wpList_eql28 rfl (.tmp 16) (.tmp 17) rfl HY.out HK.out rfl rfl ?_; rw [HD.out]))
        go_roundw
        case rel => exact ⟨j + 1, hlt, by go_num, R2.out⟩
        case measure => simp [intOf]; omega
    · have hjN : j = N := by omega
      subst hjN
      have HE : Hid (decide (k ∈ S.O) = false) := decide_eq_false fun hm => by
        obtain ⟨p, hp⟩ := List.getElem?_of_mem hm
        exact hP.out p k (by rw [HN.out]; exact (List.getElem?_eq_some_iff.1 hp).1) hp rfl
      have HF : Hid (Fr [] w wr) := hF
      clear hlt
      go_wp2
      go_ret
      exact ⟨by rw [HE.out]; first | done | rfl, HF.out⟩
end Go.Proofs.Ytjeddgjndpdhoaa
