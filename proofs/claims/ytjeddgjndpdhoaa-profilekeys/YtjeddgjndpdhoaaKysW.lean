/-
  ProfileKeys returns true, told of values and worlds; condition: the values lie as told.
-/
import Derived.Test.YtjeddgjndpdhoaaPrV
namespace Go.Proofs.Ytjeddgjndpdhoaa
open Go.RowKit Go.Shelf Go.Maps Go.ChangeShapes
set_option linter.unusedVariables false
set_option linter.unusedSimpArgs false

theorem keyP_w (m : Int) (hm : (Lit.int .i64 m).wf = true) (l : List (Int × Int)) (hl : ∀ y ∈ l, (Lit.int .i64 y.1).wf = true ∧ (Lit.int .i64 y.2).wf = true) : kw (keyP m l).1 := by
  have h0 : (Lit.int .i64 0).wf = true := by decide
  have hz : kw k0 := by intro x hx; simp [k0, kl0] at hx; subst hx; exact h0
  unfold keyP
  split
  · rename_i h
    have hg : ∀ i, (Lit.int .i64 (gAt l i).1).wf = true ∧ (Lit.int .i64 (gAt l i).2).wf = true := by
      intro i
      unfold gAt
      cases hi : l[i]? with
      | none => exact ⟨h0, h0⟩
      | some y => exact hl y (List.mem_of_getElem? hi)
    have hn : (Lit.int .i64 (l.length : Int)).wf = true := by
      have := h.1
      have : l.length = 0 ∨ l.length = 1 ∨ l.length = 2 ∨ l.length = 3 ∨ l.length = 4 := by omega
      rcases this with e | e | e | e | e <;> rw [e] <;> decide
    intro x hx
    simp only [kyN, kl0, List.mem_cons, List.not_mem_nil, or_false] at hx
    rcases hx with rfl | rfl | rfl | rfl | rfl | rfl | rfl | rfl | rfl | rfl
    · exact hm
    · exact hn
    · exact (hg 0).1
    · exact (hg 0).2
    · exact (hg 1).1
    · exact (hg 1).2
    · exact (hg 2).1
    · exact (hg 2).2
    · exact (hg 3).1
    · exact (hg 3).2
  · exact hz
set_option maxRecDepth 100000 in
set_option maxHeartbeats 2000000 in
theorem profileKeys_walk (w : World) (m : Int) (hm : (Lit.int .i64 m).wf = true) (l : List (Int × Int)) (a : Option Addr) (c : Nat) (hp : ∀ y ∈ l, (Lit.int .i64 y.1).wf = true ∧ (Lit.int .i64 y.2).wf = true) (hlc : l.length ≤ c) (hcm : c ≤ maxLen) (hno : a = none → c = 0)
    (hat : ∀ (i : Nat) (y : Int × Int), l[i]? = some y → ∃ b o, a = some ⟨b, o, none⟩ ∧ b < w.heap.size ∧ ∀ (j : Nat) (u : Value), [Value.int .i64 y.1, Value.int .i64 y.2][j]? = some u → w.cell? ⟨b, o + i * 2 + j, none⟩ = some u) :
    Calls Try.prog 3 #[.int .i64 m, .slice a l.length c] w fun e w' => e = .returned (.bool true) ∧ Fr [] w w' := by
  have hv : VAt w.heap.size w a l := by
    intro j p hp
    obtain ⟨b, o, e, hb, h⟩ := hat j p hp
    exact ⟨b, o, e, hb, h 0 _ rfl, h 1 _ rfl⟩
  have HV : Hid (VAt w.heap.size w a l) := hv
  have HKW : Hid (kw (keyP m l).1) := keyP_w m hm l hp
  have CA := awake_any w
  obtain ⟨N, hN⟩ : ∃ N, N = l.length := ⟨_, rfl⟩
  have HN : Hid (l.length = N) := hN.symm
  rw [← hN]
  clear hv hN hat hp hno hcm hlc hm
  by_cases hl : 100 < N
  · have hlI : (100 : Int) < N := by omega
    go_enter Try.func3, Try.ntmps3
    go_wp2_with fail
    refine CA.mono ?_
    rintro e w1 ⟨rfl, f1⟩
    have F1 : Hid (Fr [] w w1) := f1
    clear CA f1
    go_wp2
    go_ret
    exact ⟨rfl, F1.out⟩
  · have hlI : ¬ ((100 : Int) < N) := by omega
    have CK : ∀ w', Fr [] w w' → Calls Try.prog 10 #[.int .i64 m, .slice a N c] w' (KOut w' m l) := fun w' f => by
      have := keyOf_any w' m l a c w.heap.size f.size (HV.out.fr f (by simp)) (by rw [HN.out]; omega)
      rw [HN.out] at this
      exact this
    have CR : ∀ w', Fr [] w w' → Calls Try.prog 11 #[.int .i64 m, .slice a N c] w' (KOut w' m l) := fun w' f => by
      have := rkeyOf_any w' m l a c w.heap.size f.size (HV.out.fr f (by simp)) (by rw [HN.out]; omega)
      rw [HN.out] at this
      exact this
    unfold KOut at CK CR
    generalize (keyP m l).1 = k at *
    generalize (keyP m l).2 = is at *
    go_enter Try.func3, Try.ntmps3
    go_wp2_with fail
    refine CA.mono ?_
    rintro e w1 ⟨rfl, f1⟩
    have F1 : Hid (Fr [] w w1) := f1
    have C1 := CK w1 f1
    clear CA f1 CK
    go_wp2_with fail
    refine C1.mono ?_
    rintro e w2 ⟨rfl, f2⟩
    obtain ⟨X, hX⟩ : ∃ X, X = w2.alloc (.cells (kc k) 28) := ⟨_, rfl⟩
    have zz := heap_alloc_new w2 (.cells Z28 28)
    have HS : Hid ((w2.alloc (.cells Z28 28)).setRow w2.heap.size (kc k) = X) := by rw [hX]; exact World.setRow_alloc_new w2 _ _ _
    have FX : Fr [] w X := by rw [hX]; exact (F1.out.trans f2).alloc _
    have HFX : Hid (Fr [] w X) := FX
    have KX : Hid (X.heap[w2.heap.size]? = some (.cells (kc k) 28 (0, 0))) := by rw [hX]; exact heap_alloc_new _ _
    have C2 := CR X FX
    unfold Z28 at zz HS
    clear C1 f2 hX FX CR
    go_wp2_with (refine wpList_store_row rfl 28 (.tmp 5) (.tmp 18) rfl w2.heap.size (kc k) rfl rfl 28 _ zz (by rw [info28, kc_size]) (by rw [kc_size]; rfl) (kc_one _) ?_; rw [HS.out])
    refine C2.mono ?_
    rintro e w3 ⟨rfl, f3⟩
    clear zz HS C2
    obtain ⟨Y, hY⟩ : ∃ Y, Y = w3.alloc (.cells (kc k) 28) := ⟨_, rfl⟩
    have zz := heap_alloc_new w3 (.cells Z28 28)
    have HS : Hid ((w3.alloc (.cells Z28 28)).setRow w3.heap.size (kc k) = Y) := by rw [hY]; exact World.setRow_alloc_new w3 _ _ _
    have HFY : Hid (Fr [] w Y) := by rw [hY]; exact (HFX.out.trans f3).alloc _
    have KY : Hid (Y.heap[w3.heap.size]? = some (.cells (kc k) 28 (0, 0))) := by rw [hY]; exact heap_alloc_new _ _
    have KX3 : Hid (Y.heap[w2.heap.size]? = some (.cells (kc k) 28 (0, 0))) := by rw [hY]; exact ((f3.alloc _).block _ (Array.getElem?_eq_some_iff.1 KX.out).1 (by simp)).trans KX.out
    unfold Z28 at zz HS
    clear hY f3
    go_wp2_with (first
      | (refine wpList_store_row rfl 28 (.tmp 7) (.tmp 24) rfl w3.heap.size (kc k) rfl rfl 28 _ zz (by rw [info28, kc_size]) (by rw [kc_size]; rfl) (kc_one _) ?_; rw [HS.out])
      | refine wpList_load_row rfl 28 (.tmp 5) rfl w2.heap.size rfl 28 (kc k) (0, 0) _ KX3.out Try.underlying28 rfl (by rw [info28, kc_size]) ?_
      | (refine wpList_eql28 rfl (.tmp 26) (.tmp 27) rfl HKW.out HKW.out rfl rfl ?_; rw [decide_eq_true rfl])
      | refine wpList_load_row rfl 28 (.tmp 7) rfl w3.heap.size rfl 28 (kc k) (0, 0) _ KY.out Try.underlying28 rfl (by rw [info28, kc_size]) ?_)
    all_goals go_ret
    all_goals exact ⟨by simp, HFY.out⟩
end Go.Proofs.Ytjeddgjndpdhoaa
