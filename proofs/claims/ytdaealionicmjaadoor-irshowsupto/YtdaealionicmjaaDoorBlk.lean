/-
  How functions and code that come in are read, with how much they hold; no condition.
-/
import Derived.Test.YtdaealionicmjaaDoorIrZ
namespace Go.Proofs.YtdaealionicmjaaDoor
open Go.ChangeShapes Go.WideShapes Go.ChangeAt Go.RowKit Go.Deep
set_option linter.unusedVariables false
set_option linter.unusedSimpArgs false
set_option maxRecDepth 100000

theorem one_le {H : Type} (d : DataW H) : 1 ≤ Rows.uptoBulk d := by
  cases d with
  | lit l => cases l <;> simp [Rows.uptoBulk]
  | nil => simp [Rows.uptoBulk]
  | ptr d => simp [Rows.uptoBulk]
  | slice elems spare => simp [Rows.uptoBulk]
  | agg parts => simp [Rows.uptoBulk]
  | iface t d => simp [Rows.uptoBulk]
  | map entries => simp [Rows.uptoBulk]
  | held h => simp [Rows.uptoBulk]
theorem length_le {H : Type} (l : List (DataW H)) : l.length ≤ Rows.uptoBulkAll l := by
  induction l with
  | nil => simp [Rows.uptoBulkAll]
  | cons x r ih => have := one_le x; simp only [Rows.uptoBulkAll, List.length_cons]; omega
theorem bulk_sum {H α : Type} {cost : α → Nat} : ∀ (L : List α) (D : Nat → DataW H), (∀ i y, L[i]? = some y → cost y ≤ Rows.uptoBulk (D i)) → (L.map cost).sum ≤ Rows.uptoBulkAll ((List.range L.length).map D)
  | [], D, h => by simp [Rows.uptoBulkAll]
  | x :: r, D, h => by
    have h0 := h 0 x rfl
    have ih := bulk_sum r (fun i => D (i + 1)) (fun i y hy => h (i + 1) y (by simpa using hy))
    rw [List.length_cons, List.range_succ_eq_map]
    simp only [List.map_cons, List.sum_cons, List.map_map, Rows.uptoBulkAll]
    have e : (D ∘ Nat.succ) = fun i => D (i + 1) := rfl
    rw [e]
    omega
theorem wf_le {z : Int} (h : (Lit.int .i64 z).wf = true) : z ≤ 9223372036854775807 := by
  simp [Lit.wf, IntKind.wrap_i64] at h
  omega
def costI (y : In) : Nat := y.l.length + 1
def costF (y : Fu) : Nat := (y.code.map costI).sum + y.name.size + 1
theorem costI_len (L : List In) : L.length ≤ (L.map costI).sum := by
  induction L with
  | nil => simp
  | cons x r ih => simp only [List.map_cons, List.sum_cons, List.length_cons, costI]; omega
theorem costI_mem {L : List In} {x : In} (h : x ∈ L) : x.l.length ≤ (L.map costI).sum := by
  induction L with
  | nil => cases h
  | cons y r ih =>
    simp only [List.map_cons, List.sum_cons]
    rcases List.mem_cons.1 h with rfl | h
    · unfold costI; omega
    · have := ih h; omega
theorem costF_mem {L : List Fu} {f : Fu} (h : f ∈ L) : costF f ≤ (L.map costF).sum := by
  induction L with
  | nil => cases h
  | cons y r ih =>
    simp only [List.map_cons, List.sum_cons]
    rcases List.mem_cons.1 h with rfl | h
    · omega
    · have := ih h; omega
theorem costF_len (L : List Fu) : L.length ≤ (L.map costF).sum := by
  induction L with
  | nil => simp
  | cons x r ih => simp only [List.map_cons, List.sum_cons, List.length_cons, costF] at ih ⊢; omega
theorem totC_cost (L : List Fu) : totC L ≤ (L.map costF).sum := by
  induction L with
  | nil => simp [totC]
  | cons f r ih =>
    have := costI_len f.code
    simp only [totC, List.map_cons, List.sum_cons, costF] at ih ⊢
    omega
theorem fs_ok {F : List Fu} (h1 : ∀ y ∈ F, (∀ z ∈ y.code, wfI z.k) ∧ y.code.length ≤ 2300000000000) (h2 : (F.map costF).sum ≤ 1048576) : FsOk F := by
  refine ⟨fun f hf x hx => (h1 f hf).1 x hx, fun f hf x hx => ?_, ?_⟩
  · have a := costI_mem hx
    have b := costF_mem hf
    have e : costF f = (f.code.map costI).sum + f.name.size + 1 := rfl
    omega
  · have := totC_cost F
    omega

theorem read_intsB {H : Type} {enc : TypeId × Value → H} {w : World} {spare : Nat → Bool} {held : Bool} {fuel : Nat} {v : Value} {x : DataW H × List MemPlace} (h : DataW.trod enc Tryd.prog w 0 spare held fuel 37 [v] = some x) :
    ∃ (a : Option Addr) (c : Nat) (ks : List Int), v = .slice a ks.length c ∧ KAt w.heap.size w a ks ∧ ks.length ≤ c ∧ c ≤ maxLen ∧ (a = none → c = 0) ∧ (ks.length = 0 ∨ ∃ n ∈ x.1.weights Tryd.prog 37, ks.length * 8 ≤ n) ∧ ks.length + 1 ≤ Rows.uptoBulk x.1 := by
  rcases open_ints Tryd.underlying37 Tryd.underlying3 cells3 h with ⟨e, rfl⟩ | ⟨a, len, cap, zs, e, _, hl, hm, hz, rfl, hc, _⟩
  · simp at e
    subst e
    exact ⟨none, 0, [], rfl, KAt.nil, Nat.le_refl _, Nat.zero_le _, fun _ => rfl, .inl rfl, by simp [Rows.uptoBulk]⟩
  · simp at e
    subst e
    have hlz : len ≤ zs.length := by rw [hz]; split <;> omega
    have hl' : (zs.take len).length = len := by simp; omega
    refine ⟨some a, cap, zs.take len, ?_, ?_, ?_, hm, ?_, .inr ?_, ?_⟩
    · rw [hl']
    · intro j k hj
      have hj' : j < len := by have := (List.getElem?_eq_some_iff.1 hj).1; omega
      have h1 := hc j (by omega)
      have h2 : zs.getD j 0 = k := by
        rw [List.getElem?_take_of_lt hj'] at hj
        simp [List.getD, hj]
      rw [h2] at h1
      have h0 := hc 0 (by omega)
      obtain ⟨b, off, spot⟩ := a
      have hs : spot = none := by simpa [Addr.add] using World.cell?_spot h0
      subst hs
      rw [Addr.add_lit] at h1
      exact ⟨b, off, rfl, World.block_lt_of_cell? w _ h1, h1⟩
    · omega
    · intro h; cases h
    · refine ⟨_, by simp only [DataW.weights, Tryd.underlying37]; exact List.mem_cons_self, ?_⟩
      rw [bytes3, hl']
      simp only [lits, List.length_map, List.length_take, List.length_drop]
      omega
    · have := length_le (lits (H := H) .i64 (zs.take len))
      simp only [Rows.uptoBulk, lits, List.length_map] at this ⊢
      omega

theorem read_inB {H : Type} {enc : TypeId × Value → H} {w : World} {spare : Nat → Bool} {held : Bool} {fuel : Nat} {cs : List Value} {x : DataW H × List MemPlace} (h : DataW.trod enc Tryd.prog w 0 spare held fuel 39 cs = some x) (hS : ∀ n ∈ x.1.weights Tryd.prog 39, n ≤ reachBytes) :
    ∃ y : In, cs = y.arr.toList ∧ InOk w.heap.size w y ∧ wfI y.k ∧ y.l.length + 1 ≤ Rows.uptoBulk x.1 := by
  obtain ⟨xs, n, _, rfl, hl, hlen, hf⟩ := DataW.trod_struct Tryd.underlying39 h
  rw [cells39] at hl
  match cs, hl, xs, hlen with
  | [v0, v1, v2, v3, v4, v5], _, [y0, y1, y2, y3, y4, y5], _ =>
    have g0 := hf 0 _ rfl
    have g1 := hf 1 _ rfl
    have g2 := hf 2 _ rfl
    have g3 := hf 3 _ rfl
    have g4 := hf 4 _ rfl
    have g5 := hf 5 _ rfl
    simp [cells3, cells2, cells37] at g0 g1 g2 g3 g4 g5
    obtain ⟨d0, e0, _, _⟩ := DataW.trod_int Tryd.underlying3 g0
    obtain ⟨d1, e1, _, _⟩ := DataW.trod_int Tryd.underlying3 g1
    obtain ⟨d2, e2, _, _⟩ := DataW.trod_int Tryd.underlying3 g2
    obtain ⟨d3, e3, _, _⟩ := DataW.trod_int Tryd.underlying3 g3
    obtain ⟨d4, e4, _, w4⟩ := DataW.trod_int Tryd.underlying2 g4
    obtain ⟨a, c, ks, e5, hk, hkc, hcm, hkn, hw, hbk⟩ := read_intsB g5
    simp at e0 e1 e2 e3 e4
    subst e0 e1 e2 e3 e4 e5
    refine ⟨⟨d0, d1, d2, d3, d4, a, c, ks⟩, rfl, ⟨hk, ?_, hkc, hkn⟩, w4, by simp only [List.map, Rows.uptoBulk, Rows.uptoBulkAll]; show ks.length + 1 ≤ _; omega⟩
    rcases hw with hw | ⟨n, hn, hle⟩
    · show ks.length ≤ _
      rw [hw]; omega
    · have h1 : ks.length * 8 ≤ reachBytes := by
        refine Nat.le_trans hle (hS n ?_)
        simp only [List.map, DataW.weights, Tryd.underlying39, DataW.weightsEach, List.mem_append]
        exact .inr (.inr (.inr (.inr (.inr (.inl hn)))))
      unfold reachBytes at h1
      show ks.length ≤ _
      omega

theorem read_inssB {H : Type} {enc : TypeId × Value → H} {w : World} {spare : Nat → Bool} {held : Bool} {fuel : Nat} {v : Value} {x : DataW H × List MemPlace} (h : DataW.trod enc Tryd.prog w 0 spare held fuel 32 [v] = some x) (hS : ∀ n ∈ x.1.weights Tryd.prog 32, n ≤ reachBytes) :
    ∃ (a : Option Addr) (cap : Nat) (L : List In), v = .slice a L.length cap ∧ IAt w.heap.size w a L ∧ L.length ≤ 2300000000000 ∧ L.length ≤ cap ∧ (a = none → cap = 0) ∧ (∀ y ∈ L, wfI y.k) ∧ (L.map costI).sum ≤ Rows.uptoBulk x.1 := by
  rcases open_slice Tryd.underlying32 h with ⟨e, rfl⟩ | ⟨a, len, cap, m, n, D, Pl, e, _, hl, hm, hmm, rfl, hc⟩
  · simp at e
    subst e
    exact ⟨none, 0, [], rfl, fun i x hx => by simp at hx, by simp, by simp, fun _ => rfl, fun y hy => by simp at hy, by simp⟩
  · simp at e
    subst e
    have hlm : len ≤ m := by rw [hmm]; split <;> omega
    rw [cells39] at hc
    have hlen : len * 64 ≤ reachBytes := by
      refine Nat.le_trans ?_ (hS _ (by simp only [DataW.weights, Tryd.underlying32]; exact List.mem_cons_self))
      rw [bytes39]
      simp
      exact Nat.mul_le_mul_right _ (by omega)
    have each : ∀ i, i < len → ∃ y : In, (∀ j, j < 6 → w.cell? (a.add (i * 6 + j)) = y.arr.toList[j]?) ∧ InOk w.heap.size w y ∧ wfI y.k ∧ y.l.length + 1 ≤ Rows.uptoBulk (D i) := by
      intro i hi
      obtain ⟨cs', h1, h2⟩ := hc i (by omega)
      obtain ⟨_, hlen, hcell⟩ := World.cells?_some h1
      obtain ⟨y, rfl, hs⟩ := read_inB h2 (fun n hn => hS n (by
        simp only [DataW.weights, Tryd.underlying32, List.mem_cons, List.mem_append]
        exact .inr (.inl (weights_all _ i (D i) (by simp [hi]) n hn))))
      refine ⟨y, fun j hj => ?_, hs⟩
      have := hcell j hj
      rwa [add_add] at this
    obtain ⟨L, hL, hp⟩ := choose_lt each
    refine ⟨some a, cap, L, by rw [hL], ?_, (by rw [hL]; unfold reachBytes at hlen; omega), (by rw [hL]; exact hl), (fun h => (by cases h)), fun y hy => ?_, ?_⟩
    · intro i y hy
      obtain ⟨hcl, hk, _⟩ := hp i y hy
      have h0 : 0 < L.length := by have := (List.getElem?_eq_some_iff.1 hy).1; omega
      have hs0 := (hp 0 L[0] (List.getElem?_eq_getElem h0)).1 0 (by omega)
      obtain ⟨b, off, spot⟩ := a
      have hspot : spot = none := by simpa [Addr.add] using World.cell?_spot hs0
      subst hspot
      have hadd : ∀ j, (Addr.mk b off none).add j = ⟨b, off + j, none⟩ := fun j => Addr.add_lit b off j
      simp only [hadd] at hcl
      have hblk : b < w.heap.size := World.block_lt_of_cell? w _ (hcl 0 (by omega))
      refine ⟨b, off, rfl, hblk, ?_⟩
      have e := fun j hj => (hcl j hj)
      exact ⟨e 0 (by omega), e 1 (by omega), e 2 (by omega), e 3 (by omega), e 4 (by omega), e 5 (by omega), hk⟩
    · obtain ⟨i, hi⟩ := List.getElem?_of_mem hy
      exact (hp i y hi).2.2.1
    · have hs := bulk_sum (cost := costI) L D (fun i y hy => (hp i y hy).2.2.2)
      rw [hL] at hs
      simp only [Rows.uptoBulk]
      omega

theorem read_funB {H : Type} {enc : TypeId × Value → H} {w : World} {spare : Nat → Bool} {held : Bool} {fuel : Nat} {cs : List Value} {x : DataW H × List MemPlace} (h : DataW.trod enc Tryd.prog w 0 spare held fuel 34 cs = some x) (hS : ∀ n ∈ x.1.weights Tryd.prog 34, n ≤ reachBytes) :
    ∃ y : Fu, cs = y.arr.toList ∧ FuOk w.heap.size w y ∧ (∀ z ∈ y.code, wfI z.k) ∧ y.code.length ≤ 2300000000000 ∧ costF y ≤ Rows.uptoBulk x.1 := by
  obtain ⟨xs, n, _, rfl, hl, hlen, hf⟩ := DataW.trod_struct Tryd.underlying34 h
  rw [cells34] at hl
  match cs, hl, xs, hlen with
  | [v0, v1, v2, v3], _, [y0, y1, y2, y3], _ =>
    have g0 := hf 0 _ rfl
    have g1 := hf 1 _ rfl
    have g2 := hf 2 _ rfl
    have g3 := hf 3 _ rfl
    simp [cells9, cells3, cells32] at g0 g1 g2 g3
    obtain ⟨s, e0, e0', _⟩ := DataW.trod_string Tryd.underlying9 g0
    obtain ⟨d1, e1, _, _⟩ := DataW.trod_int Tryd.underlying3 g1
    obtain ⟨d2, e2, _, _⟩ := DataW.trod_int Tryd.underlying3 g2
    have hS3 : ∀ n ∈ y3.1.weights Tryd.prog 32, n ≤ reachBytes := fun n hn => hS n (by
      simp only [List.map, DataW.weights, Tryd.underlying34, DataW.weightsEach, List.mem_append]
      exact .inr (.inr (.inr (.inl hn))))
    obtain ⟨a, cap, L, e3, hI, hll, hlc, hkn, hwk, hbk⟩ := read_inssB g3 hS3
    simp at e0 e1 e2
    subst e0 e1 e2 e3
    have hs : s.size ≤ reachBytes := by
      refine hS _ ?_
      simp only [List.map, DataW.weights, Tryd.underlying34, DataW.weightsEach, List.mem_append]
      refine .inl ?_
      rw [e0']
      simp [DataW.weights]
    unfold reachBytes at hs
    exact ⟨⟨s, d1, d2, a, cap, L⟩, rfl, ⟨hI, by show s.size ≤ _; omega, by show L.length ≤ _; omega, hlc, hkn⟩, hwk, hll, by
      simp only [List.map, Rows.uptoBulk, Rows.uptoBulkAll, e0', costF]
      simp only [ByteArray.size, Array.length_toList] at *
      omega⟩
theorem fun_formB {H : Type} {enc : TypeId × Value → H} {w w' : World} {r} {base : Nat} {spare : Nat → Bool} {held : Bool} {fuel : Nat} {v : Value} {x : DataW H × List MemPlace} (hv : Value.okWide Tryd.prog w' r base 34 v) (h : DataW.trod enc Tryd.prog w 0 spare held fuel 34 v.cells.toList = some x) (hS : ∀ n ∈ x.1.weights Tryd.prog 34, n ≤ reachBytes) :
    ∃ y : Fu, v = .agg y.arr ∧ FuOk w.heap.size w y ∧ (∀ z ∈ y.code, wfI z.k) ∧ y.code.length ≤ 2300000000000 ∧ costF y ≤ Rows.uptoBulk x.1 := by
  obtain ⟨cs, rfl, _⟩ := okWide_struct Tryd.underlying34 hv
  obtain ⟨y, e, hy⟩ := read_funB h hS
  refine ⟨y, ?_, hy⟩
  cases cs
  simp only [Value.cells] at e
  rw [e]
theorem read_funsB {H : Type} {enc : TypeId × Value → H} {w : World} {spare : Nat → Bool} {held : Bool} {fuel : Nat} {v : Value} {x : DataW H × List MemPlace} (h : DataW.trod enc Tryd.prog w 0 spare held fuel 22 [v] = some x) (hS : ∀ n ∈ x.1.weights Tryd.prog 22, n ≤ reachBytes) :
    ∃ (a : Option Addr) (cap : Nat) (L : List Fu), v = .slice a L.length cap ∧ FAt w.heap.size w a L ∧ L.length ≤ 2600000000000 ∧ L.length ≤ cap ∧ (a = none → cap = 0) ∧ (∀ y ∈ L, (∀ z ∈ y.code, wfI z.k) ∧ y.code.length ≤ 2300000000000) ∧ (L.map costF).sum ≤ Rows.uptoBulk x.1 := by
  rcases open_slice Tryd.underlying22 h with ⟨e, rfl⟩ | ⟨a, len, cap, m, n, D, Pl, e, _, hl, hm, hmm, rfl, hc⟩
  · simp at e
    subst e
    exact ⟨none, 0, [], rfl, fun i x hx => by simp at hx, by simp, by simp, fun _ => rfl, fun y hy => by simp at hy, by simp⟩
  · simp at e
    subst e
    have hlm : len ≤ m := by rw [hmm]; split <;> omega
    rw [cells34] at hc
    have hlen : len * 56 ≤ reachBytes := by
      refine Nat.le_trans ?_ (hS _ (by simp only [DataW.weights, Tryd.underlying22]; exact List.mem_cons_self))
      rw [bytes34]
      simp
      exact Nat.mul_le_mul_right _ (by omega)
    have each : ∀ i, i < len → ∃ y : Fu, (∀ j, j < 4 → w.cell? (a.add (i * 4 + j)) = y.arr.toList[j]?) ∧ FuOk w.heap.size w y ∧ ((∀ z ∈ y.code, wfI z.k) ∧ y.code.length ≤ 2300000000000) ∧ costF y ≤ Rows.uptoBulk (D i) := by
      intro i hi
      obtain ⟨cs', h1, h2⟩ := hc i (by omega)
      obtain ⟨_, hlen, hcell⟩ := World.cells?_some h1
      obtain ⟨y, rfl, hs1, hs2, hs3, hs4⟩ := read_funB h2 (fun n hn => hS n (by
        simp only [DataW.weights, Tryd.underlying22, List.mem_cons, List.mem_append]
        exact .inr (.inl (weights_all _ i (D i) (by simp [hi]) n hn))))
      refine ⟨y, fun j hj => ?_, hs1, ⟨hs2, hs3⟩, hs4⟩
      have := hcell j hj
      rwa [add_add] at this
    obtain ⟨L, hL, hp⟩ := choose_lt each
    refine ⟨some a, cap, L, by rw [hL], ?_, (by rw [hL]; unfold reachBytes at hlen; omega), (by rw [hL]; exact hl), (fun h => (by cases h)), fun y hy => ?_, ?_⟩
    · intro i y hy
      obtain ⟨hcl, hk, _⟩ := hp i y hy
      have h0 : 0 < L.length := by have := (List.getElem?_eq_some_iff.1 hy).1; omega
      have hs0 := (hp 0 L[0] (List.getElem?_eq_getElem h0)).1 0 (by omega)
      obtain ⟨b, off, spot⟩ := a
      have hspot : spot = none := by simpa [Addr.add] using World.cell?_spot hs0
      subst hspot
      have hadd : ∀ j, (Addr.mk b off none).add j = ⟨b, off + j, none⟩ := fun j => Addr.add_lit b off j
      simp only [hadd] at hcl
      have hblk : b < w.heap.size := World.block_lt_of_cell? w _ (hcl 0 (by omega))
      refine ⟨b, off, rfl, hblk, ?_⟩
      have e := fun j hj => (hcl j hj)
      exact ⟨e 0 (by omega), e 1 (by omega), e 2 (by omega), e 3 (by omega), hk⟩
    · obtain ⟨i, hi⟩ := List.getElem?_of_mem hy
      exact (hp i y hi).2.2.1
    · have hs := bulk_sum (cost := costF) L D (fun i y hy => (hp i y hy).2.2.2)
      rw [hL] at hs
      simp only [Rows.uptoBulk]
      omega

theorem code_formB {H : Type} {enc : TypeId × Value → H} {w w' : World} {r} {base : Nat} {spare : Nat → Bool} {held : Bool} {fuel : Nat} {v : Value} {x : DataW H × List MemPlace} (hv : Value.okWide Tryd.prog w' r base 24 v) (h : DataW.trod enc Tryd.prog w 0 spare held fuel 24 v.cells.toList = some x) (hS : ∀ n ∈ x.1.weights Tryd.prog 24, n ≤ reachBytes) :
    ∃ (F : List Fu) (fa : Option Addr) (cap : Nat) (mn mg : Int), v = .agg #[.slice fa F.length cap, .int .i64 mn, .int .i64 mg] ∧ FAt w.heap.size w fa F ∧ (F.length ≤ 2600000000000 ∧ F.length ≤ cap ∧ (fa = none → cap = 0)) ∧ (∀ y ∈ F, (∀ z ∈ y.code, wfI z.k) ∧ y.code.length ≤ 2300000000000) ∧ mg ≤ 9223372036854775807 ∧ (F.map costF).sum ≤ Rows.uptoBulk x.1 := by
  obtain ⟨cs, rfl, _⟩ := okWide_struct Tryd.underlying24 hv
  obtain ⟨xs, n, _, rfl, hl, hlen, hf⟩ := DataW.trod_struct Tryd.underlying24 h
  rw [cells24] at hl
  obtain ⟨cs⟩ := cs
  simp only [Value.cells] at hl hf
  match cs, hl, xs, hlen with
  | [v0, v1, v2], _, [y0, y1, y2], _ =>
    have g0 := hf 0 _ rfl
    have g1 := hf 1 _ rfl
    have g2 := hf 2 _ rfl
    simp [cells22, cells3] at g0 g1 g2
    obtain ⟨d1, e1, _, _⟩ := DataW.trod_int Tryd.underlying3 g1
    obtain ⟨d2, e2, _, w2⟩ := DataW.trod_int Tryd.underlying3 g2
    have hS0 : ∀ n ∈ y0.1.weights Tryd.prog 22, n ≤ reachBytes := fun n hn => hS n (by
      simp only [List.map, DataW.weights, Tryd.underlying24, DataW.weightsEach, List.mem_append]
      exact .inl hn)
    obtain ⟨a, cap, L, e0, hI, hll, hlc, hkn, hwk, hbk⟩ := read_funsB g0 hS0
    simp at e1 e2
    subst e0 e1 e2
    exact ⟨L, a, cap, d1, d2, rfl, hI, ⟨hll, hlc, hkn⟩, hwk, wf_le w2, by simp only [List.map, Rows.uptoBulk, Rows.uptoBulkAll]; omega⟩
end Go.Proofs.YtdaealionicmjaaDoor
