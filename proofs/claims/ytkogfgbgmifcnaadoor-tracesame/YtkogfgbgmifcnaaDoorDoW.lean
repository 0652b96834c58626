/-
  How a trace that comes in is read, however much it holds: each list fits; condition: the arguments' weights.
-/
import Derived.Test.YtkogfgbgmifcnaaDoorDor
namespace Go.Proofs.YtkogfgbgmifcnaaDoor
open Go.ChangeShapes Go.WideShapes Go.ChangeAt Go.RowKit Go.Deep
set_option linter.unusedVariables false
set_option linter.unusedSimpArgs false
set_option maxRecDepth 100000
theorem bytes3 : Tryd.prog.bytesOf 3 = 8 := by kernel_rfl
theorem bytes48 : Tryd.prog.bytesOf 48 = 56 := by kernel_rfl
theorem bytes57 : Tryd.prog.bytesOf 57 = 56 := by kernel_rfl
theorem bytes59 : Tryd.prog.bytesOf 59 = 32 := by kernel_rfl
theorem bytes51 : Tryd.prog.bytesOf 51 = 32 := by kernel_rfl
theorem weights_all {H : Type} {P : Program} {e : TypeId} : ∀ (l : List (DataW H)) (i : Nat) (d : DataW H), l[i]? = some d → ∀ n ∈ d.weights P e, n ∈ DataW.weightsAll P e l
  | [], i, d, h, n, hn => by simp at h
  | d0 :: l, 0, d, h, n, hn => by simp at h; subst h; simp only [DataW.weightsAll, List.mem_append]; exact .inl hn
  | d0 :: l, i + 1, d, h, n, hn => by simp only [DataW.weightsAll, List.mem_append]; exact .inr (weights_all l i d (by simpa using h) n hn)
section
variable {H : Type} {enc : TypeId × Value → H} {w : World} {spare : Nat → Bool} {held : Bool} {fuel : Nat} {x : DataW H × List MemPlace}
theorem read_listW {α : Type} {t e : TypeId} {m by_ : Nat} (hm : 0 < m) (he : roT e = true) (ht : Tryd.prog.underlying t = some (.slice e)) (hce : Tryd.prog.cellsOf e = m) (hbe : Tryd.prog.bytesOf e = by_) (f : α → List Value) (p : α → Prop) (hf : ∀ y, p y → (f y).length = m)
    (rd : ∀ {fuel : Nat} {cs : List Value} {x : DataW H × List MemPlace}, DataW.trod enc Tryd.prog w 0 spare held fuel e cs = some x → (∀ n ∈ x.1.weights Tryd.prog e, n ≤ reachBytes) → ∃ y, cs = f y ∧ p y) {v : Value} (h : DataW.trod enc Tryd.prog w 0 spare held fuel t [v] = some x) (hS : ∀ n ∈ x.1.weights Tryd.prog t, n ≤ reachBytes) :
    ∃ (a : Option Addr) (cap : Nat) (L : List α), v = .slice a L.length cap ∧ (∀ y ∈ L, p y) ∧ SL w w.heap.size e a L.length cap m by_ (L.flatMap f) := by
  rcases DataW.trod_slice ht h with ⟨e1, rfl⟩ | ⟨a, len, cap, elems, rest, n, _, e1, rfl, _, hlc, hcm, hel, hc, _, _⟩
  · simp at e1
    subst e1
    exact ⟨none, 0, [], rfl, by simp, SL.nil _ _ _ _ he⟩
  · simp at e1
    subst e1
    have hwt : len * by_ ≤ 140737488355328 := by
      have h1 := hS _ (by simp only [DataW.weights, ht]; exact List.mem_cons_self)
      rw [hbe] at h1
      simp only [List.length_map] at h1
      have h2 : reachBytes ≤ 140737488355328 := by decide
      have h3 : len * by_ ≤ (elems.length + rest.length) * by_ := Nat.mul_le_mul_right _ (by omega)
      omega
    have each : ∀ i, i < len → ∃ y : α, (∀ (j : Nat) (u : Value), (f y)[j]? = some u → w.cell? (a.add (i * m + j)) = some u) ∧ p y := by
      intro i hi
      have h0 := hc i hi
      rw [List.getElem?_eq_getElem (by omega), hce] at h0
      obtain ⟨cs', h1, h2⟩ := Option.bind_eq_some_iff.1 h0
      obtain ⟨_, hlen, hcell⟩ := World.cells?_some h1
      obtain ⟨y, rfl, hp⟩ := rd h2 (fun n hn => hS n (by
        simp only [DataW.weights, ht, List.mem_cons, List.mem_append]
        exact .inr (.inl (weights_all _ i _ (by simp [List.getElem?_eq_getElem (show i < elems.length by omega)]) n hn))))
      refine ⟨y, fun j u hu => ?_, hp⟩
      have hj : j < m := by have := (List.getElem?_eq_some_iff.1 hu).1; rw [hf y hp] at this; exact this
      have := hcell j hj
      rw [add_add] at this
      rw [this]; exact hu
    obtain ⟨L, hL, hp⟩ := choose_lt each
    have hpp : ∀ y ∈ L, p y := fun y hy => by
      obtain ⟨i, hi⟩ := List.getElem?_of_mem hy
      exact (hp i y hi).2
    refine ⟨some a, cap, L, by rw [hL], hpp, ?_⟩
    refine ⟨he, flat_len (fun y hy => hf y (hpp y hy)), fun h => (by cases h), by omega, by rw [hL]; exact hwt, fun j u hu => ?_⟩
    obtain ⟨y, hy, hyu⟩ := flat_cell hm (fun y hy => hf y (hpp y hy)) hu
    have hcl := (hp _ y hy).1 _ _ hyu
    rw [Nat.div_add_mod' j m] at hcl
    have hl0 : 0 < L.length := Nat.lt_of_le_of_lt (Nat.zero_le _) (List.getElem?_eq_some_iff.1 hy).1
    have hq0 : L[0]? = some L[0] := List.getElem?_eq_getElem hl0
    have hs := (hp 0 L[0] hq0).1 0 _ (List.getElem?_eq_getElem (by rw [hf _ (hpp _ (List.mem_of_getElem? hq0))]; exact hm))
    obtain ⟨b, off, spot⟩ := a
    have hspot : spot = none := by simpa [Addr.add] using World.cell?_spot hs
    subst hspot
    rw [Addr.add_lit] at hcl
    exact ⟨b, off, rfl, hcl, .inl (World.block_lt_of_cell? w _ hcl)⟩
theorem read_intsW {v : Value} (h : DataW.trod enc Tryd.prog w 0 spare held fuel 27 [v] = some x) (hS : ∀ n ∈ x.1.weights Tryd.prog 27, n ≤ reachBytes) : ∃ (a : Option Addr) (cap : Nat) (L : List Int), v = .slice a L.length cap ∧ SL w w.heap.size 3 a L.length cap 1 8 (L.map (Value.int .i64)) := by
  obtain ⟨a, cap, L, h1, h2, h3⟩ := read_listW (α := Int) (m := 1) (by omega) rfl Tryd.underlying27 cells3 bytes3 (fun y => [.int .i64 y]) (fun _ => True) (fun _ _ => rfl) (fun h _ => by obtain ⟨n, e, _, _⟩ := DataW.trod_int Tryd.underlying3 h; exact ⟨n, e, trivial⟩) h hS
  refine ⟨a, cap, L, h1, ?_⟩
  rw [show L.map (Value.int .i64) = L.flatMap (fun y => [.int .i64 y]) by clear h1 h2 h3; induction L with | nil => rfl | cons x r ih => simp only [List.map_cons, List.flatMap_cons, ih]; rfl]
  exact h3
theorem read_srcsW {v : Value} (h : DataW.trod enc Tryd.prog w 0 spare held fuel 31 [v] = some x) (hS : ∀ n ∈ x.1.weights Tryd.prog 31, n ≤ reachBytes) : ∃ (a : Option Addr) (cap : Nat) (L : List Sr), v = .slice a L.length cap ∧ (∀ y ∈ L, y.w) ∧ SL w w.heap.size 51 a L.length cap 4 32 (flatS L) :=
  read_listW (α := Sr) (m := 4) (by omega) rfl Tryd.underlying31 cells51 bytes51 Sr.cl Sr.w (fun _ _ => rfl) (fun h _ => by obtain ⟨s, e, hw, _⟩ := read_src h; exact ⟨s, e, hw⟩) h hS
theorem read_opW {cs : List Value} (h : DataW.trod enc Tryd.prog w 0 spare held fuel 48 cs = some x) (hS : ∀ n ∈ x.1.weights Tryd.prog 48, n ≤ reachBytes) : ∃ y : El, cs = y.cl ∧ ElOk w w.heap.size 1 3 y ∧ ∀ s ∈ y.l, s.w := by
  obtain ⟨xs, n, _, rfl, hl, hlen, hf⟩ := DataW.trod_struct Tryd.underlying48 h
  rw [cells48] at hl
  match cs, hl, xs, hlen with
  | [v0, v1, v2, v3, v4], _, [y0, y1, y2, y3, y4], _ =>
    have g0 := hf 0 _ rfl
    have g1 := hf 1 _ rfl
    have g2 := hf 2 _ rfl
    have g3 := hf 3 _ rfl
    have g4 := hf 4 _ rfl
    simp [cells3, cells2, cells31] at g0 g1 g2 g3 g4
    have hS1 : ∀ n ∈ y1.1.weights Tryd.prog 31, n ≤ reachBytes := fun n hn => hS n (by
      simp only [List.map, DataW.weights, Tryd.underlying48, DataW.weightsEach, List.mem_append]
      exact .inr (.inl hn))
    obtain ⟨d0, e0, _, _⟩ := DataW.trod_int Tryd.underlying3 g0
    obtain ⟨a, c, L, e1, hw, hs⟩ := read_srcsW g1 hS1
    obtain ⟨d2, e2, _, _⟩ := DataW.trod_int Tryd.underlying2 g2
    obtain ⟨d3, e3, _, _⟩ := DataW.trod_int Tryd.underlying3 g3
    obtain ⟨d4, e4, _, _⟩ := DataW.trod_int Tryd.underlying3 g4
    simp at e0 e2 e3 e4
    subst e0 e1 e2 e3 e4
    exact ⟨⟨[d0], [d2, d3, d4], a, c, L⟩, rfl, ⟨rfl, rfl, hs⟩, hw⟩
theorem read_linkW {cs : List Value} (h : DataW.trod enc Tryd.prog w 0 spare held fuel 57 cs = some x) (hS : ∀ n ∈ x.1.weights Tryd.prog 57, n ≤ reachBytes) : ∃ y : El, cs = y.cl ∧ ElOk w w.heap.size 4 0 y ∧ ∀ s ∈ y.l, s.w := by
  obtain ⟨xs, n, _, rfl, hl, hlen, hf⟩ := DataW.trod_struct Tryd.underlying57 h
  rw [cells57] at hl
  match cs, hl, xs, hlen with
  | [v0, v1, v2, v3, v4], _, [y0, y1, y2, y3, y4], _ =>
    have g0 := hf 0 _ rfl
    have g1 := hf 1 _ rfl
    have g2 := hf 2 _ rfl
    have g3 := hf 3 _ rfl
    have g4 := hf 4 _ rfl
    simp [cells3, cells2, cells31] at g0 g1 g2 g3 g4
    have hS1 : ∀ n ∈ y4.1.weights Tryd.prog 31, n ≤ reachBytes := fun n hn => hS n (by
      simp only [List.map, DataW.weights, Tryd.underlying57, DataW.weightsEach, List.mem_append]
      exact .inr (.inr (.inr (.inr (.inl hn)))))
    obtain ⟨d0, e0, _, _⟩ := DataW.trod_int Tryd.underlying3 g0
    obtain ⟨d1, e1, _, _⟩ := DataW.trod_int Tryd.underlying3 g1
    obtain ⟨d2, e2, _, _⟩ := DataW.trod_int Tryd.underlying3 g2
    obtain ⟨d3, e3, _, _⟩ := DataW.trod_int Tryd.underlying3 g3
    obtain ⟨a, c, L, e4, hw, hs⟩ := read_srcsW g4 hS1
    simp at e0 e1 e2 e3
    subst e0 e1 e2 e3 e4
    exact ⟨⟨[d0, d1, d2, d3], [], a, c, L⟩, rfl, ⟨rfl, rfl, hs⟩, hw⟩
theorem read_virtW {cs : List Value} (h : DataW.trod enc Tryd.prog w 0 spare held fuel 59 cs = some x) (hS : ∀ n ∈ x.1.weights Tryd.prog 59, n ≤ reachBytes) : ∃ y : El, cs = y.cl ∧ ElOk w w.heap.size 1 0 y ∧ ∀ s ∈ y.l, s.w := by
  obtain ⟨xs, n, _, rfl, hl, hlen, hf⟩ := DataW.trod_struct Tryd.underlying59 h
  rw [cells59] at hl
  match cs, hl, xs, hlen with
  | [v0, v1], _, [y0, y1], _ =>
    have g0 := hf 0 _ rfl
    have g1 := hf 1 _ rfl
    simp [cells3, cells2, cells31] at g0 g1
    have hS1 : ∀ n ∈ y1.1.weights Tryd.prog 31, n ≤ reachBytes := fun n hn => hS n (by
      simp only [List.map, DataW.weights, Tryd.underlying59, DataW.weightsEach, List.mem_append]
      exact .inr (.inl hn))
    obtain ⟨d0, e0, _, _⟩ := DataW.trod_int Tryd.underlying3 g0
    obtain ⟨a, c, L, e1, hw, hs⟩ := read_srcsW g1 hS1
    simp at e0
    subst e0 e1
    exact ⟨⟨[d0], [], a, c, L⟩, rfl, ⟨rfl, rfl, hs⟩, hw⟩
theorem read_traceW {cs : List Value} (h : DataW.trod enc Tryd.prog w 0 spare held fuel 33 cs = some x) (hS : ∀ n ∈ x.1.weights Tryd.prog 33, n ≤ reachBytes) : ∃ t : Tr, cs = t.cl ∧ TrOk w w.heap.size t ∧ ATOk t.abs := by
  obtain ⟨xs, n, _, rfl, hl, hlen, hf⟩ := DataW.trod_struct Tryd.underlying33 h
  rw [cells33] at hl
  match cs, hl, xs, hlen with
  | [v0, v1, v2, v3, v4, v5, v6, v7, v8, v9, v10, v11, v12, v13, v14, v15, v16], _, [y0, y1, y2, y3, y4, y5, y6, y7], _ =>
    have g0 := hf 0 _ rfl
    have g1 := hf 1 _ rfl
    have g2 := hf 2 _ rfl
    have g3 := hf 3 _ rfl
    have g4 := hf 4 _ rfl
    have g5 := hf 5 _ rfl
    have g6 := hf 6 _ rfl
    have g7 := hf 7 _ rfl
    simp [cells3, cells26, cells27, cells28, cells29, cells30, cells31] at g0 g1 g2 g3 g4 g5 g6 g7
    have hS3 : ∀ n ∈ y3.1.weights Tryd.prog 27, n ≤ reachBytes := fun n hn => hS n (by
      simp only [List.map, DataW.weights, Tryd.underlying33, DataW.weightsEach, List.mem_append]
      exact .inr (.inr (.inr (.inl hn))))
    have hS4 : ∀ n ∈ y4.1.weights Tryd.prog 28, n ≤ reachBytes := fun n hn => hS n (by
      simp only [List.map, DataW.weights, Tryd.underlying33, DataW.weightsEach, List.mem_append]
      exact .inr (.inr (.inr (.inr (.inl hn)))))
    have hS5 : ∀ n ∈ y5.1.weights Tryd.prog 29, n ≤ reachBytes := fun n hn => hS n (by
      simp only [List.map, DataW.weights, Tryd.underlying33, DataW.weightsEach, List.mem_append]
      exact .inr (.inr (.inr (.inr (.inr (.inl hn))))))
    have hS6 : ∀ n ∈ y6.1.weights Tryd.prog 30, n ≤ reachBytes := fun n hn => hS n (by
      simp only [List.map, DataW.weights, Tryd.underlying33, DataW.weightsEach, List.mem_append]
      exact .inr (.inr (.inr (.inr (.inr (.inr (.inl hn)))))))
    have hS7 : ∀ n ∈ y7.1.weights Tryd.prog 31, n ≤ reachBytes := fun n hn => hS n (by
      simp only [List.map, DataW.weights, Tryd.underlying33, DataW.weightsEach, List.mem_append]
      exact .inr (.inr (.inr (.inr (.inr (.inr (.inr (.inl hn))))))))
    obtain ⟨k, e0, hk⟩ := read_key g0
    obtain ⟨d1, e1, _, _⟩ := DataW.trod_int Tryd.underlying3 g1
    obtain ⟨d2, e2, _, _⟩ := DataW.trod_int Tryd.underlying3 g2
    obtain ⟨ia, ic, ins, e3, s3⟩ := read_intsW g3 hS3
    obtain ⟨oa, oc, ops, e4, p4, s4⟩ := read_listW (α := El) (m := 5) (by omega) rfl Tryd.underlying28 cells48 bytes48 El.cl (fun y => ElOk w w.heap.size 1 3 y ∧ ∀ s ∈ y.l, s.w) (fun y hy => El.cl_len hy.1) read_opW g4 hS4
    obtain ⟨la, lc, links, e5, p5, s5⟩ := read_listW (α := El) (m := 5) (by omega) rfl Tryd.underlying29 cells57 bytes57 El.cl (fun y => ElOk w w.heap.size 4 0 y ∧ ∀ s ∈ y.l, s.w) (fun y hy => El.cl_len hy.1) read_linkW g5 hS5
    obtain ⟨va, vc, virts, e6, p6, s6⟩ := read_listW (α := El) (m := 2) (by omega) rfl Tryd.underlying30 cells59 bytes59 El.cl (fun y => ElOk w w.heap.size 1 0 y ∧ ∀ s ∈ y.l, s.w) (fun y hy => El.cl_len hy.1) read_virtW g6 hS6
    obtain ⟨ba, bc, back, e7, p7, s7⟩ := read_srcsW g7 hS7
    simp at e1 e2
    subst e1 e2 e3 e4 e5 e6 e7
    refine ⟨⟨k, d1, d2, ia, ic, ins, oa, oc, ops, la, lc, links, va, vc, virts, ba, bc, back⟩, ?_, ⟨s3, s4, fun e he => (p4 e he).1, s5, fun e he => (p5 e he).1, s6, fun e he => (p6 e he).1, s7⟩, hk, p7, fun e he => ?_, fun e he => ?_, fun e he => ?_⟩
    · obtain ⟨a, b, c, d, e, f, g, h', i, j⟩ := k
      simp [kc, kl0] at e0
      obtain ⟨rfl, rfl, rfl, rfl, rfl, rfl, rfl, rfl, rfl, rfl⟩ := e0
      rfl
    · obtain ⟨y, hy, rfl⟩ := List.mem_map.1 he; exact (p4 y hy).2
    · obtain ⟨y, hy, rfl⟩ := List.mem_map.1 he; exact (p5 y hy).2
    · obtain ⟨y, hy, rfl⟩ := List.mem_map.1 he; exact (p6 y hy).2
end
theorem trace_formW {H : Type} {enc : TypeId × Value → H} {w w' : World} {r} {base : Nat} {spare : Nat → Bool} {held : Bool} {fuel : Nat} {v : Value} {x : DataW H × List MemPlace} (hv : Value.okWide Tryd.prog w' r base 33 v) (h : DataW.trod enc Tryd.prog w 0 spare held fuel 33 v.cells.toList = some x) (hS : ∀ n ∈ x.1.weights Tryd.prog 33, n ≤ reachBytes) :
    ∃ t : Tr, v = .agg t.arr ∧ TrOk w w.heap.size t ∧ ATOk t.abs := by
  obtain ⟨cs, rfl, _⟩ := okWide_struct Tryd.underlying33 hv
  obtain ⟨t, e, ht⟩ := read_traceW h hS
  refine ⟨t, ?_, ht⟩
  congr 1
  exact Array.toList_inj.1 (by simpa [Value.cells, Tr.arr] using e)
end Go.Proofs.YtkogfgbgmifcnaaDoor
