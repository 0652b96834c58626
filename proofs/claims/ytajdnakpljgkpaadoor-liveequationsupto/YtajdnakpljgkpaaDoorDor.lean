/-
  What the rows' lists give: the tables lie as the program's text lays them; how instructions, functions and code that come in are read; no condition.
-/
import Derived.Test.YtajdnakpljgkpaaDoorIrC
import Derived.Test.YtajdnakpljgkpaaDoorCards
import Derived.Test.YtajdnakpljgkpaaDoorTie
import Derived.WalkKit
import Derived.ProofKit
import Derived.OpenShut
import Derived.Deep.DeepHandedRow
import Derived.Lib.LaidTab
import Derived.Stop.LaidErr
import Derived.ChangeMaps5
import Derived.LaidMore
import Derived.SevenTiedAt
import Derived.Deep.Slices
import Derived.ChangeSlices
import Derived.SizedLaws
import Derived.Stop.Joined
import Derived.JoinedCond
namespace Go.Proofs.YtajdnakpljgkpaaDoor
open Go.ChangeShapes Go.WideShapes Go.ChangeAt Go.RowKit Go.Deep
set_option linter.unusedVariables false
set_option linter.unusedSimpArgs false
set_option maxRecDepth 100000

theorem own : ownKnob Tryd.prog.godebug = none := by kernel_rfl
theorem laidOut : laidOutB Tryd.prog = true := by kernel_rfl
def laidL : List (String × DataW Unit) := Rows.liveTablesRow.laid
def nmB : String := ((laidL.map Prod.fst)[0]?).getD ""
def nmR : String := ((laidL.map Prod.fst)[1]?).getD ""
def nmW : String := ((laidL.map Prod.fst)[2]?).getD ""
theorem gB : Tryd.prog.globalNamed nmB = some 0 := by kernel_rfl
theorem gR : Tryd.prog.globalNamed nmR = some 1 := by kernel_rfl
theorem gW : Tryd.prog.globalNamed nmW = some 2 := by kernel_rfl
theorem gBT : (Tryd.prog.globals[0]?).map (·.type) = some 133 := by kernel_rfl
theorem gRT : (Tryd.prog.globals[1]?).map (·.type) = some 146 := by kernel_rfl
theorem gWT : (Tryd.prog.globals[2]?).map (·.type) = some 146 := by kernel_rfl
theorem underB : Tryd.prog.underlying 133 = some (.array 64 5) := by kernel_rfl
theorem under5' : Tryd.prog.underlying 5 = some (.int .u8) := by kernel_rfl
theorem cells5 : Tryd.prog.cellsOf 5 = 1 := by kernel_rfl
theorem cellsB : Tryd.prog.cellsOf 133 = 64 := by kernel_rfl
theorem under146 : Tryd.prog.underlying 146 = some (.array 29 9) := by kernel_rfl
theorem cells146 : Tryd.prog.cellsOf 146 = 29 := by kernel_rfl
theorem cells9 : Tryd.prog.cellsOf 9 = 1 := by kernel_rfl
theorem cells3 : Tryd.prog.cellsOf 3 = 1 := by kernel_rfl
theorem cells2 : Tryd.prog.cellsOf 2 = 1 := by kernel_rfl
theorem cells30 : Tryd.prog.cellsOf 30 = 1 := by kernel_rfl
theorem cells59 : Tryd.prog.cellsOf 59 = 6 := by kernel_rfl
theorem cells22 : Tryd.prog.cellsOf 22 = 1 := by kernel_rfl
theorem cells24 : Tryd.prog.cellsOf 24 = 4 := by kernel_rfl
theorem bytes3 : Tryd.prog.bytesOf 3 = 8 := by kernel_rfl
theorem bytes59 : Tryd.prog.bytesOf 59 = 64 := by kernel_rfl
theorem bytes24 : Tryd.prog.bytesOf 24 = 56 := by kernel_rfl
def strData {H : Type} (zs : List (List UInt8)) : DataW H := .agg (zs.map fun z => .lit (.string z))
theorem laid_list : laidL = [(nmB, Lib.tabData .u8 (Lib.deBruijn64tab.map fun n : Nat => (n : Int))), (nmR, strData readsT), (nmW, strData writesT)] := by kernel_rfl
theorem cells_of_strs {H : Type} {enc : TypeId × Value → H} {P : Program} {w : World} {base : Nat} {sp : Nat → Bool} {held : Bool} {fuel : Nat} {t e : TypeId} {n : Nat} {cs : List Value} {zs : List (List UInt8)} {p : List MemPlace}
    (ht : P.underlying t = some (.array n e)) (he : P.underlying e = some .string) (hce : P.cellsOf e = 1) (hct : P.cellsOf t = n)
    (h : DataW.trod enc P w base sp held fuel t cs = some (strData zs, p)) : cs = zs.map fun z => Value.string ⟨z.toArray⟩ := by
  cases fuel with
  | zero => simp [DataW.trod] at h
  | succ fuel =>
    simp only [DataW.trod, ht, hce, hct, Nat.mul_one] at h
    split at h
    · rename_i hl
      obtain ⟨xs, hm, hx⟩ := Option.map_eq_some_iff.1 h
      have hxs : xs.map (·.1) = zs.map fun z => (DataW.lit (.string z) : DataW H) := by
        have := congrArg Prod.fst hx
        simpa [strData] using this
      have hxl : xs.length = n := by simpa using Lib.mapM_length hm
      have hzl : zs.length = n := by
        have := congrArg List.length hxs
        simp at this
        omega
      apply List.ext_getElem?
      intro i
      by_cases hi : i < n
      · obtain ⟨b, hb, hf⟩ := Lib.mapM_at hm i i (by simp [hi])
        obtain ⟨z, hc, rfl, _⟩ := DataW.trod_string he hf
        have h1 : cs[i]? = some (.string z) := by
          have := congrArg (·[0]?) hc
          simpa [List.getElem?_take, List.getElem?_drop] using this
        have h2 : (xs.map (·.1))[i]? = some (DataW.lit (.string z.data.toList) : DataW H) := by simp [hb]
        rw [hxs] at h2
        simp only [List.getElem?_map, Option.map_eq_some_iff, DataW.lit.injEq, Lit.string.injEq] at h2
        obtain ⟨z', hz', rfl⟩ := h2
        simp [h1, hz']
      · rw [List.getElem?_eq_none (by omega), List.getElem?_eq_none (by simp; omega)]
    · cases h
theorem tab_of {W : World} {nm : String} {g : Nat} {zs : List (List UInt8)} {l : List (String × DataW Unit)} (hg : Tryd.prog.globalNamed nm = some g) (hT : (Tryd.prog.globals[g]?).map (·.type) = some 146) (hz : zs.length = 29) (h : laidMet Tryd.prog ((nm, strData zs) :: l) W) : Tab1 W g zs := by
  have hs : W.var? Tryd.prog nm = some (zs.map fun z => Value.string ⟨z.toArray⟩).toArray := by
    obtain ⟨ps, ⟨g', t', cs, fuel, p, q, hg', ht', hvar, hd, _, _⟩, _⟩ := h
    obtain rfl := Option.some.inj (hg.symm.trans hg')
    obtain rfl := Option.some.inj (hT.symm.trans ht')
    rw [hvar, ← cells_of_strs under146 Tryd.underlying9 cells9 cells146 hd]
  refine ⟨fun n hn => ?_⟩
  have := World.var?_cell hg hs n
  rw [this]
  have hn' : n < zs.length := by omega
  simp [List.getD, hn', txt]
/-- What the rows' lists give. -/
theorem tabs {W : World} (h : laidMetH Tryd.prog laidL W) : Tabs W := by
  have h' : laidMet Tryd.prog laidL W := h
  rw [laid_list] at h'
  have t1 := Lib.tabIs_of_head gB gBT underB under5' cells5 cellsB h'
  have t2 := tab_of gR gRT rfl h'.tail
  have t3 := tab_of gW gWT rfl h'.tail.tail
  exact ⟨fun j hj => (t1.cell gB j (by simpa [Lib.deBruijn64tab] using hj)).trans (by rw [show ∀ l : List Nat, (l.map fun n : Nat => (n : Int)).getD j 0 = ((l.getD j 0 : Nat) : Int) from fun l => by simp only [List.getD, List.getElem?_map]; cases l[j]? <;> rfl]), t2, t3, World.block_lt_of_cell? W _ (t3.cell 0 (by decide))⟩
/-- A world for the witness. -/
def lay (c : Array Value) : Obj → Obj
  | .cells _ t frozen => .cells c t frozen
  | o => o
def strs (zs : List (List UInt8)) : Array Value := (zs.map fun z => Value.string ⟨z.toArray⟩).toArray
def laidW (w : World) : World :=
  { w with heap := ((w.heap.modify 0 (lay ((Lib.deBruijn64tab.map fun n : Nat => Value.int .u8 n).toArray))).modify 1 (lay (strs readsT))).modify 2 (lay (strs writesT)) }
theorem choose_lt {α : Type} {m : Nat} {p : Nat → α → Prop} (h : ∀ i, i < m → ∃ x, p i x) : ∃ l : List α, l.length = m ∧ ∀ (i : Nat) (x : α), l[i]? = some x → p i x := by
  induction m with
  | zero => exact ⟨[], rfl, fun i x hx => by simp at hx⟩
  | succ m ih =>
    obtain ⟨l, h1, h2⟩ := ih (fun i hi => h i (by omega))
    obtain ⟨x, hx⟩ := h m (by omega)
    refine ⟨l ++ [x], by simp [h1], fun i y hy => ?_⟩
    by_cases hi : i < l.length
    · rw [List.getElem?_append_left hi] at hy
      exact h2 i y hy
    · rw [List.getElem?_append_right (by omega)] at hy
      have h3 : i - l.length = 0 := by have := (List.getElem?_eq_some_iff.1 hy).1; simp at this; omega
      rw [h3] at hy
      simp at hy
      subst hy
      have : i = m := by omega
      subst this
      exact hx
theorem add_add (a : Addr) (i j : Nat) : (a.add i).add j = a.add (i + j) := by
  by_cases hi : i = 0 <;> by_cases hj : j = 0 <;> simp [Addr.add, hi, hj, Nat.add_assoc]
theorem weights_all {H : Type} {P : Program} {e : TypeId} : ∀ (l : List (DataW H)) (i : Nat) (d : DataW H), l[i]? = some d → ∀ n ∈ d.weights P e, n ∈ DataW.weightsAll P e l
  | [], i, d, h, n, hn => by simp at h
  | d0 :: l, 0, d, h, n, hn => by simp at h; subst h; simp only [DataW.weightsAll, List.mem_append]; exact .inl hn
  | d0 :: l, i + 1, d, h, n, hn => by simp only [DataW.weightsAll, List.mem_append]; exact .inr (weights_all l i d (by simpa using h) n hn)
def wfI (k : Int) : Prop := (Lit.int .i64 k).wf = true
theorem one_le {H : Type} (d : DataW H) : 1 ≤ Rows.uptoBulk d := by
  cases d with
  | lit l => cases l <;> simp [Rows.uptoBulk]
  | nil => simp [Rows.uptoBulk]
  | ptr d => simp [Rows.uptoBulk]
  | slice elems spare => simp [Rows.uptoBulk]
  | agg parts => simp [Rows.uptoBulk]
  | iface t d => simp [Rows.uptoBulk]
  | map entries => simp [Rows.uptoBulk]
  | held h => simp [Rows.uptoBulk]
theorem length_le {H : Type} (l : List (DataW H)) : l.length ≤ Rows.uptoBulkAll l := by
  induction l with
  | nil => simp [Rows.uptoBulkAll]
  | cons x r ih => have := one_le x; simp only [Rows.uptoBulkAll, List.length_cons]; omega
theorem bulk_sum {H α : Type} {cost : α → Nat} : ∀ (L : List α) (D : Nat → DataW H), (∀ i y, L[i]? = some y → cost y ≤ Rows.uptoBulk (D i)) → (L.map cost).sum ≤ Rows.uptoBulkAll ((List.range L.length).map D)
  | [], D, h => by simp [Rows.uptoBulkAll]
  | x :: r, D, h => by
    have h0 := h 0 x rfl
    have ih := bulk_sum r (fun i => D (i + 1)) (fun i y hy => h (i + 1) y (by simpa using hy))
    rw [List.length_cons, List.range_succ_eq_map]
    simp only [List.map_cons, List.sum_cons, List.map_map, Rows.uptoBulkAll]
    have e : (D ∘ Nat.succ) = fun i => D (i + 1) := rfl
    rw [e]
    omega
theorem wf_le {z : Int} (h : (Lit.int .i64 z).wf = true) : z ≤ 9223372036854775807 := by
  simp [Lit.wf, IntKind.wrap_i64] at h
  omega
def costI (y : In) : Nat := y.l.length + 1
def costF (y : Fu) : Nat := (y.code.map costI).sum + y.name.size + 1
theorem costI_len (L : List In) : L.length ≤ (L.map costI).sum := by
  induction L with
  | nil => simp
  | cons x r ih => simp only [List.map_cons, List.sum_cons, List.length_cons, costI]; omega
theorem costI_mem {L : List In} {x : In} (h : x ∈ L) : x.l.length ≤ (L.map costI).sum := by
  induction L with
  | nil => cases h
  | cons y r ih =>
    simp only [List.map_cons, List.sum_cons]
    rcases List.mem_cons.1 h with rfl | h
    · unfold costI; omega
    · have := ih h; omega
theorem read_intsB {H : Type} {enc : TypeId × Value → H} {w : World} {spare : Nat → Bool} {held : Bool} {fuel : Nat} {v : Value} {x : DataW H × List MemPlace} (h : DataW.trod enc Tryd.prog w 0 spare held fuel 30 [v] = some x) :
    ∃ (a : Option Addr) (c : Nat) (ks : List Int), v = .slice a ks.length c ∧ KAt w.heap.size w a ks ∧ ks.length ≤ c ∧ c ≤ maxLen ∧ (a = none → c = 0) ∧ (ks.length = 0 ∨ ∃ n ∈ x.1.weights Tryd.prog 30, ks.length * 8 ≤ n) ∧ ks.length + 1 ≤ Rows.uptoBulk x.1 := by
  rcases open_ints Tryd.underlying30 Tryd.underlying3 cells3 h with ⟨e, rfl⟩ | ⟨a, len, cap, zs, e, _, hl, hm, hz, rfl, hc, _⟩
  · simp at e
    subst e
    exact ⟨none, 0, [], rfl, KAt.nil, Nat.le_refl _, Nat.zero_le _, fun _ => rfl, .inl rfl, by simp [Rows.uptoBulk]⟩
  · simp at e
    subst e
    have hlz : len ≤ zs.length := by rw [hz]; split <;> omega
    have hl' : (zs.take len).length = len := by simp; omega
    refine ⟨some a, cap, zs.take len, ?_, ?_, ?_, hm, ?_, .inr ?_, ?_⟩
    · rw [hl']
    · intro j k hj
      have hj' : j < len := by have := (List.getElem?_eq_some_iff.1 hj).1; omega
      have h1 := hc j (by omega)
      have h2 : zs.getD j 0 = k := by
        rw [List.getElem?_take_of_lt hj'] at hj
        simp [List.getD, hj]
      rw [h2] at h1
      have h0 := hc 0 (by omega)
      obtain ⟨b, off, spot⟩ := a
      have hs : spot = none := by simpa [Addr.add] using World.cell?_spot h0
      subst hs
      rw [Addr.add_lit] at h1
      exact ⟨b, off, rfl, World.block_lt_of_cell? w _ h1, h1⟩
    · omega
    · intro h; cases h
    · refine ⟨_, by simp only [DataW.weights, Tryd.underlying30]; exact List.mem_cons_self, ?_⟩
      rw [bytes3, hl']
      simp only [lits, List.length_map, List.length_take, List.length_drop]
      omega
    · have := length_le (lits (H := H) .i64 (zs.take len))
      simp only [Rows.uptoBulk, lits, List.length_map] at this ⊢
      omega
theorem read_inB {H : Type} {enc : TypeId × Value → H} {w : World} {spare : Nat → Bool} {held : Bool} {fuel : Nat} {cs : List Value} {x : DataW H × List MemPlace} (h : DataW.trod enc Tryd.prog w 0 spare held fuel 59 cs = some x) (hS : ∀ n ∈ x.1.weights Tryd.prog 59, n ≤ reachBytes) :
    ∃ y : In, cs = y.arr.toList ∧ InOk w.heap.size w y ∧ wfI y.k ∧ y.l.length + 1 ≤ Rows.uptoBulk x.1 := by
  obtain ⟨xs, n, _, rfl, hl, hlen, hf⟩ := DataW.trod_struct Tryd.underlying59 h
  rw [cells59] at hl
  match cs, hl, xs, hlen with
  | [v0, v1, v2, v3, v4, v5], _, [y0, y1, y2, y3, y4, y5], _ =>
    have g0 := hf 0 _ rfl
    have g1 := hf 1 _ rfl
    have g2 := hf 2 _ rfl
    have g3 := hf 3 _ rfl
    have g4 := hf 4 _ rfl
    have g5 := hf 5 _ rfl
    simp [cells3, cells2, cells30] at g0 g1 g2 g3 g4 g5
    obtain ⟨d0, e0, _, _⟩ := DataW.trod_int Tryd.underlying3 g0
    obtain ⟨d1, e1, _, _⟩ := DataW.trod_int Tryd.underlying3 g1
    obtain ⟨d2, e2, _, _⟩ := DataW.trod_int Tryd.underlying3 g2
    obtain ⟨d3, e3, _, _⟩ := DataW.trod_int Tryd.underlying3 g3
    obtain ⟨d4, e4, _, w4⟩ := DataW.trod_int Tryd.underlying2 g4
    obtain ⟨a, c, ks, e5, hk, hkc, hcm, hkn, hw, hbk⟩ := read_intsB g5
    simp at e0 e1 e2 e3 e4
    subst e0 e1 e2 e3 e4 e5
    refine ⟨⟨d0, d1, d2, d3, d4, a, c, ks⟩, rfl, ⟨hk, ?_, hkc, hkn⟩, w4, by simp only [List.map, Rows.uptoBulk, Rows.uptoBulkAll]; show ks.length + 1 ≤ _; omega⟩
    rcases hw with hw | ⟨n, hn, hle⟩
    · show ks.length ≤ _
      rw [hw]; omega
    · have h1 : ks.length * 8 ≤ reachBytes := by
        refine Nat.le_trans hle (hS n ?_)
        simp only [List.map, DataW.weights, Tryd.underlying59, DataW.weightsEach, List.mem_append]
        exact .inr (.inr (.inr (.inr (.inr (.inl hn)))))
      unfold reachBytes at h1
      show ks.length ≤ _
      omega
theorem read_inssB {H : Type} {enc : TypeId × Value → H} {w : World} {spare : Nat → Bool} {held : Bool} {fuel : Nat} {v : Value} {x : DataW H × List MemPlace} (h : DataW.trod enc Tryd.prog w 0 spare held fuel 22 [v] = some x) (hS : ∀ n ∈ x.1.weights Tryd.prog 22, n ≤ reachBytes) :
    ∃ (a : Option Addr) (cap : Nat) (L : List In), v = .slice a L.length cap ∧ IAt w.heap.size w a L ∧ L.length ≤ 2300000000000 ∧ L.length ≤ cap ∧ (a = none → cap = 0) ∧ (∀ y ∈ L, wfI y.k) ∧ (L.map costI).sum ≤ Rows.uptoBulk x.1 := by
  rcases open_slice Tryd.underlying22 h with ⟨e, rfl⟩ | ⟨a, len, cap, m, n, D, Pl, e, _, hl, hm, hmm, rfl, hc⟩
  · simp at e
    subst e
    exact ⟨none, 0, [], rfl, fun i x hx => by simp at hx, by simp, by simp, fun _ => rfl, fun y hy => by simp at hy, by simp⟩
  · simp at e
    subst e
    have hlm : len ≤ m := by rw [hmm]; split <;> omega
    rw [cells59] at hc
    have hlen : len * 64 ≤ reachBytes := by
      refine Nat.le_trans ?_ (hS _ (by simp only [DataW.weights, Tryd.underlying22]; exact List.mem_cons_self))
      rw [bytes59]
      simp
      exact Nat.mul_le_mul_right _ (by omega)
    have each : ∀ i, i < len → ∃ y : In, (∀ j, j < 6 → w.cell? (a.add (i * 6 + j)) = y.arr.toList[j]?) ∧ InOk w.heap.size w y ∧ wfI y.k ∧ y.l.length + 1 ≤ Rows.uptoBulk (D i) := by
      intro i hi
      obtain ⟨cs', h1, h2⟩ := hc i (by omega)
      obtain ⟨_, hlen, hcell⟩ := World.cells?_some h1
      obtain ⟨y, rfl, hs⟩ := read_inB h2 (fun n hn => hS n (by
        simp only [DataW.weights, Tryd.underlying22, List.mem_cons, List.mem_append]
        exact .inr (.inl (weights_all _ i (D i) (by simp [hi]) n hn))))
      refine ⟨y, fun j hj => ?_, hs⟩
      have := hcell j hj
      rwa [add_add] at this
    obtain ⟨L, hL, hp⟩ := choose_lt each
    refine ⟨some a, cap, L, by rw [hL], ?_, (by rw [hL]; unfold reachBytes at hlen; omega), (by rw [hL]; exact hl), (fun h => (by cases h)), fun y hy => ?_, ?_⟩
    · intro i y hy
      obtain ⟨hcl, hk, _⟩ := hp i y hy
      have h0 : 0 < L.length := by have := (List.getElem?_eq_some_iff.1 hy).1; omega
      have hs0 := (hp 0 L[0] (List.getElem?_eq_getElem h0)).1 0 (by omega)
      obtain ⟨b, off, spot⟩ := a
      have hspot : spot = none := by simpa [Addr.add] using World.cell?_spot hs0
      subst hspot
      have hadd : ∀ j, (Addr.mk b off none).add j = ⟨b, off + j, none⟩ := fun j => Addr.add_lit b off j
      simp only [hadd] at hcl
      have hblk : b < w.heap.size := World.block_lt_of_cell? w _ (hcl 0 (by omega))
      refine ⟨b, off, rfl, hblk, ?_⟩
      have e := fun j hj => (hcl j hj)
      exact ⟨e 0 (by omega), e 1 (by omega), e 2 (by omega), e 3 (by omega), e 4 (by omega), e 5 (by omega), hk⟩
    · obtain ⟨i, hi⟩ := List.getElem?_of_mem hy
      exact (hp i y hi).2.2.1
    · have hs := bulk_sum (cost := costI) L D (fun i y hy => (hp i y hy).2.2.2)
      rw [hL] at hs
      simp only [Rows.uptoBulk]
      omega
theorem read_funB {H : Type} {enc : TypeId × Value → H} {w : World} {spare : Nat → Bool} {held : Bool} {fuel : Nat} {cs : List Value} {x : DataW H × List MemPlace} (h : DataW.trod enc Tryd.prog w 0 spare held fuel 24 cs = some x) (hS : ∀ n ∈ x.1.weights Tryd.prog 24, n ≤ reachBytes) :
    ∃ y : Fu, cs = y.arr.toList ∧ FuOk w.heap.size w y ∧ (∀ z ∈ y.code, wfI z.k) ∧ y.code.length ≤ 2300000000000 ∧ costF y ≤ Rows.uptoBulk x.1 := by
  obtain ⟨xs, n, _, rfl, hl, hlen, hf⟩ := DataW.trod_struct Tryd.underlying24 h
  rw [cells24] at hl
  match cs, hl, xs, hlen with
  | [v0, v1, v2, v3], _, [y0, y1, y2, y3], _ =>
    have g0 := hf 0 _ rfl
    have g1 := hf 1 _ rfl
    have g2 := hf 2 _ rfl
    have g3 := hf 3 _ rfl
    simp [cells9, cells3, cells22] at g0 g1 g2 g3
    obtain ⟨s, e0, e0', _⟩ := DataW.trod_string Tryd.underlying9 g0
    obtain ⟨d1, e1, _, _⟩ := DataW.trod_int Tryd.underlying3 g1
    obtain ⟨d2, e2, _, _⟩ := DataW.trod_int Tryd.underlying3 g2
    have hS3 : ∀ n ∈ y3.1.weights Tryd.prog 22, n ≤ reachBytes := fun n hn => hS n (by
      simp only [List.map, DataW.weights, Tryd.underlying24, DataW.weightsEach, List.mem_append]
      exact .inr (.inr (.inr (.inl hn))))
    obtain ⟨a, cap, L, e3, hI, hll, hlc, hkn, hwk, hbk⟩ := read_inssB g3 hS3
    simp at e0 e1 e2
    subst e0 e1 e2 e3
    have hs : s.size ≤ reachBytes := by
      refine hS _ ?_
      simp only [List.map, DataW.weights, Tryd.underlying24, DataW.weightsEach, List.mem_append]
      refine .inl ?_
      rw [e0']
      simp [DataW.weights]
    unfold reachBytes at hs
    exact ⟨⟨s, d1, d2, a, cap, L⟩, rfl, ⟨hI, by show s.size ≤ _; omega, by show L.length ≤ _; omega, hlc, hkn⟩, hwk, hll, by
      simp only [List.map, Rows.uptoBulk, Rows.uptoBulkAll, e0', costF]
      simp only [ByteArray.size, Array.length_toList] at *
      omega⟩
theorem fun_formB {H : Type} {enc : TypeId × Value → H} {w w' : World} {r} {base : Nat} {spare : Nat → Bool} {held : Bool} {fuel : Nat} {v : Value} {x : DataW H × List MemPlace} (hv : Value.okWide Tryd.prog w' r base 24 v) (h : DataW.trod enc Tryd.prog w 0 spare held fuel 24 v.cells.toList = some x) (hS : ∀ n ∈ x.1.weights Tryd.prog 24, n ≤ reachBytes) :
    ∃ y : Fu, v = .agg y.arr ∧ FuOk w.heap.size w y ∧ (∀ z ∈ y.code, wfI z.k) ∧ y.code.length ≤ 2300000000000 ∧ costF y ≤ Rows.uptoBulk x.1 := by
  obtain ⟨cs, rfl, _⟩ := okWide_struct Tryd.underlying24 hv
  obtain ⟨y, e, hy⟩ := read_funB h hS
  refine ⟨y, ?_, hy⟩
  cases cs
  simp only [Value.cells] at e
  rw [e]
theorem fu_len {y : Fu} (h : costF y ≤ 1048576) : y.code.length ≤ 2000000 := by
  have := costI_len y.code
  unfold costF at h
  omega
theorem fu_lists {y : Fu} (h : costF y ≤ 1048576) : ∀ x ∈ y.code, x.l.length ≤ 8000000000000 := fun x hx => by
  have := costI_mem hx
  unfold costF at h
  omega
end Go.Proofs.YtajdnakpljgkpaaDoor
