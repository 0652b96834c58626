/-
  Texts of the proof, in their order: DorL; conditions: as each says.
-/
import Derived.Test.YtnebhkglpggnlaaGreatDoorCards
import Derived.Test.YtnebhkglpggnlaaGreatDoorTie
import Derived.WalkKit
import Derived.ProofKit
import Derived.OpenShut
import Derived.Lay
import Derived.Lib.LaidTab
import Derived.LaidMore
import Derived.SevenTiedAt
import Derived.Stop.Joined
import Derived.Deep.Slices
import Derived.ChangeSlices
import Derived.SizedLaws
import Derived.Stop.LaidErr
import Derived.ChangeMaps5
import Derived.Test.YtnebhkglpggnlaaGreatDoorMgNCFP
namespace Go.Proofs.YtnebhkglpggnlaaGreatDoor
open Go.ChangeShapes Go.WideShapes Go.ChangeAt Go.RowKit Go.Deep
set_option linter.unusedVariables false
set_option maxRecDepth 100000

theorem own : ownKnob Tryz.prog.godebug = none := by kernel_rfl
theorem laidOut : laidOutB Tryz.prog = true := by kernel_rfl
def laidL : List (String × DataW Unit) := Rows.showLispRow.laid
def nmA : String := ((laidL.map Prod.fst)[0]?).getD ""
def nmD : String := ((laidL.map Prod.fst)[1]?).getD ""
def nmK : String := ((laidL.map Prod.fst)[3]?).getD ""
def nmC : String := ((laidL.map Prod.fst)[4]?).getD ""
theorem gKinds : Tryz.prog.globalNamed nmK = some 1 := by kernel_rfl
theorem gKindsT : (Tryz.prog.globals[1]?).map (·.type) = some 143 := by kernel_rfl
theorem gPowT : (Tryz.prog.globals[0]?).map (·.type) = some 139 := by kernel_rfl
theorem gB : Tryz.prog.globalNamed nmD = some 4 := by kernel_rfl
theorem gBT : (Tryz.prog.globals[4]?).map (·.type) = some 164 := by kernel_rfl
theorem under143 : Tryz.prog.underlying 143 = some (.array 128 5) := by kernel_rfl
theorem under5 : Tryz.prog.underlying 5 = some (.int .u8) := by kernel_rfl
theorem cells143 : Tryz.prog.cellsOf 143 = 128 := by kernel_rfl
theorem cells5 : Tryz.prog.cellsOf 5 = 1 := by kernel_rfl
theorem under164 : Tryz.prog.underlying 164 = some (.array 64 5) := by kernel_rfl
theorem cells164 : Tryz.prog.cellsOf 164 = 64 := by kernel_rfl
theorem under139 : Tryz.prog.underlying 139 = some (.array 20 101) := by kernel_rfl
theorem under101 : Tryz.prog.underlying 101 = some (.int .u64) := by kernel_rfl
theorem cells139 : Tryz.prog.cellsOf 139 = 20 := by kernel_rfl
theorem cells101 : Tryz.prog.cellsOf 101 = 1 := by kernel_rfl
theorem cells36 : Tryz.prog.cellsOf 36 = 4 := by kernel_rfl
theorem cells3 : Tryz.prog.cellsOf 3 = 1 := by kernel_rfl
theorem cells9 : Tryz.prog.cellsOf 9 = 1 := by kernel_rfl
theorem cells34 : Tryz.prog.cellsOf 34 = 1 := by kernel_rfl
theorem bytes36 : Tryz.prog.bytesOf 36 = 56 := by kernel_rfl
theorem bytes3 : Tryz.prog.bytesOf 3 = 8 := by kernel_rfl
def kindsZ : List Int := (List.range 128).map fun n => (kindN n : Int)
/-- The numbers of a table, as the row spells them. -/
def numsOf : DataW Unit → List Int
  | .agg l => l.map fun | .lit (.int _ n) => n | _ => 0
  | _ => []
def bitsA : List Int := numsOf Rows.laid_math_bits_deBruijn32tab
def bitsB : List Int := numsOf Rows.laid_math_bits_deBruijn64tab
theorem laid_list : laidL = [(nmA, Lib.tabData .u8 bitsA), (nmD, Lib.tabData .u8 bitsB), (pw10, Lib.tabData .u64 Lib.pow10Tab), (nmK, Lib.tabData .u8 kindsZ), (nmC, Rows.laid_unicode_CaseRanges)] := by kernel_rfl

/-- What the rows' lists give. -/
theorem tabs {W : World} (h : laidMetH Tryz.prog laidL W) : Tabs W := by
  have h' : laidMet Tryz.prog laidL W := by rw [MakeChecks.laidMetH_plain _ _ _ (by kernel_rfl)] at h; exact h
  rw [laid_list] at h'
  have hB := Lib.tabIs_of_head gB gBT under164 under5 cells5 cells164 h'.tail
  have hP := Lib.tabIs_of_head gPow gPowT under139 under101 cells101 cells139 h'.tail.tail
  have hk := Lib.tabIs_of_head gKinds gKindsT under143 under5 cells5 cells143 h'.tail.tail.tail
  have c0 : ∀ n, n < 128 → W.cell? ⟨1, n, none⟩ = some (.int .u8 (kindN n)) := fun n hn => by
    have := hk.cell gKinds n (by simpa [kindsZ] using hn)
    rw [this]
    simp [kindsZ, List.getD, hn]
  have hb := hB.cell gB 0 (by decide)
  exact ⟨c0, hP, World.block_lt_of_cell? W _ hb⟩
theorem wf_max {q : Int} (h : (Lit.int .i64 q).wf = true) : q ≤ 9223372036854775807 := by
  have e : IntKind.i64.max = 9223372036854775807 := rfl
  rw [← e]
  unfold Lit.wf at h
  simp only [Bool.and_eq_true, decide_eq_true_eq] at h
  exact h.2
theorem read_kids {H : Type} {enc : TypeId × Value → H} {w : World} {spare : Nat → Bool} {held : Bool} {fuel : Nat} {v : Value} {x : DataW H × List MemPlace} (h : DataW.trod enc Tryz.prog w 0 spare held fuel 34 [v] = some x) :
    ∃ (a : Option Addr) (c : Nat) (ks : List Int), v = .slice a ks.length c ∧ T5.KAt w.heap.size w a ks ∧ ks.length ≤ c ∧ c ≤ maxLen ∧ (a = none → c = 0) ∧ (ks.length = 0 ∨ ∃ n ∈ x.1.weights Tryz.prog 34, ks.length * 8 ≤ n) := by
  rcases open_ints Tryz.underlying34 Tryz.underlying3 cells3 h with ⟨e, rfl⟩ | ⟨a, len, cap, zs, e, _, hl, hm, hz, rfl, hc, _⟩
  · simp at e
    subst e
    exact ⟨none, 0, [], rfl, T5.KAt.nil, Nat.le_refl _, Nat.zero_le _, fun _ => rfl, .inl rfl⟩
  · simp at e
    subst e
    have hlz : len ≤ zs.length := by rw [hz]; split <;> omega
    have hl' : (zs.take len).length = len := by simp; omega
    refine ⟨some a, cap, zs.take len, ?_, ?_, ?_, hm, ?_, .inr ?_⟩
    · rw [hl']
    · intro j k hj
      have hj' : j < len := by have := (List.getElem?_eq_some_iff.1 hj).1; omega
      have h1 := hc j (by omega)
      have h2 : zs.getD j 0 = k := by
        rw [List.getElem?_take_of_lt hj'] at hj
        simp [List.getD, hj]
      rw [h2] at h1
      have h0 := hc 0 (by omega)
      obtain ⟨b, off, spot⟩ := a
      have hs : spot = none := by simpa [Addr.add] using World.cell?_spot h0
      subst hs
      rw [Addr.add_lit] at h1
      exact ⟨b, off, rfl, World.block_lt_of_cell? w _ h1, h1⟩
    · omega
    · intro h; cases h
    · refine ⟨_, by simp only [DataW.weights, Tryz.underlying34]; exact List.mem_cons_self, ?_⟩
      rw [bytes3, hl']
      simp only [lits, List.length_map, List.length_take, List.length_drop]
      omega

/-- One node, of four cells. -/
theorem read_node {H : Type} {enc : TypeId × Value → H} {w : World} {spare : Nat → Bool} {held : Bool} {fuel : Nat} {cs : List Value} {x : DataW H × List MemPlace} (h : DataW.trod enc Tryz.prog w 0 spare held fuel 36 cs = some x) (hS : ∀ n ∈ x.1.weights Tryz.prog 36, n ≤ reachBytes) :
    ∃ y : T5.Nd, cs = [.int .i64 y.kind, .string y.text, .slice y.a y.ks.length y.c, .int .i64 y.pl] ∧ T5.KAt w.heap.size w y.a y.ks ∧ y.text.size ≤ maxLen ∧ y.ks.length ≤ y.c ∧ y.c ≤ maxLen ∧ (y.a = none → y.c = 0) ∧ y.ks.length * 8 ≤ reachBytes ∧ y.text.size ≤ reachBytes ∧ y.pl ≤ 9223372036854775807 := by
  obtain ⟨xs, n, _, rfl, hl, hlen, hf⟩ := DataW.trod_struct Tryz.underlying36 h
  rw [cells36] at hl
  match cs, hl, xs, hlen with
  | [v0, v1, v2, v3], _, [y0, y1, y2, y3], _ =>
    have g0 := hf 0 _ rfl
    have g1 := hf 1 _ rfl
    have g2 := hf 2 _ rfl
    have g3 := hf 3 _ rfl
    simp [cells3, cells9, cells34] at g0 g1 g2 g3
    obtain ⟨d, e0, _, _⟩ := DataW.trod_int Tryz.underlying3 g0
    obtain ⟨s, e1, e1', _⟩ := DataW.trod_string Tryz.underlying9 g1
    obtain ⟨a, c, ks, e2, hk, hkc, hcm, hkn, hw⟩ := read_kids g2
    obtain ⟨q, e3, _, hqw⟩ := DataW.trod_int Tryz.underlying3 g3
    simp at e0 e1 e3
    subst e0 e1 e2 e3
    have hs : s.size ≤ reachBytes := by
      refine hS _ ?_
      simp only [List.map, DataW.weights, Tryz.underlying36, DataW.weightsEach, List.mem_append]
      refine .inr (.inl ?_)
      rw [e1']
      simp [DataW.weights]
    refine ⟨⟨d, s, a, c, ks, q⟩, rfl, hk, ?_, hkc, hcm, hkn, ?_, hs, wf_max hqw⟩
    · show s.size ≤ maxLen
      unfold reachBytes at hs; unfold maxLen; omega
    · rcases hw with hw | ⟨n, hn, hle⟩
      · show ks.length * 8 ≤ _
        rw [hw]; unfold reachBytes; omega
      · refine Nat.le_trans hle (hS n ?_)
        simp only [List.map, DataW.weights, Tryz.underlying36, DataW.weightsEach, List.mem_append]
        exact .inr (.inr (.inl hn))

theorem choose_lt {α : Type} {m : Nat} {p : Nat → α → Prop} (h : ∀ i, i < m → ∃ x, p i x) : ∃ l : List α, l.length = m ∧ ∀ (i : Nat) (x : α), l[i]? = some x → p i x := by
  induction m with
  | zero => exact ⟨[], rfl, fun i x hx => by simp at hx⟩
  | succ m ih =>
    obtain ⟨l, h1, h2⟩ := ih (fun i hi => h i (by omega))
    obtain ⟨x, hx⟩ := h m (by omega)
    refine ⟨l ++ [x], by simp [h1], fun i y hy => ?_⟩
    by_cases hi : i < l.length
    · rw [List.getElem?_append_left hi] at hy
      exact h2 i y hy
    · rw [List.getElem?_append_right (by omega)] at hy
      have h3 : i - l.length = 0 := by have := (List.getElem?_eq_some_iff.1 hy).1; simp at this; omega
      rw [h3] at hy
      simp at hy
      subst hy
      have : i = m := by omega
      subst this
      exact hx
theorem add_add (a : Addr) (i j : Nat) : (a.add i).add j = a.add (i + j) := by
  by_cases hi : i = 0 <;> by_cases hj : j = 0 <;> simp [Addr.add, hi, hj, Nat.add_assoc]
theorem weights_all {H : Type} {P : Program} {e : TypeId} : ∀ (l : List (DataW H)) (i : Nat) (d : DataW H), l[i]? = some d → ∀ n ∈ d.weights P e, n ∈ DataW.weightsAll P e l
  | [], i, d, h, n, hn => by simp at h
  | d0 :: l, 0, d, h, n, hn => by simp at h; subst h; simp only [DataW.weightsAll, List.mem_append]; exact .inl hn
  | d0 :: l, i + 1, d, h, n, hn => by simp only [DataW.weightsAll, List.mem_append]; exact .inr (weights_all l i d (by simpa using h) n hn)

/-- The list of nodes that came in. -/
theorem read_nodes {H : Type} {enc : TypeId × Value → H} {w : World} {spare : Nat → Bool} {held : Bool} {fuel : Nat} {v : Value} {x : DataW H × List MemPlace} (h : DataW.trod enc Tryz.prog w 0 spare held fuel 22 [v] = some x) (hS : ∀ n ∈ x.1.weights Tryz.prog 22, n ≤ reachBytes) :
    ∃ (a : Option Addr) (len cap : Nat) (L : List T5.Nd), v = .slice a len cap ∧ L.length = len ∧ T5.NAt w.heap.size w a L ∧ len ≤ 2600000000000 ∧ ∀ (i : Nat) (y : T5.Nd), L[i]? = some y → y.ks.length * 8 ≤ reachBytes ∧ y.text.size ≤ reachBytes ∧ y.pl ≤ 9223372036854775807 := by
  rcases open_slice Tryz.underlying22 h with ⟨e, rfl⟩ | ⟨a, len, cap, m, n, D, Pl, e, _, hl, hm, hmm, rfl, hc⟩
  · simp at e
    subst e
    exact ⟨none, 0, 0, [], rfl, rfl, fun i x hx => by simp at hx, by omega, fun i x hx => by simp at hx⟩
  · simp at e
    subst e
    have hlm : len ≤ m := by rw [hmm]; split <;> omega
    rw [cells36] at hc
    have hlen : len * 56 ≤ reachBytes := by
      refine Nat.le_trans ?_ (hS _ (by simp only [DataW.weights, Tryz.underlying22]; exact List.mem_cons_self))
      rw [bytes36]
      simp
      exact Nat.mul_le_mul_right _ (by omega)
    have each : ∀ i, i < len → ∃ y : T5.Nd, (∀ j, j < 4 → w.cell? (a.add (i * 4 + j)) = [Value.int .i64 y.kind, .string y.text, .slice y.a y.ks.length y.c, .int .i64 y.pl][j]?) ∧ T5.KAt w.heap.size w y.a y.ks ∧ y.text.size ≤ maxLen ∧ y.ks.length ≤ y.c ∧ y.c ≤ maxLen ∧ (y.a = none → y.c = 0) ∧ y.ks.length * 8 ≤ reachBytes ∧ y.text.size ≤ reachBytes ∧ y.pl ≤ 9223372036854775807 := by
      intro i hi
      obtain ⟨cs', h1, h2⟩ := hc i (by omega)
      obtain ⟨_, hlen, hcell⟩ := World.cells?_some h1
      obtain ⟨y, rfl, hs⟩ := read_node h2 (fun n hn => hS n (by
        simp only [DataW.weights, Tryz.underlying22, List.mem_cons, List.mem_append]
        exact .inr (.inl (weights_all _ i (D i) (by simp [hi]) n hn))))
      refine ⟨y, fun j hj => ?_, hs⟩
      have := hcell j hj
      rwa [add_add] at this
    obtain ⟨L, hL, hp⟩ := choose_lt each
    refine ⟨some a, len, cap, L, rfl, hL, ?_, by unfold reachBytes at hlen; omega, fun i y hy => (hp i y hy).2.2.2.2.2.2⟩
    intro i y hy
    obtain ⟨hcl, hk, ht, hkc, hcm, hkn, _⟩ := hp i y hy
    have h0 : 0 < L.length := by have := (List.getElem?_eq_some_iff.1 hy).1; omega
    have hs0 := (hp 0 L[0] (List.getElem?_eq_getElem h0)).1 0 (by omega)
    obtain ⟨b, off, spot⟩ := a
    have hspot : spot = none := by simpa [Addr.add] using World.cell?_spot hs0
    subst hspot
    have hadd : ∀ j, (Addr.mk b off none).add j = ⟨b, off + j, none⟩ := fun j => Addr.add_lit b off j
    simp only [hadd] at hcl
    have hblk : b < w.heap.size := World.block_lt_of_cell? w _ (hcl 0 (by omega))
    refine ⟨b, off, rfl, hblk, ?_⟩
    exact ⟨hcl 0 (by omega), hcl 1 (by omega), hcl 2 (by omega), hcl 3 (by omega), hk, ht, by omega, hkc, hkn⟩


/-- Witnesses: the empty list. -/
noncomputable def wit (os : Os) : World := World.laidAll Tryz.prog os laidL
theorem wit_shaped (os : Os) : ((wit os).forCall (fun _ _ => 0) ⟨#[], #[.slice none 0 0], []⟩).Shaped Tryz.prog := World.shaped_of_ZipB (by kernel_rfl) (by kernel_rfl)
theorem fr_kept {w w' : World} (h : Fr [] w w') (may : MemPlace → Prop) : w.keptBut w' may := by
  refine ⟨h.os, h.output, fun i hi => ?_⟩
  rw [h.block i hi (by simp)]
  cases ho : w.heap[i]? with
  | none => rfl
  | some o => cases o <;> simp
end Go.Proofs.YtnebhkglpggnlaaGreatDoor
