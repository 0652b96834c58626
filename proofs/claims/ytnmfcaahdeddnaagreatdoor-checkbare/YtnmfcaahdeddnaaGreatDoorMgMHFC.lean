/-
  Texts of the proof, in their order: Dor8; conditions: as each says.
-/
import Derived.Test.YtnmfcaahdeddnaaGreatDoorCards
import Derived.Test.YtnmfcaahdeddnaaGreatDoorTie
import Derived.WalkKit
import Derived.ProofKit
import Derived.OpenShut
import Derived.Lay
import Derived.Lib.LaidTab
import Derived.LaidMore
import Derived.SevenTiedAt
import Derived.Stop.Joined
import Derived.Deep.Slices
import Derived.Deep.DeepHandedRow
import Derived.ChangeSlices
import Derived.SizedLaws
import Derived.Stop.LaidErr
import Derived.ChangeMaps5
import Derived.Test.YtnmfcaahdeddnaaGreatDoorMgIOGO
namespace Go.Proofs.YtnmfcaahdeddnaaGreatDoor
open Go.ChangeShapes Go.WideShapes Go.ChangeAt Go.RowKit Go.Deep
set_option linter.unusedVariables false
set_option linter.unusedSimpArgs false
set_option maxRecDepth 100000

theorem own : ownKnob Tryz.prog.godebug = none := by kernel_rfl
/-- The variables' names, as the row lists them. -/
def nmA : String := ((Rows.checkFieldsRow.laid.map Prod.fst)[0]?).getD ""
def nmD : String := ((Rows.checkFieldsRow.laid.map Prod.fst)[1]?).getD ""
def nmK : String := ((Rows.checkFieldsRow.laid.map Prod.fst)[3]?).getD ""
def nmS : String := ((Rows.checkFieldsRow.laid.map Prod.fst)[4]?).getD ""
theorem gKinds : Tryz.prog.globalNamed nmK = some 0 := by kernel_rfl
theorem gKindsT : (Tryz.prog.globals[0]?).map (·.type) = some 198 := by kernel_rfl
theorem gSigns : Tryz.prog.globalNamed nmS = some 1 := by kernel_rfl
theorem gSignsT : (Tryz.prog.globals[1]?).map (·.type) = some 200 := by kernel_rfl
theorem gPowT : (Tryz.prog.globals[3]?).map (·.type) = some 219 := by kernel_rfl
theorem gA : Tryz.prog.globalNamed nmA = some 5 := by kernel_rfl
theorem gAT : (Tryz.prog.globals[5]?).map (·.type) = some 237 := by kernel_rfl
theorem gB : Tryz.prog.globalNamed nmD = some 6 := by kernel_rfl
theorem gBT : (Tryz.prog.globals[6]?).map (·.type) = some 238 := by kernel_rfl
theorem under124 : Tryz.prog.underlying 198 = some (.array 128 5) := by kernel_rfl
theorem under5 : Tryz.prog.underlying 5 = some (.int .u8) := by kernel_rfl
theorem under9s : Tryz.prog.underlying 9 = some .string := by kernel_rfl
theorem cells124 : Tryz.prog.cellsOf 198 = 128 := by kernel_rfl
theorem cells5 : Tryz.prog.cellsOf 5 = 1 := by kernel_rfl
theorem cells126 : Tryz.prog.cellsOf 200 = 26 := by kernel_rfl
theorem cells9 : Tryz.prog.cellsOf 9 = 1 := by kernel_rfl
def kindsZ : List Int := (List.range 128).map fun n => (kindN n : Int)
def strData {H : Type} (zs : List (List UInt8)) : DataW H := .agg (zs.map fun z => .lit (.string z))
theorem under162 : Tryz.prog.underlying 237 = some (.array 32 5) := by kernel_rfl
theorem under163 : Tryz.prog.underlying 238 = some (.array 64 5) := by kernel_rfl
theorem cells162 : Tryz.prog.cellsOf 237 = 32 := by kernel_rfl
theorem cells163 : Tryz.prog.cellsOf 238 = 64 := by kernel_rfl
theorem under149 : Tryz.prog.underlying 219 = some (.array 20 153) := by kernel_rfl
theorem under105u : Tryz.prog.underlying 153 = some (.int .u64) := by kernel_rfl
theorem cells149 : Tryz.prog.cellsOf 219 = 20 := by kernel_rfl
theorem cells105u : Tryz.prog.cellsOf 153 = 1 := by kernel_rfl
/-- The numbers of a table, as the row spells them. -/
def numsOf : DataW Unit → List Int
  | .agg l => l.map fun | .lit (.int _ n) => n | _ => 0
  | _ => []
def bitsA : List Int := numsOf Rows.laid_math_bits_deBruijn32tab
def bitsB : List Int := numsOf Rows.laid_math_bits_deBruijn64tab

theorem cells3 : Tryz.prog.cellsOf 3 = 1 := by kernel_rfl
theorem cells23 : Tryz.prog.cellsOf 23 = 1 := by kernel_rfl
theorem cells24 : Tryz.prog.cellsOf 24 = 1 := by kernel_rfl
theorem cells25 : Tryz.prog.cellsOf 25 = 1 := by kernel_rfl
theorem cells26 : Tryz.prog.cellsOf 26 = 1 := by kernel_rfl
theorem cells28 : Tryz.prog.cellsOf 28 = 4 := by kernel_rfl
theorem cells55 : Tryz.prog.cellsOf 55 = 4 := by kernel_rfl
theorem cells56 : Tryz.prog.cellsOf 56 = 1 := by kernel_rfl
theorem cells58 : Tryz.prog.cellsOf 58 = 2 := by kernel_rfl
theorem cells61 : Tryz.prog.cellsOf 61 = 4 := by kernel_rfl
theorem bytes3 : Tryz.prog.bytesOf 3 = 8 := by kernel_rfl
theorem bytes55 : Tryz.prog.bytesOf 55 = 56 := by kernel_rfl
theorem bytes58 : Tryz.prog.bytesOf 58 = 40 := by kernel_rfl
theorem bytes9 : Tryz.prog.bytesOf 9 = 16 := by kernel_rfl
theorem laidOut : laidOutB Tryz.prog = true := by kernel_rfl
/-- An array of strings that reads as the table holds the table's strings. -/
theorem cells_of_strs {H : Type} {enc : TypeId × Value → H} {P : Program} {w : World} {base : Nat} {sp : Nat → Bool} {held : Bool} {fuel : Nat} {t e : TypeId} {n : Nat} {cs : List Value} {zs : List (List UInt8)} {p : List MemPlace}
    (ht : P.underlying t = some (.array n e)) (he : P.underlying e = some .string) (hce : P.cellsOf e = 1) (hct : P.cellsOf t = n)
    (h : DataW.trod enc P w base sp held fuel t cs = some (strData zs, p)) : cs = zs.map fun z => Value.string ⟨z.toArray⟩ := by
  cases fuel with
  | zero => simp [DataW.trod] at h
  | succ fuel =>
    simp only [DataW.trod, ht, hce, hct, Nat.mul_one] at h
    split at h
    · rename_i hl
      obtain ⟨xs, hm, hx⟩ := Option.map_eq_some_iff.1 h
      have hxs : xs.map (·.1) = zs.map fun z => (DataW.lit (.string z) : DataW H) := by
        have := congrArg Prod.fst hx
        simpa [strData] using this
      have hxl : xs.length = n := by simpa using Lib.mapM_length hm
      have hzl : zs.length = n := by
        have := congrArg List.length hxs
        simp at this
        omega
      apply List.ext_getElem?
      intro i
      by_cases hi : i < n
      · obtain ⟨b, hb, hf⟩ := Lib.mapM_at hm i i (by simp [hi])
        obtain ⟨z, hc, rfl, _⟩ := DataW.trod_string he hf
        have h1 : cs[i]? = some (.string z) := by
          have := congrArg (·[0]?) hc
          simpa [List.getElem?_take, List.getElem?_drop] using this
        have h2 : (xs.map (·.1))[i]? = some (DataW.lit (.string z.data.toList) : DataW H) := by simp [hb]
        rw [hxs] at h2
        simp only [List.getElem?_map, Option.map_eq_some_iff, DataW.lit.injEq, Lit.string.injEq] at h2
        obtain ⟨z', hz', rfl⟩ := h2
        simp [h1, hz']
      · rw [List.getElem?_eq_none (by omega), List.getElem?_eq_none (by simp; omega)]
    · cases h


def laidL : List (String × DataW Unit) := Rows.checkFieldsRow.laid
def nmC : String := ((laidL.map Prod.fst)[5]?).getD ""
theorem laid_list : laidL = [(nmA, Lib.tabData .u8 bitsA), (nmD, Lib.tabData .u8 bitsB), (pw10, Lib.tabData .u64 Lib.pow10Tab), (nmK, Lib.tabData .u8 kindsZ), (nmS, strData signs), (nmC, Rows.laid_unicode_CaseRanges)] := by kernel_rfl

/-- What the row's list gives. -/
theorem tabs {W : World} (h : laidMetH Tryz.prog laidL W) : Tabs W := by
  have h' : laidMet Tryz.prog laidL W := by rw [MakeChecks.laidMetH_plain _ _ _ (by kernel_rfl)] at h; exact h
  rw [laid_list] at h'
  have hB := Lib.tabIs_of_head gB gBT under163 under5 cells5 cells163 h'.tail
  have hP := Lib.tabIs_of_head gPow gPowT under149 under105u cells105u cells149 h'.tail.tail
  have hk := Lib.tabIs_of_head gKinds gKindsT under124 under5 cells5 cells124 h'.tail.tail.tail
  have hs : W.var? Tryz.prog nmS = some (signs.map fun z => Value.string ⟨z.toArray⟩).toArray := by
    obtain ⟨ps, ⟨g', t', cs, fuel, p, q, hg', ht', hvar, hd, _, _⟩, _⟩ := h'.tail.tail.tail.tail
    obtain rfl := Option.some.inj (gSigns.symm.trans hg')
    obtain rfl := Option.some.inj (gSignsT.symm.trans ht')
    rw [hvar, ← cells_of_strs under126 under9s cells9 cells126 hd]
  have c0 : ∀ n, n < 128 → W.cell? ⟨0, n, none⟩ = some (.int .u8 (kindN n)) := fun n hn => by
    have := hk.cell gKinds n (by simpa [kindsZ] using hn)
    rw [this]
    simp [kindsZ, List.getD, hn]
  have c2 : ∀ n, n < 26 → W.cell? ⟨1, n, none⟩ = some (.string ⟨(signs.getD n []).toArray⟩) := fun n hn => by
    have := World.var?_cell gSigns hs n
    rw [this]
    have hl : signs.length = 26 := rfl
    have hn' : n < signs.length := by omega
    simp [List.getD, hn']
  have hb := hB.cell gB 0 (by decide)
  exact ⟨c0, c2, hP, World.block_lt_of_cell? W _ hb⟩

theorem wf_max {q : Int} (h : (Lit.int .i64 q).wf = true) : q ≤ 9223372036854775807 := by
  have e : IntKind.i64.max = 9223372036854775807 := rfl
  rw [← e]
  unfold Lit.wf at h
  simp only [Bool.and_eq_true, decide_eq_true_eq] at h
  exact h.2
theorem read_kids {H : Type} {enc : TypeId × Value → H} {w : World} {spare : Nat → Bool} {held : Bool} {fuel : Nat} {v : Value} {x : DataW H × List MemPlace} (h : DataW.trod enc Tryz.prog w 0 spare held fuel 26 [v] = some x) :
    ∃ (a : Option Addr) (c : Nat) (ks : List Int), v = .slice a ks.length c ∧ T5.KAt w.heap.size w a ks ∧ ks.length ≤ c ∧ c ≤ maxLen ∧ (a = none → c = 0) ∧ (ks.length = 0 ∨ ∃ n ∈ x.1.weights Tryz.prog 26, ks.length * 8 ≤ n) := by
  rcases open_ints Tryz.underlying26 Tryz.underlying3 cells3 h with ⟨e, rfl⟩ | ⟨a, len, cap, zs, e, _, hl, hm, hz, rfl, hc, _⟩
  · simp at e
    subst e
    exact ⟨none, 0, [], rfl, T5.KAt.nil, Nat.le_refl _, Nat.zero_le _, fun _ => rfl, .inl rfl⟩
  · simp at e
    subst e
    have hlz : len ≤ zs.length := by rw [hz]; split <;> omega
    have hl' : (zs.take len).length = len := by simp; omega
    refine ⟨some a, cap, zs.take len, ?_, ?_, ?_, hm, ?_, .inr ?_⟩
    · rw [hl']
    · intro j k hj
      have hj' : j < len := by have := (List.getElem?_eq_some_iff.1 hj).1; omega
      have h1 := hc j (by omega)
      have h2 : zs.getD j 0 = k := by
        rw [List.getElem?_take_of_lt hj'] at hj
        simp [List.getD, hj]
      rw [h2] at h1
      have h0 := hc 0 (by omega)
      obtain ⟨b, off, spot⟩ := a
      have hs : spot = none := by simpa [Addr.add] using World.cell?_spot h0
      subst hs
      rw [Addr.add_lit] at h1
      exact ⟨b, off, rfl, World.block_lt_of_cell? w _ h1, h1⟩
    · omega
    · intro h; cases h
    · refine ⟨_, by simp only [DataW.weights, Tryz.underlying26]; exact List.mem_cons_self, ?_⟩
      rw [bytes3, hl']
      simp only [lits, List.length_map, List.length_take, List.length_drop]
      omega

/-- One node, of four cells. -/
theorem read_node {H : Type} {enc : TypeId × Value → H} {w : World} {spare : Nat → Bool} {held : Bool} {fuel : Nat} {cs : List Value} {x : DataW H × List MemPlace} (h : DataW.trod enc Tryz.prog w 0 spare held fuel 55 cs = some x) (hS : ∀ n ∈ x.1.weights Tryz.prog 55, n ≤ reachBytes) :
    ∃ y : T5.Nd, cs = [.int .i64 y.kind, .string y.text, .slice y.a y.ks.length y.c, .int .i64 y.pl] ∧ T5.KAt w.heap.size w y.a y.ks ∧ y.text.size ≤ maxLen ∧ y.ks.length ≤ y.c ∧ y.c ≤ maxLen ∧ (y.a = none → y.c = 0) ∧ y.ks.length * 8 ≤ reachBytes ∧ y.text.size ≤ reachBytes ∧ y.pl ≤ 9223372036854775807 := by
  obtain ⟨xs, n, _, rfl, hl, hlen, hf⟩ := DataW.trod_struct Tryz.underlying55 h
  rw [cells55] at hl
  match cs, hl, xs, hlen with
  | [v0, v1, v2, v3], _, [y0, y1, y2, y3], _ =>
    have g0 := hf 0 _ rfl
    have g1 := hf 1 _ rfl
    have g2 := hf 2 _ rfl
    have g3 := hf 3 _ rfl
    simp [cells3, cells9, cells26] at g0 g1 g2 g3
    obtain ⟨d, e0, _, _⟩ := DataW.trod_int Tryz.underlying3 g0
    obtain ⟨s, e1, e1', _⟩ := DataW.trod_string Tryz.underlying9 g1
    obtain ⟨a, c, ks, e2, hk, hkc, hcm, hkn, hw⟩ := read_kids g2
    obtain ⟨q, e3, _, hqw⟩ := DataW.trod_int Tryz.underlying3 g3
    simp at e0 e1 e3
    subst e0 e1 e2 e3
    have hs : s.size ≤ reachBytes := by
      refine hS _ ?_
      simp only [List.map, DataW.weights, Tryz.underlying55, DataW.weightsEach, List.mem_append]
      refine .inr (.inl ?_)
      rw [e1']
      simp [DataW.weights]
    refine ⟨⟨d, s, a, c, ks, q⟩, rfl, hk, ?_, hkc, hcm, hkn, ?_, hs, wf_max hqw⟩
    · show s.size ≤ maxLen
      unfold reachBytes at hs; unfold maxLen; omega
    · rcases hw with hw | ⟨n, hn, hle⟩
      · show ks.length * 8 ≤ _
        rw [hw]; unfold reachBytes; omega
      · refine Nat.le_trans hle (hS n ?_)
        simp only [List.map, DataW.weights, Tryz.underlying55, DataW.weightsEach, List.mem_append]
        exact .inr (.inr (.inl hn))

theorem choose_lt {α : Type} {m : Nat} {p : Nat → α → Prop} (h : ∀ i, i < m → ∃ x, p i x) : ∃ l : List α, l.length = m ∧ ∀ (i : Nat) (x : α), l[i]? = some x → p i x := by
  induction m with
  | zero => exact ⟨[], rfl, fun i x hx => by simp at hx⟩
  | succ m ih =>
    obtain ⟨l, h1, h2⟩ := ih (fun i hi => h i (by omega))
    obtain ⟨x, hx⟩ := h m (by omega)
    refine ⟨l ++ [x], by simp [h1], fun i y hy => ?_⟩
    by_cases hi : i < l.length
    · rw [List.getElem?_append_left hi] at hy
      exact h2 i y hy
    · rw [List.getElem?_append_right (by omega)] at hy
      have h3 : i - l.length = 0 := by have := (List.getElem?_eq_some_iff.1 hy).1; simp at this; omega
      rw [h3] at hy
      simp at hy
      subst hy
      have : i = m := by omega
      subst this
      exact hx
theorem add_add (a : Addr) (i j : Nat) : (a.add i).add j = a.add (i + j) := by
  by_cases hi : i = 0 <;> by_cases hj : j = 0 <;> simp [Addr.add, hi, hj, Nat.add_assoc]
theorem weights_all {H : Type} {P : Program} {e : TypeId} : ∀ (l : List (DataW H)) (i : Nat) (d : DataW H), l[i]? = some d → ∀ n ∈ d.weights P e, n ∈ DataW.weightsAll P e l
  | [], i, d, h, n, hn => by simp at h
  | d0 :: l, 0, d, h, n, hn => by simp at h; subst h; simp only [DataW.weightsAll, List.mem_append]; exact .inl hn
  | d0 :: l, i + 1, d, h, n, hn => by simp only [DataW.weightsAll, List.mem_append]; exact .inr (weights_all l i d (by simpa using h) n hn)

/-- The list of nodes that came in. -/
theorem read_nodes {H : Type} {enc : TypeId × Value → H} {w : World} {spare : Nat → Bool} {held : Bool} {fuel : Nat} {v : Value} {x : DataW H × List MemPlace} (h : DataW.trod enc Tryz.prog w 0 spare held fuel 23 [v] = some x) (hS : ∀ n ∈ x.1.weights Tryz.prog 23, n ≤ reachBytes) :
    ∃ (a : Option Addr) (len cap : Nat) (L : List T5.Nd), v = .slice a len cap ∧ L.length = len ∧ T5.NAt w.heap.size w a L ∧ len ≤ 2600000000000 ∧ ∀ (i : Nat) (y : T5.Nd), L[i]? = some y → y.ks.length * 8 ≤ reachBytes ∧ y.text.size ≤ reachBytes ∧ y.pl ≤ 9223372036854775807 := by
  rcases open_slice Tryz.underlying23 h with ⟨e, rfl⟩ | ⟨a, len, cap, m, n, D, Pl, e, _, hl, hm, hmm, rfl, hc⟩
  · simp at e
    subst e
    exact ⟨none, 0, 0, [], rfl, rfl, fun i x hx => by simp at hx, by omega, fun i x hx => by simp at hx⟩
  · simp at e
    subst e
    have hlm : len ≤ m := by rw [hmm]; split <;> omega
    rw [cells55] at hc
    have hlen : len * 56 ≤ reachBytes := by
      refine Nat.le_trans ?_ (hS _ (by simp only [DataW.weights, Tryz.underlying23]; exact List.mem_cons_self))
      rw [bytes55]
      simp
      exact Nat.mul_le_mul_right _ (by omega)
    have each : ∀ i, i < len → ∃ y : T5.Nd, (∀ j, j < 4 → w.cell? (a.add (i * 4 + j)) = [Value.int .i64 y.kind, .string y.text, .slice y.a y.ks.length y.c, .int .i64 y.pl][j]?) ∧ T5.KAt w.heap.size w y.a y.ks ∧ y.text.size ≤ maxLen ∧ y.ks.length ≤ y.c ∧ y.c ≤ maxLen ∧ (y.a = none → y.c = 0) ∧ y.ks.length * 8 ≤ reachBytes ∧ y.text.size ≤ reachBytes ∧ y.pl ≤ 9223372036854775807 := by
      intro i hi
      obtain ⟨cs', h1, h2⟩ := hc i (by omega)
      obtain ⟨_, hlen, hcell⟩ := World.cells?_some h1
      obtain ⟨y, rfl, hs⟩ := read_node h2 (fun n hn => hS n (by
        simp only [DataW.weights, Tryz.underlying23, List.mem_cons, List.mem_append]
        exact .inr (.inl (weights_all _ i (D i) (by simp [hi]) n hn))))
      refine ⟨y, fun j hj => ?_, hs⟩
      have := hcell j hj
      rwa [add_add] at this
    obtain ⟨L, hL, hp⟩ := choose_lt each
    refine ⟨some a, len, cap, L, rfl, hL, ?_, by unfold reachBytes at hlen; omega, fun i y hy => (hp i y hy).2.2.2.2.2.2⟩
    intro i y hy
    obtain ⟨hcl, hk, ht, hkc, hcm, hkn, _⟩ := hp i y hy
    have h0 : 0 < L.length := by have := (List.getElem?_eq_some_iff.1 hy).1; omega
    have hs0 := (hp 0 L[0] (List.getElem?_eq_getElem h0)).1 0 (by omega)
    obtain ⟨b, off, spot⟩ := a
    have hspot : spot = none := by simpa [Addr.add] using World.cell?_spot hs0
    subst hspot
    have hadd : ∀ j, (Addr.mk b off none).add j = ⟨b, off + j, none⟩ := fun j => Addr.add_lit b off j
    simp only [hadd] at hcl
    have hblk : b < w.heap.size := World.block_lt_of_cell? w _ (hcl 0 (by omega))
    refine ⟨b, off, rfl, hblk, ?_⟩
    exact ⟨hcl 0 (by omega), hcl 1 (by omega), hcl 2 (by omega), hcl 3 (by omega), hk, ht, by omega, hkc, hkn⟩



/-- Texts that came in. -/
theorem read_strs {H : Type} {enc : TypeId × Value → H} {w : World} {spare : Nat → Bool} {held : Bool} {fuel : Nat} {v : Value} {x : DataW H × List MemPlace} (h : DataW.trod enc Tryz.prog w 0 spare held fuel 56 [v] = some x) (hS : ∀ n ∈ x.1.weights Tryz.prog 56, n ≤ reachBytes) :
    ∃ (a : Option Addr) (c : Nat) (l : List ByteArray), v = .slice a l.length c ∧ StAt w.heap.size w a l ∧ l.length ≤ 10000000000000 := by
  rcases open_slice Tryz.underlying56 h with ⟨e, rfl⟩ | ⟨a, len, cap, m, n, D, Pl, e, _, hl, hm, hmm, rfl, hc⟩
  · simp at e
    subst e
    exact ⟨none, 0, [], rfl, fun i x hx => by simp at hx, by simp⟩
  · simp at e
    subst e
    have hlm : len ≤ m := by rw [hmm]; split <;> omega
    rw [cells9] at hc
    have hlen : len * 16 ≤ reachBytes := by
      refine Nat.le_trans ?_ (hS _ (by simp only [DataW.weights, Tryz.underlying56]; exact List.mem_cons_self))
      rw [bytes9]
      simp
      exact Nat.mul_le_mul_right _ (by omega)
    have each : ∀ i, i < len → ∃ s : ByteArray, w.cell? (a.add i) = some (.string s) := by
      intro i hi
      obtain ⟨cs', h1, h2⟩ := hc i (by omega)
      obtain ⟨_, hlen, hcell⟩ := World.cells?_some h1
      obtain ⟨s, e1, _, _⟩ := DataW.trod_string Tryz.underlying9 h2
      refine ⟨s, ?_⟩
      have := hcell 0 (by omega)
      rw [e1, add_add] at this
      simpa using this
    obtain ⟨L, hL, hp⟩ := choose_lt each
    refine ⟨some a, cap, L, by rw [hL], ?_, by rw [hL]; unfold reachBytes at hlen; omega⟩
    intro i y hy
    have hcl := hp i y hy
    have h0 : 0 < L.length := by have := (List.getElem?_eq_some_iff.1 hy).1; omega
    have hs0 := hp 0 L[0] (List.getElem?_eq_getElem h0)
    obtain ⟨b, off, spot⟩ := a
    have hspot : spot = none := by simpa [Addr.add] using World.cell?_spot hs0
    subst hspot
    rw [Addr.add_lit] at hcl
    exact ⟨b, off, rfl, World.block_lt_of_cell? w _ hcl, hcl⟩
/-- One record, of two cells. -/
theorem read_sort {H : Type} {enc : TypeId × Value → H} {w : World} {spare : Nat → Bool} {held : Bool} {fuel : Nat} {cs : List Value} {x : DataW H × List MemPlace} (h : DataW.trod enc Tryz.prog w 0 spare held fuel 58 cs = some x) (hS : ∀ n ∈ x.1.weights Tryz.prog 58, n ≤ reachBytes) :
    ∃ y : SrC, cs = [.string y.nm, .slice y.a y.fs.length y.c] ∧ StAt w.heap.size w y.a y.fs ∧ y.fs.length ≤ 10000000000000 := by
  obtain ⟨xs, n, _, rfl, hl, hlen, hf⟩ := DataW.trod_struct Tryz.underlying58 h
  rw [cells58] at hl
  match cs, hl, xs, hlen with
  | [v0, v1], _, [y0, y1], _ =>
    have g0 := hf 0 _ rfl
    have g1 := hf 1 _ rfl
    simp [cells9, cells56] at g0 g1
    obtain ⟨s, e0, e0', _⟩ := DataW.trod_string Tryz.underlying9 g0
    obtain ⟨a, c, l, e1, hk, hll⟩ := read_strs g1 (fun n hn => hS n (by
      simp only [List.map, DataW.weights, Tryz.underlying58, DataW.weightsEach, List.mem_append]
      exact .inr (.inl hn)))
    simp at e0
    subst e0 e1
    exact ⟨⟨s, a, c, l⟩, rfl, hk, hll⟩
/-- Records that came in. -/
theorem read_sorts {H : Type} {enc : TypeId × Value → H} {w : World} {spare : Nat → Bool} {held : Bool} {fuel : Nat} {v : Value} {x : DataW H × List MemPlace} (h : DataW.trod enc Tryz.prog w 0 spare held fuel 24 [v] = some x) (hS : ∀ n ∈ x.1.weights Tryz.prog 24, n ≤ reachBytes) :
    ∃ (a : Option Addr) (cap : Nat) (L : List SrC), v = .slice a L.length cap ∧ SsAt w.heap.size w a L ∧ L.length ≤ 10000000000000 := by
  rcases open_slice Tryz.underlying24 h with ⟨e, rfl⟩ | ⟨a, len, cap, m, n, D, Pl, e, _, hl, hm, hmm, rfl, hc⟩
  · simp at e
    subst e
    exact ⟨none, 0, [], rfl, fun i x hx => by simp at hx, by simp⟩
  · simp at e
    subst e
    have hlm : len ≤ m := by rw [hmm]; split <;> omega
    rw [cells58] at hc
    have hlen : len * 40 ≤ reachBytes := by
      refine Nat.le_trans ?_ (hS _ (by simp only [DataW.weights, Tryz.underlying24]; exact List.mem_cons_self))
      rw [bytes58]
      simp
      exact Nat.mul_le_mul_right _ (by omega)
    have each : ∀ i, i < len → ∃ y : SrC, (∀ j, j < 2 → w.cell? (a.add (i * 2 + j)) = [Value.string y.nm, .slice y.a y.fs.length y.c][j]?) ∧ StAt w.heap.size w y.a y.fs ∧ y.fs.length ≤ 10000000000000 := by
      intro i hi
      obtain ⟨cs', h1, h2⟩ := hc i (by omega)
      obtain ⟨_, hlen, hcell⟩ := World.cells?_some h1
      obtain ⟨y, rfl, hs⟩ := read_sort h2 (fun n hn => hS n (by
        simp only [DataW.weights, Tryz.underlying24, List.mem_cons, List.mem_append]
        exact .inr (.inl (weights_all _ i (D i) (by simp [hi]) n hn))))
      refine ⟨y, fun j hj => ?_, hs⟩
      have := hcell j hj
      rwa [add_add] at this
    obtain ⟨L, hL, hp⟩ := choose_lt each
    refine ⟨some a, cap, L, by rw [hL], ?_, by rw [hL]; unfold reachBytes at hlen; omega⟩
    intro i y hy
    obtain ⟨hcl, hk, hll⟩ := hp i y hy
    have h0 : 0 < L.length := by have := (List.getElem?_eq_some_iff.1 hy).1; omega
    have hs0 := (hp 0 L[0] (List.getElem?_eq_getElem h0)).1 0 (by omega)
    obtain ⟨b, off, spot⟩ := a
    have hspot : spot = none := by simpa [Addr.add] using World.cell?_spot hs0
    subst hspot
    have hadd : ∀ j, (Addr.mk b off none).add j = ⟨b, off + j, none⟩ := fun j => Addr.add_lit b off j
    simp only [hadd] at hcl
    have hblk : b < w.heap.size := World.block_lt_of_cell? w _ (hcl 0 (by omega))
    exact ⟨b, off, rfl, hblk, ⟨hcl 0 (by omega), hcl 1 (by omega), hk, hll⟩⟩
/-- A description that came in. -/
theorem desc_form {H : Type} {enc : TypeId × Value → H} {w w' : World} {r} {base : Nat} {spare : Nat → Bool} {held : Bool} {fuel : Nat} {v : Value} {x : DataW H × List MemPlace} (hv : Value.okWide Tryz.prog w' r base 28 v) (h : DataW.trod enc Tryz.prog w 0 spare held fuel 28 v.cells.toList = some x) (hS : ∀ n ∈ x.1.weights Tryz.prog 28, n ≤ reachBytes) :
    ∃ (L : List SrC) (a : Option Addr) (cap : Nat) (fa : Option Addr) (fn fc : Nat) (mn : Int) (ma : Option Addr) (mc mcap : Nat), v = .agg #[.slice a L.length cap, .slice fa fn fc, .int .i64 mn, .slice ma mc mcap] ∧ SsAt w.heap.size w a L ∧ L.length ≤ 10000000000000 := by
  obtain ⟨cs, rfl, _⟩ := okWide_struct Tryz.underlying28 hv
  obtain ⟨xs, n, _, rfl, hl, hlen, hf⟩ := DataW.trod_struct Tryz.underlying28 h
  rw [cells28] at hl
  obtain ⟨cs⟩ := cs
  simp only [Value.cells] at hl hf
  match cs, hl, xs, hlen with
  | [v0, v1, v2, v3], _, [y0, y1, y2, y3], _ =>
    have g0 := hf 0 _ rfl
    have g1 := hf 1 _ rfl
    have g2 := hf 2 _ rfl
    have g3 := hf 3 _ rfl
    simp [cells24, cells25, cells3, cells26] at g0 g1 g2 g3
    obtain ⟨d2, e2, _, _⟩ := DataW.trod_int Tryz.underlying3 g2
    obtain ⟨a, cap, L, e0, hI, hll⟩ := read_sorts g0 (fun n hn => hS n (by
      simp only [List.map, DataW.weights, Tryz.underlying28, DataW.weightsEach, List.mem_append]
      exact .inl hn))
    obtain ⟨fa, fn, fc, e1⟩ : ∃ a n c, v1 = Value.slice a n c := by
      rcases open_slice Tryz.underlying25 g1 with ⟨e, _⟩ | ⟨a, len, cap, m, n, D, Pl, e, _⟩
      · simp at e; exact ⟨_, _, _, e⟩
      · simp at e; exact ⟨_, _, _, e⟩
    obtain ⟨ma, mc, mcap, e3⟩ : ∃ a n c, v3 = Value.slice a n c := by
      rcases open_slice Tryz.underlying26 g3 with ⟨e, _⟩ | ⟨a, len, cap, m, n, D, Pl, e, _⟩
      · simp at e; exact ⟨_, _, _, e⟩
      · simp at e; exact ⟨_, _, _, e⟩
    simp at e2
    subst e0 e1 e2 e3
    exact ⟨L, a, cap, fa, fn, fc, d2, ma, mc, mcap, rfl, hI, hll⟩

noncomputable def wit (os : Os) : World := World.laidAll Tryz.prog os laidL
theorem fr_kept {w w' : World} (h : Fr [] w w') (may : MemPlace → Prop) : w.keptBut w' may := by
  refine ⟨h.os, h.output, fun i hi => ?_⟩
  rw [h.block i hi (by simp)]
  cases ho : w.heap[i]? with
  | none => rfl
  | some o => cases o <;> simp
end Go.Proofs.YtnmfcaahdeddnaaGreatDoor
