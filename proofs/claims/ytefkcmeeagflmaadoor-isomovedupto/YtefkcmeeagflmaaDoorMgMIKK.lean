/-
  Texts of the proof, in their order: Num, Bod, ShA, R17, R23; conditions: as each says.
-/
import Derived.Lib.LaidTab
import Derived.Deep.RegionHeld3
import Derived.Test.YtefkcmeeagflmaaDoorMgDLBD
import Derived.Test.YtefkcmeeagflmaaDoorMgLJPN
import Derived.Test.YtefkcmeeagflmaaDoorMhFmt
import Derived.Test.YtefkcmeeagflmaaDoorMhIsoX
namespace Go.Proofs.YtefkcmeeagflmaaDoor
open Go.RowKit Go.Shelf Go.Lib
set_option linter.unusedVariables false
set_option linter.unusedSimpArgs false

def pw10 : String := "internal/strconv.uint64pow10"
theorem gPow : Tryd.prog.globalNamed pw10 = some 0 := by kernel_rfl
/-- The library's table as its text lays it. -/
structure Pw (w : World) : Prop where
  pow : Lib.TabIs Tryd.prog w pw10 .u64 Lib.pow10Tab
  len : 3 ≤ w.heap.size

theorem Pw.low {w w' : World} (h : Pw w) (hb : w'.heap[0]? = w.heap[0]?) (hs : w.heap.size ≤ w'.heap.size) : Pw w' :=
  ⟨by
    have hp := h.pow
    unfold Lib.TabIs World.var? at *
    rw [gPow] at hp ⊢
    simp only [Option.bind_some] at hp ⊢
    rw [hb]
    exact hp, Nat.le_trans h.len hs⟩
theorem Pw.fr {S : List Nat} {w w' : World} (h : Pw w) (f : Fr S w w') (hS : ∀ k, k ∈ S → 3 ≤ k) : Pw w' :=
  h.low (f.block 0 (Nat.lt_of_lt_of_le (by decide) h.len) (fun hm => by have := hS _ hm; omega)) f.size
theorem Pw.below {w : World} (h : Pw w) {B : Nat} (hB : 3 ≤ B) : Lib.TabBelow Tryd.prog B w pw10 .u64 Lib.pow10Tab := fun w' b => (h.low (b.block 0 (by omega)) b.size).pow

theorem Fr.ofBelow {w w' : World} (h : Below w.heap.size w w') : Fr [] w w' := ⟨h.os, h.tape, h.output, h.size, fun k hk _ => h.block k hk⟩
theorem fmt_fr {w w' : World} {k : Nat} {os : Array Obj} (h : w' = Go.Sort.grow (w.drewN k) os) : Fr [] w w' := by
  rw [h]
  exact Fr.ofBelow (Lib.below_grow _ w (Nat.le_refl _) k os)

theorem wf_range {n : Int} (h : (Lit.int .i64 n).wf = true) : -9223372036854775808 ≤ n ∧ n ≤ 9223372036854775807 := by
  have e1 : IntKind.min .i64 = -9223372036854775808 := by decide
  have e2 : IntKind.max .i64 = 9223372036854775807 := by decide
  simp only [Lit.wf, Bool.and_eq_true, decide_eq_true_eq, e1, e2] at h
  exact h

theorem dec_len2 : ∀ (k n : Nat), n < 10 ^ (k + 1) → (Lib.decDigits n).length ≤ k + 1
  | 0, n, h => by rw [Lib.decDigits_one (by simpa using h)]; simp
  | k + 1, n, h => by
    by_cases h10 : n < 10
    · rw [Lib.decDigits_one h10]; simp
    · rw [Lib.decDigits, dif_neg h10, List.length_append]
      have := dec_len2 k (n / 10) (by
        rw [Nat.pow_succ] at h
        exact Nat.div_lt_of_lt_mul (by rw [Nat.mul_comm]; exact h))
      simp
      omega
theorem itoa_len {n : Int} (h : (Lit.int .i64 n).wf = true) : (Lib.itoa n).length ≤ 21 := by
  have := wf_range h
  unfold Lib.itoa
  split
  · have := dec_len2 19 n.natAbs (by omega)
    simp only [List.length_cons]
    omega
  · have := dec_len2 19 n.toNat (by omega)
    omega

theorem itoa_any (n : Int) (hn : (Lit.int .i64 n).wf = true) (w : World) (T : Pw w) :
    Calls Tryd.prog 55 #[.int .i64 n] w fun e w' => e = .returned (.string (bt (Lib.itoa n))) ∧ Fr [] w w' := by
  refine (Tryd.strconv_Itoa n (wf_range hn).1 (wf_range hn).2 w T.pow).mono ?_
  rintro e w' ⟨he, k, os, hw⟩
  exact ⟨he, fmt_fr hw⟩

theorem format_any (n : Int) (hn : (Lit.int .i64 n).wf = true) (w : World) (T : Pw w) :
    Calls Tryd.prog 51 #[.int .i64 n, .int .i64 10] w fun e w' => e = .returned (.string (bt (Lib.itoa n))) ∧ Fr [] w w' := by
  go_enter Tryd.func51, Tryd.ntmps51
  go_wp2_with fail
  refine (Tryd.internal_strconv_FormatInt_10 n (wf_range hn).1 (wf_range hn).2 w T.pow).mono ?_
  rintro e w' ⟨rfl, k, os, hw⟩
  have f := fmt_fr hw
  clear hw
  go_wp2
  go_ret
  exact ⟨rfl, f⟩

theorem plain_any (W : World) (T : Pw W) (p : Int × Int) (hp : (Lit.int .i64 p.2).wf = true) :
    Calls Tryd.prog 32 #[.agg #[.int .i64 p.1, .int .i64 p.2]] W fun e W' => e = .returned (.string (bt (plainB p))) ∧ Fr [] W W' := by
  by_cases h0 : p.1 = 0
  · have hb : plainB p = Lib.itoa p.2 := by unfold plainB; rw [if_pos h0]
    rw [hb, h0]
    go_enter Tryd.func32, Tryd.ntmps32
    go_wp2_with fail
    have f0 : Fr [] W (W.alloc (.cells #[.int .i64 0, .int .i64 p.2] 45)) := (Fr.refl _ _).alloc _
    refine (format_any p.2 hp _ (T.fr f0 (by simp))).mono ?_
    rintro e w1 ⟨rfl, f1⟩
    have F := f0.trans f1
    go_wp2
    go_ret
    exact ⟨rfl, F⟩
  · refine plain_other W p (bt (plainB p)) ?_
    unfold plainT plainB
    rw [if_neg h0, if_neg h0]
    split <;> rfl

/-- Rows of bytes from a block on. -/
def S5 (B : Nat) (w : World) : List Nat := (List.range w.heap.size).filter fun k => decide (B ≤ k) && (match w.heap[k]? with | some (.cells _ 5 _) => true | _ => false)
theorem S5_mem {B : Nat} {w : World} {k : Nat} (h : k ∈ S5 B w) : B ≤ k ∧ ∃ c z, w.heap[k]? = some (.cells c 5 z) := by
  unfold S5 at h
  simp only [List.mem_filter, Bool.and_eq_true, decide_eq_true_eq] at h
  obtain ⟨_, h1, h2⟩ := h
  refine ⟨h1, ?_⟩
  split at h2
  · rename_i c z e; exact ⟨c, z, e⟩
  · cases h2
theorem S5_fr {B : Nat} {w w' : World} (b : Below B w w') (o : Lib.OthersKept 5 none w w') : Fr (S5 B w) w w' := by
  refine ⟨b.os, b.tape, b.output, b.size, fun k hk hn => ?_⟩
  by_cases hB : k < B
  · exact b.block k hB
  · have hx : w.heap[k]? = some w.heap[k] := Array.getElem?_eq_getElem hk
    rw [hx]
    refine o k _ hx (by simp) (fun c fz e => hn ?_)
    unfold S5
    simp only [List.mem_filter, List.mem_range, Bool.and_eq_true, decide_eq_true_eq]
    refine ⟨hk, by omega, ?_⟩
    rw [hx, e]
    rfl

theorem appendInt_any (W : World) (T : Pw W) (B : Nat) (h3 : 3 ≤ B) (hB : B ≤ W.heap.size) (sv : Value) (m : Nat) (t : List UInt8) (ho : W.ownsRow B 5 1 sv m (Lib.byteCells t)) (hm : m ≤ 1000000000000) (i : Int) (hi : (Lit.int .i64 i).wf = true) :
    Calls Tryd.prog 33 #[sv, .int .i64 i, .int .i64 10] W fun e W' => ∃ sv', e = .returned sv' ∧ W'.ownsRow B 5 1 sv' (m + (Lib.itoa i).length) (Lib.byteCells (t ++ Lib.itoa i)) ∧ Fr (S5 B W) W W' := by
  refine (Tryd.strconv_AppendInt_10 B m i (wf_range hi).1 (wf_range hi).2 sv _ W ho hB (by omega) (T.below h3)).mono ?_
  rintro e w' ⟨v', rfl, h1, h2, h3⟩
  exact ⟨v', rfl, by simpa [Lib.byteCells] using h1, S5_fr h2 h3⟩
end Go.Proofs.YtefkcmeeagflmaaDoor
namespace Go.Proofs.YtefkcmeeagflmaaDoor
open Go.RowKit Go.Shelf Go.Lib
set_option linter.unusedVariables false
set_option linter.unusedSimpArgs false

theorem opn_eq (r : Int) (h : ¬ r < 0) : (⟨#[123]⟩ : ByteArray) ++ bt (Lib.itoa r) = bt (opn r) := by
  unfold opn
  rw [if_neg h]
  apply ByteArray.ext
  simp [bt]

set_option maxRecDepth 100000 in
set_option maxHeartbeats 4000000 in
theorem body_rec2 (W : World) (T : Pw W) (r : Int) (hr0 : ¬ r < 0) (hr : (Lit.int .i64 r).wf = true) (xs : List (Int × Int)) (n : Nat) (hxn : xs.length = n) (a1 : Option Addr) (c1 : Nat) (h1 : Lies W a1 xs) (hn : (n : Int) ≤ 1000000) :
    Calls Tryd.prog 35 #[.agg #[.int .i64 r, .slice a1 n c1]] W fun en W' => ∃ v, en = .returned v ∧ Fr [] W W' ∧ W'.ownsRow W.heap.size 85 4 v (1 + (n + 1)) (bare (⟨#[123]⟩ ++ ⟨(Lib.itoa r).toArray⟩) ++ (tolds blank xs ++ [bare ⟨#[125]⟩]).flatten) := by
  obtain ⟨i, hi, hz, hs, hby⟩ := info_parts info85
  go_enter Tryd.func35, Tryd.ntmps35
  go_wp2_with fail
  have A0 : (W.alloc (.cells #[.int .i64 r, .slice a1 n c1] 41)).heap[W.heap.size]? = some (.cells #[.int .i64 r, .slice a1 n c1] 41) := heap_alloc_new W _
  have f0 : Fr [] W (W.alloc (.cells #[.int .i64 r, .slice a1 n c1] 41)) := (Fr.refl _ _).alloc _
  generalize W.alloc (.cells #[.int .i64 r, .slice a1 n c1] 41) = w0 at *
  have hW0 : W.heap.size < w0.heap.size := (Array.getElem?_eq_some_iff.1 A0).1
  obtain ⟨N, hN⟩ : ∃ N, W.heap.size = N := ⟨_, rfl⟩
  rw [hN] at A0 hW0 ⊢
  have T0 := T.fr f0 (by simp)
  have L0 := h1.fr f0 (by simp)
  have b0 : ∀ w' : World, Fr [] w0 w' → w'.cell? ⟨N, 0, none⟩ = some (.int .i64 r) := fun w' h => at_cells ((h.block N hW0 (by simp)).trans A0) 0 rfl
  have b1 : ∀ w' : World, Fr [] w0 w' → w'.cell? ⟨N, 1, none⟩ = some (.slice a1 n c1) := fun w' h => at_cells ((h.block N hW0 (by simp)).trans A0) 1 rfl
  have HD : ∀ w' : World, Fr [] w0 w' → Fr [] w0 w'.drew := fun w' h => h.drew
  have HA : ∀ (w' : World) (o : Obj), Fr [] w0 w' → Fr [] w0 (w'.alloc o) := fun w' o h => h.alloc o
  have R0 : Fr [] w0 w0 := Fr.refl _ _
  have hm : 1 + (n + 1) ≤ maxLen := by have : maxLen = 9223372036854775807 := rfl; omega
  have q1 : ¬ 9223372036854775807 < 1 + (Lib.itoa r).length := by have := itoa_len hr; omega
  have CI : ∀ w', Fr [] w0 w' → Calls Tryd.prog 55 #[.int .i64 r] w' fun e w'' => e = .returned (.string ⟨(Lib.itoa r).toArray⟩) ∧ Fr [] w' w'' := fun w' h => itoa_any r hr w' (T0.fr h (by simp))
  have hone := tolds_bare_cell xs ⟨#[32]⟩ ⟨#[125]⟩
  go_region_held3 (fun w' : World => Fr [] w0 w')
    (with_reducible (first | assumption | exact HD _ (by assumption) | exact HA _ _ (by assumption) | exact HA _ _ (HD _ (by assumption)) | exact HD _ (HA _ _ (by assumption))))
    (first
      | (go_at_call 55; refine (CI _ (by assumption)).mono ?_; rintro e wI ⟨rfl, fI⟩; have FI := Fr.trans (by assumption) fI)
      | (go_at_call 31; refine (pieces_any _ ⟨#[32]⟩ ⟨#[125]⟩ xs n hxn a1 c1 (L0.fr (by assumption) (by simp)) hn).mono ?_; rintro e w1 ⟨v, rfl, f1, ho1⟩; have F1 := Fr.trans (by assumption) f1; obtain ⟨g, c, rfl⟩ : ∃ g c, v = .slice (some ⟨g, 0, none⟩) (n + 1) c := (by rcases ho1.2 with ⟨_, e⟩ | ⟨g, cap, cur, e, _⟩ <;> first | omega | exact ⟨g, cap, e⟩))
      | (refine step_append_src rfl (.tmp 17) (.tmp 20) 86 rfl N 85 i _ 4 40 under86 hi hz hs hby rfl (by decide) (.slice (some ⟨wI.heap.size, 0, none⟩) 1 1) 1 (bare (⟨#[123]⟩ ++ ⟨(Lib.itoa r).toArray⟩)) rfl ⟨rfl, .inr ⟨wI.heap.size, 1, _, rfl, (by have := FI.size; omega), (f1.block wI.heap.size (by simp) (by simp)).trans (heap_alloc_new wI _), by omega, by decide, rfl, rfl⟩⟩ (some ⟨g, 0, none⟩) (n + 1) c (tolds ⟨#[32]⟩ xs ++ [bare ⟨#[125]⟩]).flatten rfl ho1.1 (by simp) (fun ad had => by cases had; exact own_src ho1) hone hm (by omega) (by have := F1.size; omega) ?_; intro v3 w3 ho3 hg3 hk3; have F3 : Fr [] w0 w3 := Fr.grown F1 hg3 (fun k e => .inr (by have := FI.size; simp [Value.ownBlock] at e; omega)); obtain ⟨a3, c3, rfl, _⟩ := own_slice ho3)
      | (refine step_append_src rfl (.tmp 17) (.tmp 20) 86 rfl N 85 i _ 4 40 under86 hi hz hs hby rfl (by decide) (.slice (some ⟨w1.heap.size, 0, none⟩) 1 1) 1 (bare (⟨#[123]⟩ ++ ⟨(Lib.itoa r).toArray⟩)) rfl ⟨rfl, .inr ⟨w1.heap.size, 1, _, rfl, (by have := F1.size; omega), heap_alloc_new w1 _, by omega, by decide, rfl, rfl⟩⟩ (some ⟨g, 0, none⟩) (n + 1) c (tolds ⟨#[32]⟩ xs ++ [bare ⟨#[125]⟩]).flatten rfl ho1.1 (by simp) (fun ad had => by cases had; exact own_src (ho1.alloc _)) hone hm (by omega) (by have := F1.size; simp; omega) ?_; intro v3 w3 ho3 hg3 hk3; have F3 : Fr [] w0 w3 := Fr.grown (F1.alloc _) hg3 (fun k e => .inr (by have := F1.size; simp [Value.ownBlock] at e; omega)); obtain ⟨a3, c3, rfl, _⟩ := own_slice ho3)
      | (refine step_append_src rfl (.tmp 17) (.tmp 20) 86 rfl N 85 i _ 4 40 under86 hi hz hs hby rfl (by decide) (.slice (some ⟨wI.heap.size, 0, none⟩) 1 1) 1 (bare (⟨#[123]⟩ ++ ⟨(Lib.itoa r).toArray⟩)) rfl ⟨rfl, .inr ⟨wI.heap.size, 1, _, rfl, (by have := FI.size; omega), heap_alloc_new wI _, by omega, by decide, rfl, rfl⟩⟩ (some ⟨g, 0, none⟩) (n + 1) c (tolds ⟨#[32]⟩ xs ++ [bare ⟨#[125]⟩]).flatten rfl ho1.1 (by simp) (fun ad had => by cases had; exact own_src ((own_fr ho1 fI (by simp)).alloc _)) hone hm (by omega) (by have := FI.size; simp; omega) ?_; intro v3 w3 ho3 hg3 hk3; have F3 : Fr [] w0 w3 := Fr.grown (FI.alloc _) hg3 (fun k e => .inr (by have := FI.size; simp [Value.ownBlock] at e; omega)); obtain ⟨a3, c3, rfl, _⟩ := own_slice ho3))
  all_goals
    have HO : Hid (w3.ownsRow N 85 4 (.slice a3 (1 + (n + 1)) c3) (1 + (n + 1)) (bare (⟨#[123]⟩ ++ ⟨(Lib.itoa r).toArray⟩) ++ (tolds blank xs ++ [bare ⟨#[125]⟩]).flatten)) := ho3
    have FF : Fr [] W w3 := f0.trans F3
    clear ho3 hg3 hk3 hone CI b0 b1 HD HA
    go_wp2
    go_ret
    refine ⟨.slice a3 (1 + (n + 1)) c3, ?_, FF, ?_⟩
    · first
        | rfl
        | simp
        | simp [Array.getD]
    · rw [hN]
      exact HO.out

/-- The pieces of any thing. -/
theorem body_any (W : World) (T : Pw W) (o : Int × List (Int × Int)) (hr : (Lit.int .i64 o.1).wf = true) (n : Nat) (hxn : o.2.length = n) (a1 : Option Addr) (c1 : Nat) (h1 : Lies W a1 o.2) (hn : (n : Int) ≤ 1000000) :
    Calls Tryd.prog 35 #[.agg #[.int .i64 o.1, .slice a1 n c1]] W fun en W' => ∃ v, en = .returned v ∧ Fr [] W W' ∧ W'.ownsRow W.heap.size 85 4 v (bodyL o).length (bodyL o).flatten := by
  have hl : (bodyL o).length = 1 + (n + 1) := by simp [bodyL, tolds_length, hxn]; omega
  rw [hl]
  by_cases h : o.1 < 0
  · refine (body_arr W o.1 h o.2 n hxn a1 c1 h1 hn).mono ?_
    rintro e w ⟨v, rfl, f, ho⟩
    refine ⟨v, rfl, f, ?_⟩
    simpa [bodyL, opn, sep0, cls, h, bt] using ho
  · refine (body_rec2 W T o.1 h hr o.2 n hxn a1 c1 h1 hn).mono ?_
    rintro e w ⟨v, rfl, f, ho⟩
    refine ⟨v, rfl, f, ?_⟩
    have he := opn_eq o.1 h
    unfold bt at he
    rw [he] at ho
    simpa [bodyL, sep0, cls, h, bt, blank] using ho
end Go.Proofs.YtefkcmeeagflmaaDoor
namespace Go.Proofs.YtefkcmeeagflmaaDoor
open Go.RowKit Go.Shelf Go.Maps
set_option linter.unusedVariables false
set_option linter.unusedSimpArgs false

theorem under77 : Tryd.prog.underlying 77 = some (.map 2 3) := by kernel_rfl
theorem zero3 (w : World) : (zeroValue 3).run Tryd.prog w = .ok (.int .i64 0) w := by kernel_rfl

theorem own_exact {w : World} {b n : Nat} {R : Value → Option (DataW Unit × List MemPlace)} {k : TypeId} {D : DataW Unit} (h : w.ownsMap Tryd.prog k R b n D) : w.ownsMap Tryd.prog k R b (Maps.size D) D := by
  obtain ⟨es, clock, h1, h2, h3, rfl⟩ := h
  exact ⟨es, clock, h1, h2, by rw [Maps.size_eq, length_read]; exact Nat.le_refl _, rfl⟩

/-- The length of a map, in a fence. -/
theorem wpListIn_len_own {F : Fence} {nF : Nat} {P : Program} (w : World) {ops : Array Oper} {rest : List Oper} {o : Oper} {a : Act} {Q : Exit → Act → World → Prop} (hg : o.guard = none) (m : Operand) (t : TypeId) (hop : o.op = Op.call { callee := Callee.builtin Builtin.len, args := #[m], argTypes := #[t] })
    (k e : TypeId) (ht : P.underlying t = some (.map k e)) (R : Value → Option (DataW Unit × List MemPlace)) (b n : Nat) (D : DataW Unit) (hm : a.eval m = .map (some b)) (hown : w.ownsMap P k R b n D)
    (hK : wpListIn F nF P ops Q rest (a.put o.dst (.int .i64 (Maps.size D))) w) :
    wpListIn F nF P ops Q (o :: rest) a w := by
  refine wpListIn_plain hg fun K' hK' => ?_
  unfold Oper.wpIn
  refine ⟨by simp [Oper.about, hop, resolve, Target.leads, Sem.run_pure], ?_⟩
  rw [Oper.semAt_plain F _ _ (by rw [hop]; intro c hc'; cases hc')]
  simp [execOp, hop, resolve, invoke, builtin, hm, hown.len ht o.type, Result.andThen]
  exact hK' _ _ hK

/-- Places of things in memory. -/
def PlAt (W : World) (mb : Nat) (y : (Int → Option Nat) × Nat) : Prop :=
  ∃ D : DataW Unit, W.ownsMap Tryd.prog 2 (plainElem Tryd.prog 3) mb y.2 D ∧ Maps.size D = y.2 ∧ ∀ k, (Lit.int .i64 k).wf = true → Maps.has D (.int .i64 k) = (y.1 k).isSome ∧ D.atKey (.int .i64 k) (.lit (.int .i64 0)) = .lit (.int .i64 (((y.1 k).getD 0 : Nat) : Int))

theorem PlAt.fr {S : List Nat} {W W' : World} {mb : Nat} {y : (Int → Option Nat) × Nat} (h : PlAt W mb y) (g : Fr S W W') (hS : mb ∉ S) : PlAt W' mb y := by
  obtain ⟨D, ⟨es, clock, hb, r⟩, hD⟩ := h
  exact ⟨D, ⟨es, clock, (g.block mb (Array.getElem?_eq_some_iff.1 hb).1 hS).trans hb, r⟩, hD⟩
theorem PlAt.map {W : World} {mb : Nat} {y : (Int → Option Nat) × Nat} (h : PlAt W mb y) : ∃ es c, W.heap[mb]? = some (.map es c) := by
  obtain ⟨D, ⟨es, clock, hb, _⟩, _⟩ := h
  exact ⟨es, clock, hb⟩
theorem PlAt.put {W W0 : World} {mb : Nat} {y : (Int → Option Nat) × Nat} {D : DataW Unit} (h0 : W0.ownsMap Tryd.prog 2 (plainElem Tryd.prog 3) mb y.2 D) (hsz : Maps.size D = y.2) (hD : ∀ k, (Lit.int .i64 k).wf = true → Maps.has D (.int .i64 k) = (y.1 k).isSome ∧ D.atKey (.int .i64 k) (.lit (.int .i64 0)) = .lit (.int .i64 (((y.1 k).getD 0 : Nat) : Int)))
    {k : Int} (hk : (Lit.int .i64 k).wf = true) (h : W.ownsMap Tryd.prog 2 (plainElem Tryd.prog 3) mb (y.2 + 1) (D.put (.int .i64 k) (.lit (.int .i64 (y.2 : Nat))))) : ∃ y', stepQ y k = some y' ∧ PlAt W mb y' := by
  have hsp : Maps.size (D.put (.int .i64 k) (.lit (.int .i64 (y.2 : Nat)))) = if (y.1 k).isSome then y.2 else y.2 + 1 := by rw [size_put (h0.tidy law2), (hD k hk).1, hsz]
  refine ⟨(fun j => if j = k then some y.2 else y.1 j, if (y.1 k).isSome then y.2 else y.2 + 1), rfl, D.put (.int .i64 k) (.lit (.int .i64 (y.2 : Nat))), ?_, hsp, fun j hj => ?_⟩
  · have := own_exact h
    rw [hsp] at this
    exact this
  · have hi := h0.isMap
    have hkey := law2.key (keyOf_int_mk Tryd.underlying2 hk)
    by_cases e : j = k
    · subst e
      simp [has_put_same hi hkey, atKey_put_same hi hkey]
    · have hne : (Lit.int .i64 j) ≠ Lit.int .i64 k := fun h' => e (by injection h')
      rw [has_put_other hne, atKey_put_other hne]
      simp only [if_neg e]
      exact hD j hj

/-- Blocks that rounds of Show may write to: what waits, its box, rows of bytes, the text's and the count's boxes, the loop's own. -/
def tg : Obj → Bool
  | .cells _ t _ => t == 121 || t == 86 || t == 5 || t == 78 || t == 3
  | .loop _ => true
  | _ => false

/-- What Show's rounds leave as it is. -/
structure WG0 (Wr : World) (h kh kr mp kp ka bx D D2 : Nat) (pl : List Int) (W : World) : Prop where
  F : Fr [] Wr W
  hp : W.heap[kh]? = some (.cells #[.pointer (some ⟨h, 0, none⟩)] 26 (0, 0))
  res : W.heap[kr]? = some (.cells #[.string ⟨#[]⟩] 9 (0, 0))
  M : PlAt W mp (idx pl, pl.length)
  pp : W.heap[kp]? = some (.cells #[.map (some mp)] 77 (0, 0))
  add : W.heap[ka]? = some (.cells #[.func (.func 49) #[] #[.pointer (some ⟨bx, 0, none⟩)]] 79 (0, 0))
  dfr : W.heap[D]? = some (.deferred (some []))
  df2 : W.heap[D2]? = some (.deferred (some []))

theorem tg_out {W : World} {S : List Nat} (hS : ∀ k, k ∈ S → ∃ o, W.heap[k]? = some o ∧ tg o = true) {k : Nat} {o : Obj} (hk : W.heap[k]? = some o) (ho : tg o = false) : k ∉ S := by
  intro hm
  obtain ⟨o', h1, h2⟩ := hS k hm
  rw [hk] at h1
  injection h1 with h1
  rw [h1, h2] at ho
  cases ho

theorem WG0.fr {Wr : World} {h kh kr mp kp ka bx D D2 : Nat} {pl : List Int} {W W' : World} (g : WG0 Wr h kh kr mp kp ka bx D D2 pl W) {S : List Nat} (f : Fr S W W') (hS : ∀ k, k ∈ S → ∃ o, W.heap[k]? = some o ∧ tg o = true) (hl : ∀ k, k ∈ S → Wr.heap.size ≤ k) : WG0 Wr h kh kr mp kp ka bx D D2 pl W' := by
  have keep : ∀ {k : Nat} {o : Obj}, W.heap[k]? = some o → tg o = false → W'.heap[k]? = some o := fun hk ho => (f.block _ (Array.getElem?_eq_some_iff.1 hk).1 (tg_out hS hk ho)).trans hk
  obtain ⟨es, c, hm⟩ := g.M.map
  exact ⟨((g.F.sub (T := S) (by simp)).trans f).sub (fun k hk => .inr (hl k hk)), keep g.hp rfl, keep g.res rfl, g.M.fr f (tg_out hS hm rfl), keep g.pp rfl, keep g.add rfl, keep g.dfr rfl, keep g.df2 rfl⟩

/-- The text so far, and how many are shown. -/
structure WT (B kt ks : Nat) (s : List UInt8 × Nat × Nat) (W : World) : Prop where
  txt : ∃ sv, W.heap[kt]? = some (.cells #[sv] 78 (0, 0)) ∧ W.ownsRow B 5 1 sv s.1.length (Lib.byteCells s.1)
  shn : W.heap[ks]? = some (.cells #[.int .i64 (s.2.1 : Nat)] 3 (0, 0))
  len : s.1.length ≤ 200 * s.2.2
  sh : s.2.1 ≤ s.2.2

/-- Blocks of the text. -/
def tt : Obj → Bool
  | .cells _ t _ => t == 5 || t == 78 || t == 3
  | _ => false
theorem tt_out {W : World} {S : List Nat} (hS : ∀ k, k ∈ S → ∃ o, W.heap[k]? = some o ∧ tt o = false) {k : Nat} {o : Obj} (hk : W.heap[k]? = some o) (ho : tt o = true) : k ∉ S := by
  intro hm
  obtain ⟨o', h1, h2⟩ := hS k hm
  rw [hk] at h1
  injection h1 with h1
  rw [h1, h2] at ho
  cases ho
theorem own_at {W : World} {B n sz : Nat} {t : TypeId} {sv : Value} {xs : List Value} (h : W.ownsRow B t sz sv n xs) {k : Nat} (hk : sv.ownBlock = some k) : ∃ c z, W.heap[k]? = some (.cells c t z) := by
  rcases h.2 with ⟨e, _⟩ | ⟨g, cap, cur, e, _, hg, _⟩
  · rw [e] at hk; simp [Value.ownBlock] at hk
  · rw [e] at hk
    simp [Value.ownBlock] at hk
    subst hk
    exact ⟨_, _, hg⟩
theorem WT.fr {B kt ks : Nat} {s : List UInt8 × Nat × Nat} {W W' : World} (g : WT B kt ks s W) {S : List Nat} (f : Fr S W W') (hS : ∀ k, k ∈ S → ∃ o, W.heap[k]? = some o ∧ tt o = false) : WT B kt ks s W' := by
  obtain ⟨sv, h1, h2⟩ := g.txt
  refine ⟨⟨sv, (f.block _ (Array.getElem?_eq_some_iff.1 h1).1 (tt_out hS h1 rfl)).trans h1, own_fr h2 f (fun k hk => ?_)⟩, (f.block _ (Array.getElem?_eq_some_iff.1 g.shn).1 (tt_out hS g.shn rfl)).trans g.shn, g.len, g.sh⟩
  obtain ⟨c, z, hc⟩ := own_at h2 hk
  exact tt_out hS hc rfl

theorem stk_tg {W : World} {B bx : Nat} {sv : Value} {L : List Seg} (k : Stk 121 86 okT W B bx sv L) : ∀ j, j ∈ bx :: sv.ownBlock.toList → (∃ o, W.heap[j]? = some o ∧ tg o = true) ∧ (∃ o, W.heap[j]? = some o ∧ tt o = false) ∧ B ≤ j := by
  intro j hj
  simp only [List.mem_cons, Option.mem_toList] at hj
  rcases hj with rfl | hj
  · exact ⟨⟨_, k.box, rfl⟩, ⟨_, k.box, rfl⟩, k.base⟩
  · obtain ⟨c, z, hc⟩ := own_at k.row hj
    exact ⟨⟨_, hc, rfl⟩, ⟨_, hc, rfl⟩, (k.row.lt j hj).1⟩

/-- In which blocks lists of pieces lie. -/
def in85 (W : World) (g : Nat) : Prop := ∃ c z, W.heap[g]? = some (.cells c 85 z)
theorem in85.fr {W W' : World} {g : Nat} (h : in85 W g) {S : List Nat} (f : Fr S W W') (hS : ∀ k, k ∈ S → ∃ o, W.heap[k]? = some o ∧ tg o = true) : in85 W' g := by
  obtain ⟨c, z, hg⟩ := h
  exact ⟨c, z, (f.block _ (Array.getElem?_eq_some_iff.1 hg).1 (tg_out hS hg rfl)).trans hg⟩
/-- What waits, beside the text's own writes. -/
theorem stk_tt {W W' : World} {B bx : Nat} {sv : Value} {L : List Seg} (k : Stk 121 86 okT W B bx sv L) (hL : ∀ t, t ∈ L → in85 W t.g) {S : List Nat} (f : Fr S W W') (hS : ∀ k, k ∈ S → ∃ o, W.heap[k]? = some o ∧ tt o = true) : Stk 121 86 okT W' B bx sv L := by
  have out : ∀ {k : Nat} {o : Obj}, W.heap[k]? = some o → tt o = false → k ∉ S := by
    intro k o hk ho hm
    obtain ⟨o', h1, h2⟩ := hS k hm
    rw [hk] at h1
    injection h1 with h1
    rw [h1, h2] at ho
    cases ho
  refine k.fr f (out k.box rfl) (fun j hj => ?_) (fun t ht => ?_)
  · obtain ⟨c, z, hc⟩ := own_at k.row hj
    exact out hc rfl
  · obtain ⟨c, z, hc⟩ := hL t ht
    exact out hc rfl

theorem tt_tg {o : Obj} (h : tt o = true) : tg o = true := by
  cases o with
  | cells c t z =>
    simp only [tt, tg, Bool.or_eq_true, beq_iff_eq] at h ⊢
    rcases h with (h | h) | h
    · exact .inl (.inl (.inr h))
    · exact .inl (.inr h)
    · exact .inr h
  | _ => simp [tt] at h

/-- What a round of Show finds. -/
structure RB (Wr : World) (h kh kr mp kp ka bx D D2 : Nat) (pl : List Int) (B : Nat) (sv : Value) (L : List Seg) (l kq : Nat) (lp : Loop) (x0 : ByteArray) (x1 : Bool) (x2 x3 : Int) (W : World) : Prop where
  g : WG0 Wr h kh kr mp kp ka bx D D2 pl W
  k : Stk 121 86 okT W B bx sv L
  rg : ∀ t, t ∈ L → in85 W t.g
  bz : W.heap[l]? = some (.loop lp)
  pq : W.heap[kq]? = some (.cells #[.string x0, .bool x1, .int .i64 x2, .int .i64 x3] 85 (0, 0))

theorem RB.fr {Wr : World} {h kh kr mp kp ka bx D D2 : Nat} {pl : List Int} {B : Nat} {sv : Value} {L : List Seg} {l kq : Nat} {lp : Loop} {x0 : ByteArray} {x1 : Bool} {x2 x3 : Int} {W W' : World} (r : RB Wr h kh kr mp kp ka bx D D2 pl B sv L l kq lp x0 x1 x2 x3 W) {S : List Nat} (f : Fr S W W') (hS : ∀ k, k ∈ S → (∃ o, W.heap[k]? = some o ∧ tt o = true) ∧ Wr.heap.size ≤ k) : RB Wr h kh kr mp kp ka bx D D2 pl B sv L l kq lp x0 x1 x2 x3 W' := by
  have h1 : ∀ k, k ∈ S → ∃ o, W.heap[k]? = some o ∧ tg o = true := fun k hk => by obtain ⟨⟨o, e1, e2⟩, _⟩ := hS k hk; exact ⟨o, e1, tt_tg e2⟩
  have out : ∀ {k : Nat} {o : Obj}, W.heap[k]? = some o → tt o = false → k ∉ S := by
    intro k o hk ho hm
    obtain ⟨⟨o', e1, e2⟩, _⟩ := hS k hm
    rw [hk] at e1
    injection e1 with e1
    rw [e1, e2] at ho
    cases ho
  exact ⟨r.g.fr f h1 (fun k hk => (hS k hk).2), stk_tt r.k r.rg f (fun k hk => (hS k hk).1), fun t ht => (r.rg t ht).fr f h1, (f.block _ (Array.getElem?_eq_some_iff.1 r.bz).1 (out r.bz rfl)).trans r.bz, (f.block _ (Array.getElem?_eq_some_iff.1 r.pq).1 (out r.pq rfl)).trans r.pq⟩

/-- The text so far. -/
def TX (B kt : Nat) (t : List UInt8) (W : World) : Prop := ∃ sv, W.heap[kt]? = some (.cells #[sv] 78 (0, 0)) ∧ W.ownsRow B 5 1 sv t.length (Lib.byteCells t)
theorem TX.fr {B kt : Nat} {t : List UInt8} {W W' : World} (h : TX B kt t W) (f : Fr [] W W') : TX B kt t W' := by
  obtain ⟨sv, h1, h2⟩ := h
  exact ⟨sv, (f.block _ (Array.getElem?_eq_some_iff.1 h1).1 (by simp)).trans h1, own_fr h2 f (by simp)⟩
theorem own_tt {W : World} {B n : Nat} {sv : Value} {xs : List Value} (h : W.ownsRow B 5 1 sv n xs) : ∀ k, k ∈ sv.ownBlock.toList → (∃ o, W.heap[k]? = some o ∧ tt o = true) ∧ B ≤ k := by
  intro k hk
  simp only [Option.mem_toList] at hk
  obtain ⟨c, z, hc⟩ := own_at h hk
  exact ⟨⟨_, hc, rfl⟩, (h.lt k hk).1⟩
theorem set_fr (W : World) (k : Nat) (v : Value) : Fr [k] W (W.setCell ⟨k, 0, none⟩ v) := Fr.setCell (Fr.refl _ _) (.inl (by simp)) _
theorem set_tt {W : World} {k B : Nat} {o : Obj} (h : W.heap[k]? = some o) (ho : tt o = true) (hB : B ≤ k) : ∀ j, j ∈ [k] → (∃ o, W.heap[j]? = some o ∧ tt o = true) ∧ B ≤ j := by
  intro j hj
  simp only [List.mem_singleton] at hj
  subst hj
  exact ⟨⟨_, h, ho⟩, hB⟩
theorem S5_tt {W : World} {B : Nat} : ∀ k, k ∈ S5 B W → (∃ o, W.heap[k]? = some o ∧ tt o = true) ∧ B ≤ k := by
  intro k hk
  obtain ⟨h1, c, z, h2⟩ := S5_mem hk
  exact ⟨⟨_, h2, rfl⟩, h1⟩
theorem S5_out {W : World} {B k : Nat} {o : Obj} (h : W.heap[k]? = some o) (ho : ∀ c z, o ≠ .cells c 5 z) : k ∉ S5 B W := by
  intro hm
  obtain ⟨_, c, z, h2⟩ := S5_mem hm
  rw [h] at h2
  injection h2 with h2
  exact ho _ _ h2
theorem txt_put {B kt n : Nat} {W : World} {sv v : Value} {xs : List Value} (h1 : W.heap[kt]? = some (.cells #[sv] 78 (0, 0))) (h2 : W.ownsRow B 5 1 v n xs) : (W.setCell ⟨kt, 0, none⟩ v).heap[kt]? = some (.cells #[v] 78 (0, 0)) ∧ (W.setCell ⟨kt, 0, none⟩ v).ownsRow B 5 1 v n xs := by
  have f : Fr [kt] W (W.setCell ⟨kt, 0, none⟩ v) := Fr.setCell (Fr.refl _ _) (.inl (by simp)) _
  refine ⟨by simp [World.setCell, Array.getElem?_modify, h1], own_fr h2 f (fun k hk => ?_)⟩
  obtain ⟨c, z, hc⟩ := own_at h2 hk
  simp only [List.mem_singleton]
  intro e
  subst e
  rw [h1] at hc
  simp at hc
theorem TX.put {B kt : Nat} {t : List UInt8} {W : World} {sv v : Value} (h1 : W.heap[kt]? = some (.cells #[sv] 78 (0, 0))) (h2 : W.ownsRow B 5 1 v t.length (Lib.byteCells t)) : TX B kt t (W.setCell ⟨kt, 0, none⟩ v) := by
  have f : Fr [kt] W (W.setCell ⟨kt, 0, none⟩ v) := Fr.setCell (Fr.refl _ _) (.inl (by simp)) _
  refine ⟨v, by simp [World.setCell, Array.getElem?_modify, h1], own_fr h2 f (fun k hk => ?_)⟩
  obtain ⟨c, z, hc⟩ := own_at h2 hk
  simp only [List.mem_singleton]
  intro e
  subst e
  rw [h1] at hc
  simp at hc

/-- append of a text to a row of bytes, in a fence. -/
theorem wpListIn_append_str {F : Fence} {n' : Nat} {P : Program} {ops : Array Oper} {rest : List Oper} {o : Oper} {a : Act} {Q : Exit → Act → World → Prop} (w : World) (hgd : o.guard = none) (sl x : Operand) (t u : TypeId)
    (ho : o.op = .call { callee := .builtin .append, args := #[sl, x], argTypes := #[t, u] })
    (base : Nat) (e : TypeId) (i : TypeInfo) (ht : P.underlying t = some (.slice e)) (hu : P.underlying u = some .string) (hi : P.info? e = some i) (hz : i.zero = some (.int .u8 0))
    (hsize : i.size = 1) (hby : i.bytes = 1)
    (v : Value) (n : Nat) (xs : List Value) (hs : a.eval sl = v) (hown : w.ownsRow base e 1 v n xs) (s : ByteArray) (hx : a.eval x = .string s)
    (h63 : n + s.size ≤ maxLen) (hbytes : n + s.size ≤ 140737488355328) (hbase : base ≤ w.heap.size)
    (h : ∀ v' w', w'.ownsRow base e 1 v' (n + s.size) (xs ++ Lib.strCells s) → w.grownBy w' v.ownBlock → wpListIn F n' P ops Q rest (a.put o.dst v') w') : wpListIn F n' P ops Q (o :: rest) a w := by
  refine wpListIn_plain hgd fun K hK => ?_
  obtain ⟨v', w', hr, h2, h3, h4⟩ := Lib.run_append_own_string (P := P) w base t u o.type e i ht hu hi hz hsize hby v n xs hown s h63 hbytes hbase
  unfold Oper.wpIn
  refine ⟨?_, ?_⟩
  · simp [Oper.about, ho, resolve, Target.leads, Sem.run_pure]
  · rw [Oper.semAt_plain F _ _ (by rw [ho]; intro c hc'; cases hc')]
    simp [execOp, ho, resolve, invoke, builtin, hs, hx, hr, Result.andThen]
    exact hK _ _ (h v' w' h2 h3)

theorem addT_own {W : World} {B bx B0 : Nat} {sv v : Value} {L : List Seg} {more : List (List Value)} (h : Stk 121 86 okT W B bx sv L) (hv : W.ownsRow B0 85 4 v more.length more.flatten) (hm : ∀ x, x ∈ more → okT x) (hL : L.length ≤ 1000000000000) :
    Calls Tryd.prog 49 #[v, .pointer (some ⟨bx, 0, none⟩)] W fun e W' => e = .returned (.tuple #[]) ∧ ∃ sv' L', Stk 121 86 okT W' B bx sv' L' ∧ pend L' = more ++ pend L ∧ L'.length ≤ L.length + 1 ∧ Fr (bx :: sv.ownBlock.toList) W W' ∧ ∀ t, t ∈ L' → t ∈ L ∨ in85 W t.g := by
  cases more with
  | nil =>
    obtain ⟨a, c, rfl, _⟩ := own_slice hv
    refine (addT_none W a c bx).mono ?_
    rintro e W' ⟨rfl, rfl⟩
    exact ⟨rfl, sv, L, h, rfl, by omega, Fr.refl _ _, fun t ht => .inl ht⟩
  | cons x r =>
    rcases hv.2 with ⟨_, e⟩ | ⟨g, cap, cur, rfl, hB, hg, h1, h2, h3, h4⟩
    · simp at e
    · have hcell : ∀ j u, (x :: r).flatten[j]? = some u → W.cell? ⟨g, 0 + j, none⟩ = some u := fun j u hu => by
        have hj := (List.getElem?_eq_some_iff.1 hu).1
        rw [Nat.zero_add, World.ownsRow.cellAt hv j (by rw [← hv.1]; exact hj)]
        exact hu
      have hgb : g ≠ bx := fun e => by have := h.box; rw [← e, hg] at this; simp at this
      have hgr : sv.ownBlock ≠ some g := own_ne h.row hg (by decide)
      refine (addT h ⟨g, 0, cap, x :: r⟩ hcell ⟨by simp, h1, hm⟩ ⟨hgb, hgr, (Array.getElem?_eq_some_iff.1 hg).1⟩ hL).mono ?_
      rintro e W' ⟨rfl, sv', hk, hf⟩
      refine ⟨rfl, sv', _, hk, by rw [pend_snoc], by simp, hf, fun t ht => ?_⟩
      rcases List.mem_append.1 ht with h5 | h5
      · exact .inl h5
      · simp at h5
        subst h5
        exact .inr ⟨_, _, hg⟩
theorem pieces_ok (xs : List (Int × Int)) (s e : ByteArray) (hs : s.size ≤ 100) (he : e.size ≤ 100) (hw : ∀ c, c ∈ xs → (Lit.int .i64 c.2).wf = true) : ∀ z, z ∈ tolds s xs ++ [bare e] → okT z := by
  intro z hz
  simp only [List.mem_append, List.mem_singleton] at hz
  rcases hz with hz | rfl
  · exact tolds_ok xs s hs hw z hz
  · exact ⟨_, _, _, _, rfl, by decide, he⟩
theorem bt_size (l : List UInt8) : (bt l).size = l.length := by simp [bt, ByteArray.size]
theorem opn_len {r : Int} (h : (Lit.int .i64 r).wf = true) : (opn r).length ≤ 22 := by
  unfold opn
  have := itoa_len h
  split <;> simp <;> omega
theorem bodyL_ok (o : Int × List (Int × Int)) (hr : (Lit.int .i64 o.1).wf = true) (hw : ∀ c, c ∈ o.2 → (Lit.int .i64 c.2).wf = true) : ∀ z, z ∈ bodyL o → okT z := by
  intro z hz
  unfold bodyL at hz
  simp only [List.mem_cons] at hz
  rcases hz with rfl | hz
  · exact ⟨_, _, _, _, rfl, by decide, by rw [bt_size]; have := opn_len hr; omega⟩
  · refine pieces_ok o.2 _ _ ?_ ?_ hw z hz
    · rw [bt_size]; unfold sep0; split <;> simp
    · rw [bt_size]; unfold cls; split <;> simp
end Go.Proofs.YtefkcmeeagflmaaDoor
namespace Go.Proofs.YtefkcmeeagflmaaDoor
open Go.RowKit Go.Shelf Go.Maps
attribute [local go_sem] Oper.semAt_some store_func
set_option linter.unusedVariables false
set_option linter.unusedSimpArgs false

/-- append of a text, where a region draws its order, in a fence. -/
theorem step_strIn {F : Fence} {nF : Nat} {P : Program} {ops : Array Oper} {o : Oper} {a : Act} {w : World} {K : Act → World → Prop} {Q : Exit → Act → World → Prop} {E : Prop} (hgd : o.guard = none) (sl x : Operand) (t u : TypeId)
    (ho : o.op = .call { callee := .builtin .append, args := #[sl, x], argTypes := #[t, u] })
    (base : Nat) (e : TypeId) (i : TypeInfo) (ht : P.underlying t = some (.slice e)) (hu : P.underlying u = some .string) (hi : P.info? e = some i) (hz : i.zero = some (.int .u8 0)) (hsize : i.size = 1) (hby : i.bytes = 1)
    (v : Value) (n : Nat) (xs : List Value) (hs : a.eval sl = v) (hown : w.ownsRow base e 1 v n xs) (s : ByteArray) (hx : a.eval x = .string s)
    (h63 : n + s.size ≤ maxLen) (hbytes : n + s.size ≤ 140737488355328) (hbase : base ≤ w.heap.size)
    (h : ∀ v' w', w'.ownsRow base e 1 v' (n + s.size) (xs ++ Lib.strCells s) → w.grownBy w' v.ownBlock → K (a.put o.dst v') w') :
    if Region.wanted o (yielded ops a.tmps) = true then Oper.wpIn F nF P o a w K Q else E := by
  have hw : Region.wanted o (yielded ops a.tmps) = true := by simp [Region.wanted, hgd]
  rw [if_pos hw]
  obtain ⟨v', w', hr, h2, h3, _⟩ := Lib.run_append_own_string (P := P) w base t u o.type e i ht hu hi hz hsize hby v n xs hown s h63 hbytes hbase
  unfold Oper.wpIn
  refine ⟨?_, ?_⟩
  · simp [Oper.about, ho, resolve, Target.leads, Sem.run_pure]
  · rw [Oper.semAt_plain F _ _ (by rw [ho]; intro c hc'; cases hc')]
    simp [execOp, ho, resolve, invoke, builtin, hs, hx, hr, Result.andThen]
    exact h v' w' h2 h3

set_option maxRecDepth 100000 in
set_option maxHeartbeats 4000000 in
theorem reg17 {l : Nat} {Y : World} (PW : Pw Y) {B ks kq : Nat} {x0 : ByteArray} {x1 : Bool} {x2 x3 : Int} (hx3 : (Lit.int .i64 x3).wf = true) (hq : Y.heap[kq]? = some (.cells #[.string x0, .bool x1, .int .i64 x2, .int .i64 x3] 85 (0, 0))) {av : Option Addr} {cv : Nat} {t : List UInt8} (N : Nat) (hN : t.length = N) (ht1 : Y.heap[ks]? = some (.cells #[.slice av N cv] 78 (0, 0))) (ht2 : Y.ownsRow B 5 1 (.slice av N cv) N (Lib.byteCells t)) (hB : B ≤ Y.heap.size) (htl : N ≤ 1000000000000)
    {Q : Exit → Act → World → Prop} {s0 s1 s2 s3 s4 s5 s6 s8 s9 s10 s12 s13 s14 s15 s16 s17 s18 s19 s20 s21 s22 s23 s24 s25 s26 s27 s28 s29 s30 s31 s32 s33 s34 s35 s36 s37 s38 s39 s40 s41 s42 s43 s44 s45 s46 s47 s48 s49 s50 s51 s52 s53 s54 s55 s56 s57 s58 s59 s60 s61 s62 s63 s64 s65 s66 s67 s68 s69 s70 s71 s72 s73 s74 s75 s76 s77 s78 s79 s80 s81 s82 s83 s84 s85 s86 s87 s88 s89 : Value}
    (h : ∀ a' Z v3 Z3, Fr [] Y Z → Fr (Value.slice av N cv).ownBlock.toList Z Z3 → Z3.heap[ks]? = some (.cells #[.slice av N cv] 78 (0, 0)) → Z3.ownsRow B 5 1 v3 (t ++ plainB (x2, x3)).length (Lib.byteCells (t ++ plainB (x2, x3))) → Q .normal a' (Z3.setCell ⟨ks, 0, none⟩ v3)) :
    (Code.region 17 #[{ dst := some 61, op := Op.load 78 (Operand.tmp 7), type := 78, pos := "text.go:40", after := #[], guard := none }, { dst := some 62, op := Op.fieldAddr 85 (Operand.tmp 11) 2, type := 0, pos := "text.go:40", after := #[], guard := none }, { dst := some 63, op := Op.load 45 (Operand.tmp 62), type := 45, pos := "text.go:40", after := #[{ on := 1, ground := Ground.data }], guard := none }, { dst := some 64, op := Op.call { callee := Callee.value (Operand.func 32), args := #[Operand.tmp 63], argTypes := #[45] }, type := 9, pos := "text.go:40", after := #[{ on := 2, ground := Ground.data }], guard := none }, { dst := some 65, op := Op.call { callee := Callee.builtin Builtin.append, args := #[Operand.tmp 61, Operand.tmp 64], argTypes := #[78, 9] }, type := 78, pos := "text.go:40", after := #[{ on := 0, ground := Ground.data }, { on := 3, ground := Ground.data }, { on := 3, ground := Ground.chain }], guard := none }, { dst := none, op := Op.store 78 (Operand.tmp 7) (Operand.tmp 65), type := 0, pos := "text.go:40", after := #[{ on := 4, ground := Ground.data }, { on := 4, ground := Ground.chain }, { on := 0, ground := Ground.phase }, { on := 1, ground := Ground.phase }, { on := 2, ground := Ground.phase }, { on := 3, ground := Ground.phase }, { on := 4, ground := Ground.phase }], guard := none }] true).wpIn (Fence.wide.inRound l) 0 Tryd.prog Q { tmps := #[s0, s1, s2, s3, s4, s5, s6, .pointer (some ⟨ks, 0, none⟩), s8, s9, s10, .pointer (some ⟨kq, 0, none⟩), s12, s13, s14, s15, s16, s17, s18, s19, s20, s21, s22, s23, s24, s25, s26, s27, s28, s29, s30, s31, s32, s33, s34, s35, s36, s37, s38, s39, s40, s41, s42, s43, s44, s45, s46, s47, s48, s49, s50, s51, s52, s53, s54, s55, s56, s57, s58, s59, s60, s61, s62, s63, s64, s65, s66, s67, s68, s69, s70, s71, s72, s73, s74, s75, s76, s77, s78, s79, s80, s81, s82, s83, s84, s85, s86, s87, s88, s89], defers := [] } Y := by
  obtain ⟨i5, hi5, hz5, hs5, hb5⟩ := info_parts info5
  have hpb : (plainB (x2, x3)).length ≤ 21 := by
    unfold plainB
    split
    · exact itoa_len hx3
    · split <;> simp
  have cu := at_cells ht1 0 rfl
  have q2 := at_cells hq 2 (u := .int .i64 x2) rfl
  have q3 := at_cells hq 3 (u := .int .i64 x3) rfl
  have h1 : N + (bt (plainB (x2, x3))).size ≤ maxLen := by rw [bt_size]; have : maxLen = 9223372036854775807 := rfl; omega
  have h2 : N + (bt (plainB (x2, x3))).size ≤ 140737488355328 := by rw [bt_size]; omega
  have PW2 : Pw Y.drew := PW.fr (Fr.drew (Fr.refl [] Y)) (by simp)
  refine wpIn_region_any (by kernel_rfl) ?_
  change wpAnyIn _ _ _ _ _ _ _ _ _ (World.drew _)
  refine wpAnyIn_ready (rs := [0, 1]) (by decide +kernel) (by simp) ?_
  refine AllReadyIn.cons rfl (fun K hK => ?_) ?_
  · go_simp
    refine hK _ _ ?_
    clear hK K
    refine wpAnyIn_ready (rs := [1]) (by decide +kernel) (by simp) ?_
    refine AllReadyIn.cons rfl (fun K hK => ?_) AllReadyIn.nil
    go_simp
    refine hK _ _ ?_
    clear hK K
    refine wpAnyIn_ready (rs := [2]) (by decide +kernel) (by simp) ?_
    refine AllReadyIn.cons rfl (fun K hK => ?_) AllReadyIn.nil
    go_simp
    refine hK _ _ ?_
    clear hK K
    refine wpAnyIn_ready (rs := [3]) (by decide +kernel) (by simp) ?_
    refine AllReadyIn.cons rfl (fun K hK => ?_) AllReadyIn.nil
    go_simp
    refine ⟨trivial, rfl, ?_⟩
    refine (CallsIn.inRound l (callsIn_wide.2 (plain_any _ PW2 (x2, x3) hx3))).mono ?_
    rintro e Z ⟨rfl, fz'⟩
    have fz : Fr [] Y Z := (Fr.drew (Fr.refl [] Y)).trans fz'
    have hz1 := (fz.block _ (Array.getElem?_eq_some_iff.1 ht1).1 (by simp)).trans ht1
    have cz := at_cells hz1 0 rfl
    have hz2 := own_fr ht2 fz (by simp)
    have hZ := fz.size
    refine hK _ _ ?_
    clear hK K
    refine wpAnyIn_ready (rs := [4]) (by decide +kernel) (by simp) ?_
    refine AllReadyIn.cons rfl (fun K hK => ?_) AllReadyIn.nil
    refine step_strIn rfl (.tmp 61) (.tmp 64) 78 9 rfl B 5 i5 under78 under9 hi5 hz5 hs5 hb5 (.slice av N cv) N (Lib.byteCells t) rfl hz2 (bt (plainB (x2, x3))) rfl h1 h2 (Nat.le_trans hB hZ) ?_
    intro v3 Z3 ho3 hg3
    have f3 := Fr.ofGrown hg3
    have hz3 := (f3.block _ (Array.getElem?_eq_some_iff.1 hz1).1 (by simp only [Option.mem_toList]; exact own_ne hz2 hz1 (by decide))).trans hz1
    have cz3 := at_cells hz3 0 rfl
    have zz3 : Z3.frozen? ⟨ks, 0, none⟩ = false := by simp [World.frozen?, hz3]
    have ho4 : Z3.ownsRow B 5 1 v3 (t ++ plainB (x2, x3)).length (Lib.byteCells (t ++ plainB (x2, x3))) := by
      rw [List.length_append, hN]
      have e : Lib.byteCells (t ++ plainB (x2, x3)) = Lib.byteCells t ++ Lib.strCells (bt (plainB (x2, x3))) := by simp [Lib.byteCells, Lib.strCells, bt]
      rw [e, ← bt_size]
      exact ho3
    obtain ⟨a3, c3, hv3, _⟩ := own_slice ho3
    subst hv3
    refine hK _ _ ?_
    clear hK K cu
    refine wpAnyIn_ready (rs := [5]) (by decide +kernel) (by simp) ?_
    refine AllReadyIn.cons rfl (fun K hK => ?_) AllReadyIn.nil
    go_simp
    refine hK _ _ ?_
    clear hK K
    refine wpAnyIn_done (by decide +kernel) ?_ _
    exact h _ Z _ Z3 fz f3 hz3 ho4
  refine AllReadyIn.cons rfl (fun K hK => ?_) AllReadyIn.nil
  go_simp
  refine hK _ _ ?_
  clear hK K
  refine wpAnyIn_ready (rs := [0, 2]) (by decide +kernel) (by simp) ?_
  refine AllReadyIn.cons rfl (fun K hK => ?_) ?_
  · go_simp
    refine hK _ _ ?_
    clear hK K
    refine wpAnyIn_ready (rs := [2]) (by decide +kernel) (by simp) ?_
    refine AllReadyIn.cons rfl (fun K hK => ?_) AllReadyIn.nil
    go_simp
    refine hK _ _ ?_
    clear hK K
    refine wpAnyIn_ready (rs := [3]) (by decide +kernel) (by simp) ?_
    refine AllReadyIn.cons rfl (fun K hK => ?_) AllReadyIn.nil
    go_simp
    refine ⟨trivial, rfl, ?_⟩
    refine (CallsIn.inRound l (callsIn_wide.2 (plain_any _ PW2 (x2, x3) hx3))).mono ?_
    rintro e Z ⟨rfl, fz'⟩
    have fz : Fr [] Y Z := (Fr.drew (Fr.refl [] Y)).trans fz'
    have hz1 := (fz.block _ (Array.getElem?_eq_some_iff.1 ht1).1 (by simp)).trans ht1
    have cz := at_cells hz1 0 rfl
    have hz2 := own_fr ht2 fz (by simp)
    have hZ := fz.size
    refine hK _ _ ?_
    clear hK K
    refine wpAnyIn_ready (rs := [4]) (by decide +kernel) (by simp) ?_
    refine AllReadyIn.cons rfl (fun K hK => ?_) AllReadyIn.nil
    refine step_strIn rfl (.tmp 61) (.tmp 64) 78 9 rfl B 5 i5 under78 under9 hi5 hz5 hs5 hb5 (.slice av N cv) N (Lib.byteCells t) rfl hz2 (bt (plainB (x2, x3))) rfl h1 h2 (Nat.le_trans hB hZ) ?_
    intro v3 Z3 ho3 hg3
    have f3 := Fr.ofGrown hg3
    have hz3 := (f3.block _ (Array.getElem?_eq_some_iff.1 hz1).1 (by simp only [Option.mem_toList]; exact own_ne hz2 hz1 (by decide))).trans hz1
    have cz3 := at_cells hz3 0 rfl
    have zz3 : Z3.frozen? ⟨ks, 0, none⟩ = false := by simp [World.frozen?, hz3]
    have ho4 : Z3.ownsRow B 5 1 v3 (t ++ plainB (x2, x3)).length (Lib.byteCells (t ++ plainB (x2, x3))) := by
      rw [List.length_append, hN]
      have e : Lib.byteCells (t ++ plainB (x2, x3)) = Lib.byteCells t ++ Lib.strCells (bt (plainB (x2, x3))) := by simp [Lib.byteCells, Lib.strCells, bt]
      rw [e, ← bt_size]
      exact ho3
    obtain ⟨a3, c3, hv3, _⟩ := own_slice ho3
    subst hv3
    refine hK _ _ ?_
    clear hK K cu
    refine wpAnyIn_ready (rs := [5]) (by decide +kernel) (by simp) ?_
    refine AllReadyIn.cons rfl (fun K hK => ?_) AllReadyIn.nil
    go_simp
    refine hK _ _ ?_
    clear hK K
    refine wpAnyIn_done (by decide +kernel) ?_ _
    exact h _ Z _ Z3 fz f3 hz3 ho4
  refine AllReadyIn.cons rfl (fun K hK => ?_) AllReadyIn.nil
  go_simp
  refine hK _ _ ?_
  clear hK K
  refine wpAnyIn_ready (rs := [0, 3]) (by decide +kernel) (by simp) ?_
  refine AllReadyIn.cons rfl (fun K hK => ?_) ?_
  · go_simp
    refine hK _ _ ?_
    clear hK K
    refine wpAnyIn_ready (rs := [3]) (by decide +kernel) (by simp) ?_
    refine AllReadyIn.cons rfl (fun K hK => ?_) AllReadyIn.nil
    go_simp
    refine ⟨trivial, rfl, ?_⟩
    refine (CallsIn.inRound l (callsIn_wide.2 (plain_any _ PW2 (x2, x3) hx3))).mono ?_
    rintro e Z ⟨rfl, fz'⟩
    have fz : Fr [] Y Z := (Fr.drew (Fr.refl [] Y)).trans fz'
    have hz1 := (fz.block _ (Array.getElem?_eq_some_iff.1 ht1).1 (by simp)).trans ht1
    have cz := at_cells hz1 0 rfl
    have hz2 := own_fr ht2 fz (by simp)
    have hZ := fz.size
    refine hK _ _ ?_
    clear hK K
    refine wpAnyIn_ready (rs := [4]) (by decide +kernel) (by simp) ?_
    refine AllReadyIn.cons rfl (fun K hK => ?_) AllReadyIn.nil
    refine step_strIn rfl (.tmp 61) (.tmp 64) 78 9 rfl B 5 i5 under78 under9 hi5 hz5 hs5 hb5 (.slice av N cv) N (Lib.byteCells t) rfl hz2 (bt (plainB (x2, x3))) rfl h1 h2 (Nat.le_trans hB hZ) ?_
    intro v3 Z3 ho3 hg3
    have f3 := Fr.ofGrown hg3
    have hz3 := (f3.block _ (Array.getElem?_eq_some_iff.1 hz1).1 (by simp only [Option.mem_toList]; exact own_ne hz2 hz1 (by decide))).trans hz1
    have cz3 := at_cells hz3 0 rfl
    have zz3 : Z3.frozen? ⟨ks, 0, none⟩ = false := by simp [World.frozen?, hz3]
    have ho4 : Z3.ownsRow B 5 1 v3 (t ++ plainB (x2, x3)).length (Lib.byteCells (t ++ plainB (x2, x3))) := by
      rw [List.length_append, hN]
      have e : Lib.byteCells (t ++ plainB (x2, x3)) = Lib.byteCells t ++ Lib.strCells (bt (plainB (x2, x3))) := by simp [Lib.byteCells, Lib.strCells, bt]
      rw [e, ← bt_size]
      exact ho3
    obtain ⟨a3, c3, hv3, _⟩ := own_slice ho3
    subst hv3
    refine hK _ _ ?_
    clear hK K cu
    refine wpAnyIn_ready (rs := [5]) (by decide +kernel) (by simp) ?_
    refine AllReadyIn.cons rfl (fun K hK => ?_) AllReadyIn.nil
    go_simp
    refine hK _ _ ?_
    clear hK K
    refine wpAnyIn_done (by decide +kernel) ?_ _
    exact h _ Z _ Z3 fz f3 hz3 ho4
  refine AllReadyIn.cons rfl (fun K hK => ?_) AllReadyIn.nil
  go_simp
  refine ⟨trivial, rfl, ?_⟩
  refine (CallsIn.inRound l (callsIn_wide.2 (plain_any _ PW2 (x2, x3) hx3))).mono ?_
  rintro e Z ⟨rfl, fz'⟩
  have fz : Fr [] Y Z := (Fr.drew (Fr.refl [] Y)).trans fz'
  have hz1 := (fz.block _ (Array.getElem?_eq_some_iff.1 ht1).1 (by simp)).trans ht1
  have cz := at_cells hz1 0 rfl
  have hz2 := own_fr ht2 fz (by simp)
  have hZ := fz.size
  refine hK _ _ ?_
  clear hK K
  refine wpAnyIn_ready (rs := [0]) (by decide +kernel) (by simp) ?_
  refine AllReadyIn.cons rfl (fun K hK => ?_) AllReadyIn.nil
  go_simp
  refine hK _ _ ?_
  clear hK K
  refine wpAnyIn_ready (rs := [4]) (by decide +kernel) (by simp) ?_
  refine AllReadyIn.cons rfl (fun K hK => ?_) AllReadyIn.nil
  refine step_strIn rfl (.tmp 61) (.tmp 64) 78 9 rfl B 5 i5 under78 under9 hi5 hz5 hs5 hb5 (.slice av N cv) N (Lib.byteCells t) rfl hz2 (bt (plainB (x2, x3))) rfl h1 h2 (Nat.le_trans hB hZ) ?_
  intro v3 Z3 ho3 hg3
  have f3 := Fr.ofGrown hg3
  have hz3 := (f3.block _ (Array.getElem?_eq_some_iff.1 hz1).1 (by simp only [Option.mem_toList]; exact own_ne hz2 hz1 (by decide))).trans hz1
  have cz3 := at_cells hz3 0 rfl
  have zz3 : Z3.frozen? ⟨ks, 0, none⟩ = false := by simp [World.frozen?, hz3]
  have ho4 : Z3.ownsRow B 5 1 v3 (t ++ plainB (x2, x3)).length (Lib.byteCells (t ++ plainB (x2, x3))) := by
    rw [List.length_append, hN]
    have e : Lib.byteCells (t ++ plainB (x2, x3)) = Lib.byteCells t ++ Lib.strCells (bt (plainB (x2, x3))) := by simp [Lib.byteCells, Lib.strCells, bt]
    rw [e, ← bt_size]
    exact ho3
  obtain ⟨a3, c3, hv3, _⟩ := own_slice ho3
  subst hv3
  refine hK _ _ ?_
  clear hK K cu
  refine wpAnyIn_ready (rs := [5]) (by decide +kernel) (by simp) ?_
  refine AllReadyIn.cons rfl (fun K hK => ?_) AllReadyIn.nil
  go_simp
  refine hK _ _ ?_
  clear hK K
  refine wpAnyIn_done (by decide +kernel) ?_ _
  exact h _ Z _ Z3 fz f3 hz3 ho4
end Go.Proofs.YtefkcmeeagflmaaDoor
namespace Go.Proofs.YtefkcmeeagflmaaDoor
open Go.RowKit Go.Shelf Go.Maps
attribute [local go_sem] Oper.semAt_some store_func
set_option linter.unusedVariables false
set_option linter.unusedSimpArgs false

set_option maxRecDepth 100000 in
set_option maxHeartbeats 4000000 in
theorem reg23 {l : Nat} {Y : World} (PW : Pw Y) {B ka ko bx g n : Nat} {sv : Value} {L : List Seg} (hk : Stk 121 86 okT Y B bx sv L) (hL : L.length ≤ 1000000000000) (o : Int × List (Int × Int)) (hr : (Lit.int .i64 o.1).wf = true) (hw : ∀ c, c ∈ o.2 → (Lit.int .i64 c.2).wf = true) (hxn : o.2.length = n) (hn : (n : Int) ≤ 1000000)
    (hka : Y.heap[ka]? = some (.cells #[.func (.func 49) #[] #[.pointer (some ⟨bx, 0, none⟩)]] 79 (0, 0))) (hko : Y.heap[ko]? = some (.cells #[.int .i64 o.1, .slice (some ⟨g, 0, none⟩) n n] 41 (0, 0))) (hl : Lies Y (some ⟨g, 0, none⟩) o.2)
    {Q : Exit → Act → World → Prop} {s0 s1 s2 s3 s4 s5 s6 s7 s8 s10 s11 s12 s13 s15 s16 s17 s18 s19 s20 s21 s22 s23 s24 s25 s26 s27 s28 s29 s30 s31 s32 s33 s34 s35 s36 s37 s38 s39 s40 s41 s42 s43 s44 s45 s46 s47 s48 s49 s50 s51 s52 s53 s54 s55 s56 s57 s58 s59 s60 s61 s62 s63 s64 s65 s66 s67 s68 s69 s70 s71 s72 s73 s74 s75 s76 s77 s78 s79 s80 s81 s82 s83 s84 s85 s86 s87 s88 s89 : Value}
    (h : ∀ a' Z Z2 sv' L', Fr [] Y Z → Fr (bx :: sv.ownBlock.toList) Z Z2 → Stk 121 86 okT Z B bx sv L → Stk 121 86 okT Z2 B bx sv' L' → pend L' = bodyL o ++ pend L → L'.length ≤ L.length + 1 → (∀ t, t ∈ L' → t ∈ L ∨ in85 Z t.g) → Q .normal a' Z2) :
    (Code.region 23 #[{ dst := some 84, op := Op.load 79 (Operand.tmp 9), type := 79, pos := "text.go:49", after := #[], guard := none }, { dst := some 85, op := Op.load 41 (Operand.tmp 14), type := 41, pos := "text.go:49", after := #[], guard := none }, { dst := some 86, op := Op.call { callee := Callee.value (Operand.func 35), args := #[Operand.tmp 85], argTypes := #[41] }, type := 86, pos := "text.go:49", after := #[{ on := 1, ground := Ground.data }], guard := none }, { dst := some 87, op := Op.call { callee := Callee.value (Operand.tmp 84), args := #[Operand.tmp 86], argTypes := #[86] }, type := 0, pos := "text.go:49", after := #[{ on := 0, ground := Ground.data }, { on := 2, ground := Ground.data }, { on := 2, ground := Ground.chain }], guard := none }] true).wpIn (Fence.wide.inRound l) 0 Tryd.prog Q { tmps := #[s0, s1, s2, s3, s4, s5, s6, s7, s8, .pointer (some ⟨ka, 0, none⟩), s10, s11, s12, s13, .pointer (some ⟨ko, 0, none⟩), s15, s16, s17, s18, s19, s20, s21, s22, s23, s24, s25, s26, s27, s28, s29, s30, s31, s32, s33, s34, s35, s36, s37, s38, s39, s40, s41, s42, s43, s44, s45, s46, s47, s48, s49, s50, s51, s52, s53, s54, s55, s56, s57, s58, s59, s60, s61, s62, s63, s64, s65, s66, s67, s68, s69, s70, s71, s72, s73, s74, s75, s76, s77, s78, s79, s80, s81, s82, s83, s84, s85, s86, s87, s88, s89], defers := [] } Y := by
  have ca := at_cells hka 0 rfl
  have q0 := at_cells hko 0 (u := .int .i64 o.1) rfl
  have q1 := at_cells hko 1 (u := .slice (some ⟨g, 0, none⟩) n n) rfl
  have PW2 : Pw Y.drew := PW.fr (Fr.drew (Fr.refl [] Y)) (by simp)
  have hl2 : Lies Y.drew (some ⟨g, 0, none⟩) o.2 := hl.fr (Fr.drew (Fr.refl [] Y)) (by simp)
  refine wpIn_region_any (by kernel_rfl) ?_
  change wpAnyIn _ _ _ _ _ _ _ _ _ (World.drew _)
  refine wpAnyIn_ready (rs := [0, 1]) (by decide +kernel) (by simp) ?_
  refine AllReadyIn.cons rfl (fun K hK => ?_) ?_
  · go_simp
    refine hK _ _ ?_
    clear hK K
    refine wpAnyIn_ready (rs := [1]) (by decide +kernel) (by simp) ?_
    refine AllReadyIn.cons rfl (fun K hK => ?_) AllReadyIn.nil
    go_simp
    refine hK _ _ ?_
    clear hK K
    refine wpAnyIn_ready (rs := [2]) (by decide +kernel) (by simp) ?_
    refine AllReadyIn.cons rfl (fun K hK => ?_) AllReadyIn.nil
    go_simp
    refine ⟨trivial, rfl, ?_⟩
    refine (CallsIn.inRound l (callsIn_wide.2 (body_any _ PW2 o hr n hxn (some ⟨g, 0, none⟩) n hl2 hn))).mono ?_
    rintro e Z ⟨v, rfl, fz', ho⟩
    have fz : Fr [] Y Z := (Fr.drew (Fr.refl [] Y)).trans fz'
    have hz1 := (fz.block _ (Array.getElem?_eq_some_iff.1 hka).1 (by simp)).trans hka
    have cz := at_cells hz1 0 rfl
    have kz := hk.frame fz
    obtain ⟨av, cv, hv, _⟩ := own_slice ho
    subst hv
    refine hK _ _ ?_
    clear hK K
    refine wpAnyIn_ready (rs := [3]) (by decide +kernel) (by simp) ?_
    refine AllReadyIn.cons rfl (fun K hK => ?_) AllReadyIn.nil
    go_simp
    refine ⟨trivial, rfl, ?_⟩
    refine (CallsIn.inRound l (callsIn_wide.2 (addT_own kz ho (bodyL_ok o hr hw) hL))).mono ?_
    rintro e Z2 ⟨rfl, sv', L', k2, p2, l2, f2, r2⟩
    refine hK _ _ ?_
    clear hK K
    refine wpAnyIn_done (by decide +kernel) ?_ _
    exact h _ Z Z2 sv' L' fz f2 kz k2 p2 l2 r2
  refine AllReadyIn.cons rfl (fun K hK => ?_) AllReadyIn.nil
  go_simp
  refine hK _ _ ?_
  clear hK K
  refine wpAnyIn_ready (rs := [0, 2]) (by decide +kernel) (by simp) ?_
  refine AllReadyIn.cons rfl (fun K hK => ?_) ?_
  · go_simp
    refine hK _ _ ?_
    clear hK K
    refine wpAnyIn_ready (rs := [2]) (by decide +kernel) (by simp) ?_
    refine AllReadyIn.cons rfl (fun K hK => ?_) AllReadyIn.nil
    go_simp
    refine ⟨trivial, rfl, ?_⟩
    refine (CallsIn.inRound l (callsIn_wide.2 (body_any _ PW2 o hr n hxn (some ⟨g, 0, none⟩) n hl2 hn))).mono ?_
    rintro e Z ⟨v, rfl, fz', ho⟩
    have fz : Fr [] Y Z := (Fr.drew (Fr.refl [] Y)).trans fz'
    have hz1 := (fz.block _ (Array.getElem?_eq_some_iff.1 hka).1 (by simp)).trans hka
    have cz := at_cells hz1 0 rfl
    have kz := hk.frame fz
    obtain ⟨av, cv, hv, _⟩ := own_slice ho
    subst hv
    refine hK _ _ ?_
    clear hK K
    refine wpAnyIn_ready (rs := [3]) (by decide +kernel) (by simp) ?_
    refine AllReadyIn.cons rfl (fun K hK => ?_) AllReadyIn.nil
    go_simp
    refine ⟨trivial, rfl, ?_⟩
    refine (CallsIn.inRound l (callsIn_wide.2 (addT_own kz ho (bodyL_ok o hr hw) hL))).mono ?_
    rintro e Z2 ⟨rfl, sv', L', k2, p2, l2, f2, r2⟩
    refine hK _ _ ?_
    clear hK K
    refine wpAnyIn_done (by decide +kernel) ?_ _
    exact h _ Z Z2 sv' L' fz f2 kz k2 p2 l2 r2
  refine AllReadyIn.cons rfl (fun K hK => ?_) AllReadyIn.nil
  go_simp
  refine ⟨trivial, rfl, ?_⟩
  refine (CallsIn.inRound l (callsIn_wide.2 (body_any _ PW2 o hr n hxn (some ⟨g, 0, none⟩) n hl2 hn))).mono ?_
  rintro e Z ⟨v, rfl, fz', ho⟩
  have fz : Fr [] Y Z := (Fr.drew (Fr.refl [] Y)).trans fz'
  have hz1 := (fz.block _ (Array.getElem?_eq_some_iff.1 hka).1 (by simp)).trans hka
  have cz := at_cells hz1 0 rfl
  have kz := hk.frame fz
  obtain ⟨av, cv, hv, _⟩ := own_slice ho
  subst hv
  refine hK _ _ ?_
  clear hK K
  refine wpAnyIn_ready (rs := [0]) (by decide +kernel) (by simp) ?_
  refine AllReadyIn.cons rfl (fun K hK => ?_) AllReadyIn.nil
  go_simp
  refine hK _ _ ?_
  clear hK K
  refine wpAnyIn_ready (rs := [3]) (by decide +kernel) (by simp) ?_
  refine AllReadyIn.cons rfl (fun K hK => ?_) AllReadyIn.nil
  go_simp
  refine ⟨trivial, rfl, ?_⟩
  refine (CallsIn.inRound l (callsIn_wide.2 (addT_own kz ho (bodyL_ok o hr hw) hL))).mono ?_
  rintro e Z2 ⟨rfl, sv', L', k2, p2, l2, f2, r2⟩
  refine hK _ _ ?_
  clear hK K
  refine wpAnyIn_done (by decide +kernel) ?_ _
  exact h _ Z Z2 sv' L' fz f2 kz k2 p2 l2 r2
end Go.Proofs.YtefkcmeeagflmaaDoor
