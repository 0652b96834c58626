/-
  Drawn regions whose calls may throw; how an operation is looked at: pure; no condition.
-/
import Derived.Test.YtkogfgbgmifcnaaDoorTcN
namespace Go.Proofs.YtkogfgbgmifcnaaDoor
open Go.RowKit Go.Shelf Go.Maps Go.ChangeShapes
set_option linter.unusedVariables false
set_option linter.unusedSimpArgs false
def PlainT (N : Act → World → Prop) (X : List PanicEntry → World → Prop) : Exit → Act → World → Prop := fun e a w => (e = .normal ∧ N a w) ∨ (∃ c, e = .panic c ∧ a.defers = [] ∧ X c w)
theorem reg_inT {id : Nat} {ops : Array Oper} {Q : Exit → Act → World → Prop} {a : Act} {X : World} (S : World → Prop) (N : Act → World → Prop) (Y : List PanicEntry → World → Prop)
    (hN : ∀ a w, N a w → Q .normal a w) (hY : ∀ c a w, a.defers = [] → Y c w → Q (.panic c) a w)
    (h : wpAnyH Tryd.prog .any ops (PlainT N Y) S ops.size (Array.replicate ops.size false) a X.drew) : (Code.region id ops true).wp Tryd.prog Q a X := by
  refine wp_mono (Q := PlainT N Y) ?_ (fun e a w h => by
    rcases h with ⟨rfl, h2⟩ | ⟨c, rfl, hd, h2⟩
    · exact hN _ _ h2
    · exact hY _ _ _ hd h2)
  exact wp_region_held (S := S) (by kernel_rfl) h
theorem tkT {ops : Array Oper} {N : Act → World → Prop} {Y : List PanicEntry → World → Prop} {S : World → Prop} {fuel : Nat} {listed : Array Bool} {a : Act} {w : World} (i : Nat) (d : Option Tmp) {oi : Oper} (v : Value) (hi : ops[i]? = some oi) (hdst : oi.dst = d) (hy : YieldsIf Tryd.prog ops S oi v a)
    (hd : (Region.noSelect ops && Region.free .any ops listed i && (Region.ready .any ops listed).contains i) = true) (hS : S w)
    (h : wpAnyH Tryd.prog .any ops (PlainT N Y) S fuel (listed.setIfInBounds i true) (a.put d v) w) : wpAnyH Tryd.prog .any ops (PlainT N Y) S (fuel + 1) listed a w := by
  subst hdst
  simp only [Bool.and_eq_true] at hd
  exact wpAnyH_take hi hd.1.1 hd.1.2 hd.2 (fun _ b _ h => by
    rcases h with ⟨h1, _⟩ | ⟨c, h1, hd, hx⟩
    · cases h1
    · exact .inr ⟨c, h1, by revert hd; unfold Act.put; cases oi.dst <;> exact id, hx⟩) hy hS h
theorem plainT_end {N : Act → World → Prop} {Y : List PanicEntry → World → Prop} {a : Act} {w : World} (h : N a w) : PlainT N Y .normal a w := .inl ⟨rfl, h⟩
theorem wpAt_seq_k {g : FuncId} {P : Program} {x y : Code} {Q : Exit → Act → World → Prop} {a : Act} {w : World} (h : ∀ K : Act → World → Prop, (∀ a w, wpAt g P y Q a w → K a w) → x.wp P (Exit.then K Q) a w) : wpAt g P (Code.seq x y) Q a w := wpAt_seq (h _ fun _ _ h => h)
theorem wpAt_block {g : FuncId} {P : Program} {id : Nat} {c : Code} {Q : Exit → Act → World → Prop} {a : Act} {w : World} (h : wpAt g P c (Exit.inBlock id Q) a w) : wpAt g P (Code.block id c) Q a w := by
  intro b k cs hg hro
  have h0 : (lone (b.atR a (.code (.block id c) :: k)) cs w).fenced P Fence.wide := fenced_wide P _
  obtain ⟨e, a₁, w₁, hq, harr⟩ := h b (.inBlock id :: k) cs hg hro
  cases e with
  | normal => exact ⟨.normal, a₁, w₁, hq, .head h0 stepR_block (StepsIn.trans harr (.one (fenced_wide P _) stepR_inBlock))⟩
  | exit id' =>
    by_cases hid : id' = id
    · simp only [Exit.inBlock, hid, if_true] at hq
      exact ⟨.normal, a₁, w₁, hq, .head h0 stepR_block (harr.1 k (by simp [exitTo, hid]))⟩
    · simp only [Exit.inBlock, hid, if_false] at hq
      have this : (id == id') = false := by simp; exact fun h => hid h.symm
      have hx : exitTo id' (.inBlock id :: k) = exitTo id' k := by simp [exitTo, this]
      exact ⟨.exit id', a₁, w₁, hq, fun k' hk => .head h0 stepR_block (harr.1 k' (by rw [hx]; exact hk)),
        fun hr' hk => let ⟨k₁, h1, h2⟩ := harr.2 hr' (by rw [hx]; exact hk); ⟨k₁, h1, .head h0 stepR_block h2⟩⟩
  | goto l =>
    have hx : gotoIn l (.inBlock id :: k) = gotoIn l k := by simp [gotoIn]
    exact ⟨_, a₁, w₁, hq, fun k' hk => .head h0 stepR_block (harr.1 k' (by rw [hx]; exact hk)),
      fun hr' hk => let ⟨k₁, h1, h2⟩ := harr.2 hr' (by rw [hx]; exact hk); ⟨k₁, h1, .head h0 stepR_block h2⟩⟩
  | ret => exact ⟨_, a₁, w₁, hq, .of_steps (.one h0 stepR_block) harr⟩
  | panic ch => exact ⟨_, a₁, w₁, hq, .of_steps (.one h0 stepR_block) harr⟩
  | outgrown => exact ⟨_, a₁, w₁, hq, .of_steps (.one h0 stepR_block) harr⟩
/-- Sources that a trace's links and Virts hold. -/
def AT.srcs (a : AT) (x : Sr) : Prop := (∃ e ∈ a.links, x ∈ e.l) ∨ (∃ e ∈ a.virts, x ∈ e.l)
/-- A trace whose links and Virts may be. -/
structure GoodT (a : AT) : Prop where
  up : ∀ (n : Nat) (e : AE), a.links[n]? = some e → -1 ≤ e.p.headD 0 ∧ e.p.headD 0 < n
  src : ∀ x, a.srcs x → srcOk x a.virts.length = true
  wf : ∀ x, a.srcs x → x.w
/-- An iterator of what links take tells each source once, in the walk's order, whatever the caller does with it. -/
def TellSpec (t : Tr) : Prop := ∀ (B : Nat) (w0 : World) (l b1 b2 wb lk vk : Nat) (m : MK) (n : Int) (G : List Sr → List Nat → World → Prop) (X : List PanicEntry → World → Prop) (Wi : World),
  TrOk w0 B t → GoodT t.abs → -1 ≤ n → n < t.links.length → WK Wi wb lk vk t m →
  Wi.heap[b1]? = some (.cells #[.pointer (some ⟨wb, 0, none⟩)] 97 (0, 0)) → Wi.heap[b2]? = some (.cells #[.int .i64 n] 3 (0, 0)) →
  G [] [wb, b1, b2, lk, vk] Wi →
  (∀ pre O W, G pre O W → Fr [] w0 W) →
  (∀ pre O O' W W', G pre O W → Fr O W W' → (∀ k ∈ O', k ∈ O ∨ W.heap.size ≤ k) → (∀ k ∈ O', k < W'.heap.size) → G pre O' W') →
  (∀ pre x O W, G pre O W → (pre ++ [x]) <+: (walkP t.abs m n).1 → t.abs.srcs x → YieldAt Fence.wide 0 Tryd.prog l #[.agg x.cl.toArray] W fun e W' =>
    (e = .returned (.bool true) ∧ G (pre ++ [x]) O W' ∧ W.heap.size ≤ W'.heap.size ∧ ∀ k ∈ O, k < W.heap.size → W'.heap[k]? = W.heap[k]?) ∨ (∃ c, e = .panicked c ∧ X c W')) →
  Calls Tryd.prog 78 #[.func (.yield l) #[] #[], .pointer (some ⟨b1, 0, none⟩), .pointer (some ⟨b2, 0, none⟩)] Wi fun e W' =>
    (e = .returned (.tuple #[]) ∧ ∃ O', G (walkP t.abs m n).1 O' W' ∧ WK W' wb lk vk t (walkP t.abs m n).2) ∨ (∃ c, e = .panicked c ∧ X c W')
theorem Fr.over {S : List Nat} {a b c : World} (h : Fr [] a b) (k : Fr S b c) (hS : ∀ k ∈ S, a.heap.size ≤ k) : Fr [] a c :=
  ⟨k.os.trans h.os, k.tape.trans h.tape, k.output.trans h.output, Nat.le_trans h.size k.size, fun i hi hn => (k.block i (Nat.lt_of_lt_of_le hi h.size) (fun hm => by have := hS i hm; omega)).trans (h.block i hi hn)⟩
/-- What stands while a judge is told what a link takes. -/
structure GJ (w0 : World) (t : Tr) (jb wb b2 d0 l : Nat) (p : Int) (lo : Loop) (pre : List Sr) (O : List Nat) (W : World) : Prop where
  fr : Fr [] w0 W
  j : JB W jb t p (.pointer (some ⟨wb, 0, none⟩))
  d : W.heap[d0]? = some (.deferred (some []))
  lp : W.heap[l]? = some (.loop lo)
  b : W.heap[b2]? = some (.cells #[.pointer (some ⟨jb, 0, none⟩)] 134 (0, 0))
  ok : pre.all (madeOk t.abs p) = true
  hl : w0.heap.size ≤ d0 ∧ w0.heap.size ≤ l ∧ jb ≠ l ∧ d0 ≠ l ∧ b2 ≠ l
  far : ∀ k ∈ O, w0.heap.size ≤ k ∧ k ≠ jb ∧ k ≠ d0 ∧ k ≠ l ∧ k ≠ b2
theorem at_lt {w : World} {k : Nat} {o : Obj} (h : w.heap[k]? = some o) : k < w.heap.size := (Array.getElem?_eq_some_iff.1 h).1
theorem GJ.step {w0 : World} {t : Tr} {jb wb b2 d0 l : Nat} {p : Int} {lo : Loop} {pre : List Sr} {O O' : List Nat} {W W' : World} (g : GJ w0 t jb wb b2 d0 l p lo pre O W) (f : Fr O W W') (h : ∀ k ∈ O', k ∈ O ∨ W.heap.size ≤ k) : GJ w0 t jb wb b2 d0 l p lo pre O' W' := by
  have n1 : jb ∉ O := fun hm => (g.far _ hm).2.1 rfl
  have n2 : d0 ∉ O := fun hm => (g.far _ hm).2.2.1 rfl
  have n3 : l ∉ O := fun hm => (g.far _ hm).2.2.2.1 rfl
  have n4 : b2 ∉ O := fun hm => (g.far _ hm).2.2.2.2 rfl
  have l1 := at_lt g.j
  have l2 := at_lt g.d
  have l3 := at_lt g.lp
  have l4 := at_lt g.b
  refine ⟨g.fr.over f (fun k hk => (g.far k hk).1), g.j.fr f n1, (f.block _ l2 n2).trans g.d, (f.block _ l3 n3).trans g.lp, (f.block _ l4 n4).trans g.b, g.ok, g.hl, fun k hk => ?_⟩
  rcases h k hk with h1 | h1
  · exact g.far k h1
  · have := g.fr.size
    exact ⟨by omega, by omega, by omega, by omega, by omega⟩
theorem GJ.told {w0 : World} {t : Tr} {jb wb b2 d0 l : Nat} {p : Int} {lo : Loop} {pre : List Sr} {O : List Nat} {W W' : World} (g : GJ w0 t jb wb b2 d0 l p lo pre O W) (f : Fr [l] W W') (hl : W'.heap[l]? = some (.loop lo)) {x : Sr} (hx : madeOk t.abs p x = true) :
    GJ w0 t jb wb b2 d0 l p lo (pre ++ [x]) O W' ∧ W.heap.size ≤ W'.heap.size ∧ ∀ k ∈ O, k < W.heap.size → W'.heap[k]? = W.heap[k]? := by
  obtain ⟨h1, h2, h3, h4, h5⟩ := g.hl
  refine ⟨⟨g.fr.over f (fun k hk => by simp at hk; subst hk; exact h2), g.j.fr f (by simpa using h3), (f.block _ (at_lt g.d) (by simpa using h4)).trans g.d, hl, (f.block _ (at_lt g.b) (by simpa using h5)).trans g.b, by rw [List.all_append, g.ok]; simp [hx], g.hl, g.far⟩, f.size, fun k hk hs => f.block k hs (by have := (g.far k hk).2.2.2.1; simpa using this)⟩
section
variable {F : Fence} {nF : Nat} {P : Program}
/-- A struct is read, in a fence. -/
theorem in_load {ops : Array Oper} {rest : List Oper} {op : Oper} {a : Act} {w : World} {Q : Exit → Act → World → Prop} (hgd : op.guard = none) (ty : TypeId) (x : Operand) (ho : op.op = .load ty x)
    (b o : Nat) (hx : a.eval x = .pointer (some ⟨b, o, none⟩)) (cs : List Value) (d : TypeDesc) (hc : w.rangeAt b o cs)
    (hu : P.underlying ty = some d) (hd : d.isRow = true) (hi : (P.info? ty).map (·.size) = some cs.length)
    (h : wpListIn F nF P ops Q rest (a.put op.dst (.agg cs.toArray)) w) : wpListIn F nF P ops Q (op :: rest) a w := by
  refine wpListIn_plain hgd fun K hK => ?_
  unfold Oper.wpIn
  refine ⟨by simp [Oper.about, ho], ?_⟩
  rw [Oper.semAt_plain F _ _ (by rw [ho]; intro c hc'; cases hc')]
  simp only [execOp, ho, hx, Instr.loadAt, Instr.sureAddr, Sem.run_bind, Sem.run_pure, Result.andThen_ok, run_loadVar_mid w b o ty cs d hc hu hd hi]
  exact hK _ _ h
/-- A struct is laid into a block, in a fence. -/
theorem in_store {ops : Array Oper} {rest : List Oper} {op : Oper} {a : Act} {w : World} {Q : Exit → Act → World → Prop} (hgd : op.guard = none) (ty : TypeId) (x y : Operand) (ho : op.op = .store ty x y)
    (g : Nat) (cells : Array Value) (hx : a.eval x = .pointer (some ⟨g, 0, none⟩)) (hy : a.eval y = .agg cells)
    (t : TypeId) (old : Array Value) (hg : w.heap[g]? = some (.cells old t (0, 0))) (hi : (P.info? ty).map (·.size) = some cells.size)
    (hold : old.size = cells.size) (h1 : cells.all (·.oneCell') = true)
    (h : wpListIn F nF P ops Q rest (a.put op.dst undef) (w.setRow g cells)) : wpListIn F nF P ops Q (op :: rest) a w := by
  refine wpListIn_plain hgd fun K hK => ?_
  unfold Oper.wpIn
  refine ⟨by simp [Oper.about, ho], ?_⟩
  rw [Oper.semAt_plain F _ _ (by rw [ho]; intro c hc'; cases hc')]
  simp only [execOp, ho, hx, hy, Instr.storeAt, Instr.sureAddr, Sem.run_bind, Sem.run_pure, Result.andThen_ok, run_storeVar_row w g t ty old cells hg hi hold h1]
  exact hK _ _ h
end
theorem store_func (P : Program) (w : World) (a : Addr) (m : Mode) (f : Fn) (x y : Array Value) : (store a (.func f x y) m).run P w = stored P w a (.func f x y) m := run_store P w a _ m rfl
def kOk (o k : Int) : Bool := decide ((kB o).1 ≤ k) && decide (k ≤ (kB o).2)
def cOk (o c : Int) : Bool := decide (0 ≤ c) && decide (c ≤ cB o)
def snOk (nl : Nat) (s : Int) : Bool := decide (-1 ≤ s) && decide (s ≤ (nl : Int) - 1)
/-- Whether an operation may be, beside what its link takes. -/
def opOk0 (a : AT) (p o : Int) (l : List Sr) (k c s : Int) : Bool := !decide ((rowP o).nm = []) && (argsOk a p o l && (kOk o k && (cOk o c && snOk a.links.length s)))
def opOk (a : AT) (m : MK) (p o : Int) (l : List Sr) (k c s : Int) : Bool := opOk0 a p o l k c s && (walkP a m s).1.all (madeOk a p)
end Go.Proofs.YtkogfgbgmifcnaaDoor
