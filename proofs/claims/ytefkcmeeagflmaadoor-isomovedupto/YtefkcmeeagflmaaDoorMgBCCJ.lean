/-
  Texts of the proof, in their order: IsoA, IsoB, IsoC; conditions: as each says.
-/
import Derived.RangeFuncNested
import Derived.RangeFuncBound
import Derived.RangeFuncCalls
import Derived.RangeFuncLeaves
import Derived.Shelf.Abstract
import Derived.Shelf.RegionOpen
import Derived.OwnWalkIn
import Derived.TacticsInMore
import Derived.LoopNIn
import Derived.LoopIn
import Derived.Test.YtefkcmeeagflmaaDoorMgHMCC
namespace Go.Proofs.YtefkcmeeagflmaaDoor
open Go.RowKit Go.Shelf

/-- How a round's body may be left. -/
def RoundEnd (l : Nat) (rec : LoopState → Option Code → Loop) (R : Ending → World → Prop) : Exit → Act → World → Prop
  | .normal, _, W => W.heap[l]? = some (.loop (rec .busy none)) ∧ R (.returned (.bool true)) (W.putObj l (.loop (rec .ready none)))
  | .ret, _, W => W.heap[l]? = some (.loop (rec .busy none)) ∧ R (.returned (.bool false)) (W.putObj l (.loop (rec .done (some .ret))))
  | _, _, _ => False

theorem range_outer {P : Program} {g : Operand} {ps : Array Tmp} {assign body : Code} {Q : Exit → Act → World → Prop} {a : Act} {w : World} {gf : Nat} {lb : Array Value}
    (hg : a.eval g = .func (.func gf) #[] lb) (eg : ∀ args w, (callFunc gf args).run P w = .ok (.enter gf args) w)
    (H : ∀ rec : LoopState → Option Code → Loop,
      (∀ (xs : Array Value) (W : World) (R : Ending → World → Prop), xs.size = ps.size → W.heap[w.heap.size + 1]? = some (.loop (rec .ready none)) →
        assign.wpIn (Fence.wide.inRound (w.heap.size + 1)) 0 P (Exit.then (fun a₁ w₁ => w₁.heap[w.heap.size + 1]? = some (.loop (rec .ready none)) ∧
          body.wpIn (Fence.wide.inRound (w.heap.size + 1)) 0 P (RoundEnd (w.heap.size + 1) rec R) a₁ (w₁.putObj (w.heap.size + 1) (.loop (rec .busy none)))) (fun _ _ _ => False))
          { tmps := (ps.zip xs).foldl (fun t (p, v) => t.setIfInBounds p v) a.tmps, defers := [] } W →
        YieldAt Fence.wide 0 P (w.heap.size + 1) xs W R) →
      CallsIn Fence.wide 0 P gf (#[.func (.yield (w.heap.size + 1)) #[] #[]] ++ lb) ((w.alloc (.deferred (some []))).alloc (.loop (rec .ready none)))
        (fun e W2 => (∃ v, e = .returned v) ∧
          ((W2.heap[w.heap.size + 1]? = some (.loop (rec .ready none)) ∧ Q .normal { a with defers := { target := .collected w.heap.size, args := #[] } :: a.defers } (W2.putObj (w.heap.size + 1) (.loop (rec .exhausted none)))) ∨
           (W2.heap[w.heap.size + 1]? = some (.loop (rec .done (some .ret))) ∧ Code.ret.wpIn Fence.wide 0 P Q { a with defers := { target := .collected w.heap.size, args := #[] } :: a.defers } (W2.putObj (w.heap.size + 1) (.loop (rec .exhausted (some .ret)))))))) :
    (Code.rangeFunc g ps assign body).wpIn Fence.wide 0 P Q a w := by
  refine wpIn_rangeFunc ?_
  intro fn hfn
  obtain ⟨rec, hrec⟩ : ∃ rec : LoopState → Option Code → Loop, rec = fun st pe => { state := st, pending := pe, fn, tmps := a.tmps, params := ps, assign, body, defers := w.heap.size } := ⟨_, rfl⟩
  have HH := H rec
  obtain ⟨W1, hW1⟩ : ∃ W1, (w.alloc (.deferred (some []))).alloc (.loop (rec .ready none)) = W1 := ⟨_, rfl⟩
  rw [hW1] at HH
  refine ⟨w.heap.size + 1, [{ target := .collected w.heap.size, args := #[] }], W1, { target := .fn (.func gf) lb, args := #[.func (.yield (w.heap.size + 1)) #[] #[]] }, W1, gf,
    #[.func (.yield (w.heap.size + 1)) #[] #[]] ++ lb, W1, ?_, ?_, ?_, ?_, (fun h => by cases h), ?_⟩
  · rw [← hW1, hrec]; exact run_enterLoop_outer _ _ _ _ _
  · simp only [resolve, hg]
    simp [go_sem]
  · intro f' _
    trivial
  · simp [invoke, go_sem, eg]
  · refine (HH ?_).mono ?_
    · intro xs W R hxs hl hw
      have hy := run_yield (P := P) (args := xs) hl (by rw [hrec]; exact hxs)
      rw [hrec] at hy
      refine ⟨fn, _, assign, body, hy, roundIn_of_wpIn hfn ?_⟩
      refine wpIn_mono hw ?_
      rintro e a1 w1 he
      cases e with
      | normal =>
        obtain ⟨h1, h2⟩ := he
        have hb := run_beginRound (P := P) h1 (by rw [hrec])
        refine ⟨_, hb, ?_⟩
        have e1 : ({ rec .ready none with state := .busy } : Loop) = rec .busy none := by rw [hrec]
        rw [e1]
        refine wpIn_mono h2 ?_
        rintro e a2 w2 he
        cases e with
        | normal =>
          obtain ⟨h3, h4⟩ := he
          have hn := run_endRound (P := P) none h3
          refine ⟨_, _, hn, ?_⟩
          have e2 : ({ rec .busy none with state := if (none : Option Code).isNone then .ready else .done, pending := none } : Loop) = rec .ready none := by rw [hrec]; rfl
          rw [e2]
          exact h4
        | ret =>
          obtain ⟨h3, h4⟩ := he
          have hn := run_endRound (P := P) (some .ret) h3
          refine ⟨_, _, hn, ?_⟩
          have e2 : ({ rec .busy none with state := if (some Code.ret).isNone then .ready else .done, pending := some .ret } : Loop) = rec .done (some .ret) := by rw [hrec]; rfl
          rw [e2]
          exact h4
        | exit id => exact he.elim
        | goto t => exact he.elim
        | panic c => exact he.elim
        | outgrown => exact he.elim
      | ret => exact he.elim
      | exit id => exact he.elim
      | goto t => exact he.elim
      | panic c => exact he.elim
      | outgrown => exact he.elim
    · rintro e W2 ⟨⟨v, rfl⟩, ⟨h1, h2⟩ | ⟨h1, h2⟩⟩
      · refine ⟨none, _, ?_, h2⟩
        have := run_endLoop (P := P) h1 (by rw [hrec]; simp)
        rw [hrec] at this ⊢
        exact this
      · refine ⟨some .ret, _, ?_, h2⟩
        have := run_endLoop (P := P) h1 (by rw [hrec]; simp)
        rw [hrec] at this ⊢
        exact this
end Go.Proofs.YtefkcmeeagflmaaDoor
namespace Go.Proofs.YtefkcmeeagflmaaDoor
open Go.RowKit Go.Shelf

/-- A list that waits: where it lies and what it holds (each element by its cells). -/
structure Seg where
  g : Nat
  o : Nat
  c : Nat
  xs : List (List Value)

def Seg.val (s : Seg) : Value := .slice (some ⟨s.g, s.o, none⟩) s.xs.length s.c

/-- What waits, the next one first. -/
def pend (L : List Seg) : List (List Value) := (L.reverse.map Seg.xs).flatten

/-- All that waits, in memory. -/
structure Stk (tb ts : Nat) (ok : List Value → Prop) (W : World) (B bx : Nat) (sv : Value) (L : List Seg) : Prop where
  box : W.heap[bx]? = some (.cells #[sv] tb (0, 0))
  row : W.ownsRow B ts 1 sv L.length (L.map Seg.val)
  lies : ∀ s, s ∈ L → ∀ j u, s.xs.flatten[j]? = some u → W.cell? ⟨s.g, s.o + j, none⟩ = some u
  full : ∀ s, s ∈ L → s.xs ≠ [] ∧ s.xs.length ≤ s.c ∧ ∀ x, x ∈ s.xs → ok x
  off : ∀ s, s ∈ L → s.g ≠ bx ∧ sv.ownBlock ≠ some s.g
  base : B ≤ bx

theorem pend_snoc (L : List Seg) (s : Seg) : pend (L ++ [s]) = s.xs ++ pend L := by simp [pend]

/-- The least number of rounds. -/
theorem least {Q : Nat → Prop} (h : ∃ n, Q n) : ∃ n, Q n ∧ ∀ m, Q m → n ≤ m := by
  obtain ⟨n, hn⟩ := h
  induction n using Nat.strongRecOn with
  | ind n ih =>
    by_cases hm : ∃ m, m < n ∧ Q m
    · obtain ⟨m, h1, h2⟩ := hm
      exact ih m h1 h2
    · exact ⟨n, hn, fun m hq => by
        by_cases hlt : m < n
        · exact absurd ⟨m, hlt, hq⟩ hm
        · omega⟩

theorem rounds (Q : Nat → World → Prop) : ∃ f : World → Nat, ∀ W m, Q m W → Q (f W) W ∧ f W ≤ m := by
  have h : ∀ W, ∃ n, ∀ m, Q m W → Q n W ∧ n ≤ m := by
    intro W
    by_cases h : ∃ n, Q n W
    · obtain ⟨n, h1, h2⟩ := least (Q := fun n => Q n W) h
      exact ⟨n, fun m hm => ⟨h1, h2 m hm⟩⟩
    · exact ⟨0, fun m hm => absurd ⟨m, hm⟩ h⟩
  exact ⟨fun W => Classical.choose (h W), fun W m hm => Classical.choose_spec (h W) m hm⟩

/-- What comes of it: none: not to an end in so many rounds; some none: a round has said no more. -/
def run {σ : Type} (step : σ → List Value → Option (σ × List (List Value))) : Nat → σ → List (List Value) → Option (Option σ)
  | 0, _, _ => none
  | _ + 1, s, [] => some (some s)
  | n + 1, s, x :: p => match step s x with
    | none => some none
    | some (s', more) => run step n s' (more ++ p)

theorem Stk.parts {tb ts : Nat} {ok : List Value → Prop} {W : World} {B bx : Nat} {sv : Value} {L : List Seg} (h : Stk tb ts ok W B bx sv L) (hn : L ≠ []) :
    ∃ (L0 : List Seg) (s : Seg) (x : List Value) (r : List (List Value)) (g cap : Nat), L = L0 ++ [s] ∧ s.xs = x :: r ∧ sv = .slice (some ⟨g, 0, none⟩) L.length cap ∧ L.length ≤ cap ∧ cap ≤ maxLen ∧ B ≤ g ∧ ok x := by
  obtain ⟨L0, s, rfl⟩ : ∃ L0 s, L = L0 ++ [s] := ⟨L.dropLast, L.getLast hn, (List.dropLast_concat_getLast hn).symm⟩
  have hf := h.full s (by simp)
  cases hx : s.xs with
  | nil => exact absurd hx hf.1
  | cons x r =>
    rcases h.row.2 with ⟨_, e⟩ | ⟨g, cap, cur, e, hb, hg, h1, h2, _, _⟩
    · simp at e
    · exact ⟨L0, s, x, r, g, cap, rfl, hx, e, h1, h2, hb, hf.2.2 x (by rw [hx]; simp)⟩

theorem Fr.cell1 {S : List Nat} {W W' : World} (f : Fr S W W') {p : Addr} {u : Value} (h : W.cell? p = some u) (hp : p.block ∉ S) : W'.cell? p = some u :=
  (World.cell?_of_block (w := W) (f.block p.block (World.block_lt_of_cell? W _ h) hp)).trans h

theorem Stk.fr {tb ts : Nat} {ok : List Value → Prop} {W W' : World} {B bx : Nat} {sv : Value} {L : List Seg} (h : Stk tb ts ok W B bx sv L) {S : List Nat} (f : Fr S W W') (h1 : bx ∉ S) (h2 : ∀ k, sv.ownBlock = some k → k ∉ S) (h3 : ∀ s, s ∈ L → s.g ∉ S) : Stk tb ts ok W' B bx sv L :=
  ⟨(f.block bx (Array.getElem?_eq_some_iff.1 h.box).1 h1).trans h.box, own_fr h.row f h2, fun s hs j u hu => f.cell1 (h.lies s hs j u hu) (h3 s hs), h.full, h.off, h.base⟩

theorem Stk.frame {tb ts : Nat} {ok : List Value → Prop} {W W' : World} {B bx : Nat} {sv : Value} {L : List Seg} (h : Stk tb ts ok W B bx sv L) (f : Fr [] W W') : Stk tb ts ok W' B bx sv L := h.fr f (by simp) (by simp) (by simp)

theorem Stk.ne {tb ts : Nat} {ok : List Value → Prop} {W : World} {B bx : Nat} {sv : Value} {L : List Seg} (h : Stk tb ts ok W B bx sv L) (ht : tb ≠ ts) : sv.ownBlock ≠ some bx := own_ne h.row h.box ht

/-- The last list has one element less. -/
theorem Stk.less {tb ts : Nat} {ok : List Value → Prop} {W : World} {B bx g cap : Nat} {L : List Seg} {s s' : Seg} (ht : tb ≠ ts) (h : Stk tb ts ok W B bx (.slice (some ⟨g, 0, none⟩) (L.length + 1) cap) (L ++ [s]))
    (hl : ∀ j u, s'.xs.flatten[j]? = some u → W.cell? ⟨s'.g, s'.o + j, none⟩ = some u) (hf : s'.xs ≠ [] ∧ s'.xs.length ≤ s'.c ∧ ∀ x, x ∈ s'.xs → ok x) (hg : s'.g = s.g) :
    Stk tb ts ok (W.setCell ⟨g, L.length, none⟩ s'.val) B bx (.slice (some ⟨g, 0, none⟩) (L.length + 1) cap) (L ++ [s']) := by
  have f : Fr [g] W (W.setCell ⟨g, L.length, none⟩ s'.val) := Fr.setCell (Fr.refl _ _) (.inl (by simp)) _
  have hne : bx ≠ g := fun e => h.ne ht (by rw [e]; rfl)
  have hoff : ∀ t, t ∈ L ++ [s'] → t.g ≠ bx ∧ t.g ≠ g := by
    intro t htm
    rcases List.mem_append.1 htm with h1 | h1
    · have := h.off t (by simp [h1])
      exact ⟨this.1, fun e => this.2 (by rw [e]; rfl)⟩
    · simp at h1
      subst h1
      have := h.off s (by simp)
      rw [hg]
      exact ⟨this.1, fun e => this.2 (by rw [e]; rfl)⟩
  have hrow := h.row
  have hlen : (L ++ [s]).length = L.length + 1 := by simp
  rw [hlen] at hrow
  have hrow2 := (hrow.stored L.length s'.val).1
  refine ⟨(f.block bx (Array.getElem?_eq_some_iff.1 h.box).1 (by simpa using hne)).trans h.box, ?_, fun t htm j u hu => ?_, fun t htm => ?_, fun t htm => ⟨(hoff t htm).1, fun e => (hoff t htm).2 (by simpa [Value.ownBlock] using e.symm)⟩, h.base⟩
  · have e1 : (L ++ [s']).length = L.length + 1 := by simp
    have e2 : (L ++ [s']).map Seg.val = ((L ++ [s]).map Seg.val).set L.length s'.val := by simp
    rw [e1, e2]
    exact hrow2
  · refine f.cell1 ?_ (by simpa using (hoff t htm).2)
    rcases List.mem_append.1 htm with h1 | h1
    · exact h.lies t (by simp [h1]) j u hu
    · simp at h1
      subst h1
      exact hl j u hu
  · rcases List.mem_append.1 htm with h1 | h1
    · exact h.full t (by simp [h1])
    · simp at h1
      subst h1
      exact hf

/-- The last list is gone. -/
theorem Stk.gone {tb ts : Nat} {ok : List Value → Prop} {W : World} {B bx g cap : Nat} {L : List Seg} {s : Seg} (ht : tb ≠ ts) (h : Stk tb ts ok W B bx (.slice (some ⟨g, 0, none⟩) (L.length + 1) cap) (L ++ [s])) (v : Value) :
    Stk tb ts ok ((W.setCell ⟨g, L.length, none⟩ v).drew.setCell ⟨bx, 0, none⟩ (.slice (some ⟨g, 0, none⟩) L.length cap)) B bx (.slice (some ⟨g, 0, none⟩) L.length cap) L := by
  have hne : bx ≠ g := fun e => h.ne ht (by rw [e]; rfl)
  have f : Fr [g] W (W.setCell ⟨g, L.length, none⟩ v).drew := (Fr.setCell (Fr.refl _ _) (.inl (by simp)) _).drew
  have hb1 : (W.setCell ⟨g, L.length, none⟩ v).drew.heap[bx]? = some (.cells #[.slice (some ⟨g, 0, none⟩) (L.length + 1) cap] tb (0, 0)) := (f.block bx (Array.getElem?_eq_some_iff.1 h.box).1 (by simpa using hne)).trans h.box
  have hrow := h.row
  have hlen : (L ++ [s]).length = L.length + 1 := by simp
  rw [hlen] at hrow
  have hrow2 := (hrow.stored L.length v).1.drew
  generalize (W.setCell ⟨g, L.length, none⟩ v).drew = W1 at *
  have f2 : Fr [bx] W1 (W1.setCell ⟨bx, 0, none⟩ (.slice (some ⟨g, 0, none⟩) L.length cap)) := Fr.setCell (Fr.refl _ _) (.inl (by simp)) _
  refine ⟨?_, ?_, fun t htm j u hu => ?_, fun t htm => h.full t (by simp [htm]), fun t htm => h.off t (by simp [htm]), h.base⟩
  · simp [World.setCell, Array.getElem?_modify, hb1]
  · refine own_fr ?_ f2 (fun k hk => by simp [Value.ownBlock] at hk; subst hk; simpa using hne.symm)
    obtain ⟨h1, h2⟩ := hrow2
    rcases h2 with ⟨e, _⟩ | ⟨g', cap', cur, e, hb, hg, hn, hm, hs, hc⟩
    · simp at e
    · injection e with e1 e2 e3
      injection e1 with e1
      injection e1 with e1
      subst e1 e3
      refine ⟨by simp, .inr ⟨g, cap, cur, rfl, hb, hg, by omega, hm, hs, ?_⟩⟩
      have : cur.toList.take (L.length * 1) = (cur.toList.take ((L.length + 1) * 1)).take L.length := by simp [List.take_take]
      rw [this, hc]
      simp
  · have ho := h.off t (by simp [htm])
    exact f2.cell1 (f.cell1 (h.lies t (by simp [htm]) j u hu) (by simp; exact fun e => ho.2 (by rw [e]; rfl))) (by simpa using ho.1)

/-- A pair of values, by its cells. -/
def okP (x : List Value) : Prop := ∃ a b c d : Int, x = [.int .i64 a, .int .i64 b, .int .i64 c, .int .i64 d] ∧ (Lit.int .i64 b).wf = true ∧ (Lit.int .i64 d).wf = true
/-- A value, by its cells. -/
def okV (x : List Value) : Prop := ∃ a b : Int, x = [.int .i64 a, .int .i64 b] ∧ (Lit.int .i64 b).wf = true

/-- How all of it may end. -/
def Ends {σ : Type} (G : σ → World → Prop) (Rd Out : World → Prop) : Option σ → World → Prop
  | none, W => Out W
  | some s, W => G s W ∧ Rd W

/-- How a round may end. -/
def Rounded {σ : Type} (tb ts : Nat) (ok : List Value → Prop) (B bx : Nat) (G : σ → World → Prop) (Rd Out : World → Prop) (p : List (List Value)) (ln : Nat) : Option (σ × List (List Value)) → Ending → World → Prop
  | none, e, W => e = .returned (.bool false) ∧ Out W
  | some (s, more), e, W => e = .returned (.bool true) ∧ G s W ∧ Rd W ∧ ∃ sv L, Stk tb ts ok W B bx sv L ∧ pend L = more ++ p ∧ L.length ≤ ln + 1
end Go.Proofs.YtefkcmeeagflmaaDoor
namespace Go.Proofs.YtefkcmeeagflmaaDoor
open Go.RowKit Go.Shelf
attribute [local go_sem] Oper.semAt_some

set_option maxRecDepth 100000 in
set_option maxHeartbeats 1000000 in
theorem all4 {σ : Type} (step : σ → List Value → Option (σ × List (List Value))) (G : σ → World → Prop) (Out : World → Prop) (Rd : World → Prop) (l B bx : Nat) (cnt : σ → Nat) (most : Nat) (hcnt : ∀ s x s' more, step s x = some (s', more) → cnt s' = cnt s + 1)
    (hG : ∀ s sv L W W', G s W → Stk 106 60 okP W B bx sv L → Fr (bx :: sv.ownBlock.toList) W W' → G s W') (hRd : ∀ sv L W W', Rd W → Stk 106 60 okP W B bx sv L → Fr (bx :: sv.ownBlock.toList) W W' → Rd W')
    (hY : ∀ s x W sv L, G s W → Rd W → Stk 106 60 okP W B bx sv L → cnt s < most → L.length ≤ cnt s + 1 → okP x → YieldAt Fence.wide 0 Tryd.prog l #[.agg x.toArray] W (Rounded 106 60 okP B bx G Rd Out (pend L) L.length (step s x)))
    (W : World) (s0 : σ) (sv0 : Value) (L0 : List Seg) (h0 : G s0 W) (r0 : Rd W) (k0 : Stk 106 60 okP W B bx sv0 L0) (n0 : Nat) (res : Option σ) (hrun : run step n0 s0 (pend L0) = some res) (hc0 : n0 + cnt s0 ≤ most) (hl0 : L0.length ≤ cnt s0 + 1) :
    CallsIn Fence.wide 0 Tryd.prog 44 #[.func (.yield l) #[] #[], .pointer (some ⟨bx, 0, none⟩)] W fun e W' => (∃ v, e = .returned v) ∧ Ends G Rd Out res W' := by
  obtain ⟨mu, hmu⟩ := rounds (fun n W => ∃ s sv L, G s W ∧ Rd W ∧ Stk 106 60 okP W B bx sv L ∧ run step n s (pend L) = some res ∧ n + cnt s ≤ most ∧ L.length ≤ cnt s + 1)
  refine callsIn_of_wp Tryd.func44 rfl trivial ?_ rfl
  simp only [Tryd.ntmps44, List.size_toArray, List.length_cons, List.length_nil, Nat.reduceAdd, Nat.reduceSub, Array.replicate_succ, Array.replicate_zero, List.push_toArray, List.append_toArray, List.nil_append, List.cons_append]
  gi_wp2
  gi_loopw [3] (fun _ wr => ∃ n s sv L, G s wr ∧ Rd wr ∧ Stk 106 60 okP wr B bx sv L ∧ run step n s (pend L) = some res ∧ n + cnt s ≤ most ∧ L.length ≤ cnt s + 1) (fun _ wr => mu wr)
  case atStart => exact ⟨n0, s0, sv0, L0, h0, r0, k0, hrun, hc0, hl0⟩
  case round =>
    obtain ⟨n, s1, sv1, L1, q1, q2, q3, q4, q5, q6⟩ := hrel
    obtain ⟨⟨s, sv, L, hg, hr, hk, hrun2, hct, hlc⟩, _⟩ := hmu wr n ⟨s1, sv1, L1, q1, q2, q3, q4, q5, q6⟩
    clear q5 q6
    by_cases hn : L = []
    · subst hn
      obtain ⟨a, c, rfl, _⟩ := own_slice hk.row
      have cb : wr.cell? ⟨bx, 0, none⟩ = some (.slice a 0 c) := by have := hk.box; simp at this; simp [World.cell?, this]
      gi_wp2
      go_end0
      have : res = some s := by
        cases hm : mu wr with
        | zero => rw [hm] at hrun2; simp [run] at hrun2
        | succ m => rw [hm] at hrun2; simpa [run, pend] using hrun2.symm
      subst this
      exact ⟨⟨_, rfl⟩, hg, hr⟩
    · obtain ⟨L0, sg, x, r, g, cap, rfl, hx, rfl, h1, h2, hB, hx4⟩ := hk.parts hn
      obtain ⟨x0, x1, x2, x3, rfl, hwx⟩ := hx4
      have hlen : (L0 ++ [sg]).length = L0.length + 1 := by simp
      rw [hlen] at h1 hk
      have cb : wr.cell? ⟨bx, 0, none⟩ = some (.slice (some ⟨g, 0, none⟩) (L0.length + 1) cap) := by have := hk.box; simp [World.cell?, this]
      have fb : wr.frozen? ⟨bx, 0, none⟩ = false := by have := hk.box; simp [World.frozen?, this]
      have hrow := hk.row
      rw [hlen] at hrow
      have cr : wr.cell? ⟨g, L0.length, none⟩ = some sg.val := by
        rw [hrow.cellAt L0.length (by omega)]
        simp
      have fr : wr.frozen? ⟨g, L0.length, none⟩ = false := hrow.frozenAt L0.length
      have hl := hk.lies sg (by simp)
      rw [hx] at hl
      have e0 : wr.cell? ⟨sg.g, sg.o, none⟩ = some (.int .i64 x0) := hl 0 (.int .i64 x0) (by simp)
      have e1 := hl 1 (.int .i64 x1) (by simp)
      have e2 := hl 2 (.int .i64 x2) (by simp)
      have e3 := hl 3 (.int .i64 x3) (by simp)
      unfold Seg.val at cr
      have hxl : sg.xs.length = r.length + 1 := by rw [hx]; simp
      rw [hxl] at cr
      have hcap : (cap : Int) ≤ 9223372036854775807 := by have : maxLen = 9223372036854775807 := rfl; omega
      have hll : (L0.length : Int) + 1 ≤ (cap : Int) := by omega
      have hsc : r.length + 1 ≤ sg.c := by have := (hk.full sg (by simp)).2.1; omega
      have hsc2 : ((r.length : Int) + 1) ≤ (sg.c : Int) := by omega
      have f1 : Fr [] wr (wr.alloc (.cells #[.int .i64 x0, .int .i64 x1, .int .i64 x2, .int .i64 x3] 59)) := (Fr.refl _ _).alloc _
      have nb : (wr.alloc (.cells #[.int .i64 x0, .int .i64 x1, .int .i64 x2, .int .i64 x3] 59)).heap[wr.heap.size]? = some (.cells #[.int .i64 x0, .int .i64 x1, .int .i64 x2, .int .i64 x3] 59) := heap_alloc_new wr _
      gi_wp2
      generalize wr.alloc (.cells #[.int .i64 x0, .int .i64 x1, .int .i64 x2, .int .i64 x3] 59) = w1 at *
      have k1 : wr.heap.size < w1.heap.size := (Array.getElem?_eq_some_iff.1 nb).1
      generalize wr.heap.size = kn at *
      have q1' := hk.frame f1
      have cb1 : w1.cell? ⟨bx, 0, none⟩ = some (.slice (some ⟨g, 0, none⟩) (L0.length + 1) cap) := f1.cell1 cb (by simp)
      have cr1 : w1.cell? ⟨g, L0.length, none⟩ = some (.slice (some ⟨sg.g, sg.o, none⟩) (r.length + 1) sg.c) := f1.cell1 cr (by simp)
      have hrow1 := q1'.row
      rw [hlen] at hrow1
      have fr1 : w1.frozen? ⟨g, L0.length, none⟩ = false := hrow1.frozenAt L0.length
      have g1 := hG s _ _ _ _ hg hk (f1.sub (by simp))
      have rd1 := hRd _ _ _ _ hr hk (f1.sub (by simp))
      have hpend : pend (L0 ++ [sg]) = [.int .i64 x0, .int .i64 x1, .int .i64 x2, .int .i64 x3] :: (r ++ pend L0) := by rw [pend_snoc, hx]; rfl
      rw [hpend] at hrun2
      obtain ⟨m, hm⟩ : ∃ m, mu wr = m + 1 := by
        cases hmu' : mu wr with
        | zero => rw [hmu'] at hrun2; simp [run] at hrun2
        | succ m => exact ⟨m, rfl⟩
      have HM : Hid (mu wr = m + 1) := hm
      rw [hm] at hrun2 hct
      rw [hlen] at hlc
      have HC : Hid (m + 1 + cnt s ≤ most) := hct
      have HLC : Hid (L0.length + 1 ≤ cnt s + 1) := hlc
      clear hct hlc
      have hl1 : ∀ j u, r.flatten[j]? = some u → w1.cell? ⟨sg.g, sg.o + 4 + j, none⟩ = some u := fun j u hu => by
        have := q1'.lies sg (by simp) (4 + j) u (by rw [hx]; simpa [List.getElem?_append, Nat.add_comm] using hu)
        rwa [← Nat.add_assoc] at this
      have hkn0 : kn ≠ bx := fun e => by have a := q1'.box; rw [← e, nb] at a; simp at a
      have hkg : kn ≠ g := fun e => by
        have a := own_ne hrow1 nb (by decide)
        exact a (by rw [e]; rfl)
      clear cb cr fb fr e0 e1 e2 e3 hl hn hk hrow
      have hbg : bx ≠ g := fun e => q1'.ne (by decide) (by rw [e]; rfl)
      cases r with
      | nil =>
        simp only [List.length_nil, Nat.zero_add] at cr1 hsc hsc2
        have fbx1 : w1.frozen? ⟨bx, 0, none⟩ = false := by have := q1'.box; simp [World.frozen?, this]
        gi_region
        generalize (if sg.c = 1 then some (⟨sg.g, sg.o, none⟩ : Addr) else some ⟨sg.g, sg.o + 4, none⟩) = pp
        have S2 : Stk 106 60 okP ((w1.setCell ⟨g, L0.length, none⟩ (.slice pp 0 (sg.c - 1))).setCell ⟨bx, 0, none⟩ (.slice (some ⟨g, 0, none⟩) L0.length cap)).drew B bx (.slice (some ⟨g, 0, none⟩) L0.length cap) L0 := q1'.gone (by decide) _
        have F2 : Fr (bx :: (Value.slice (some ⟨g, 0, none⟩) (L0.length + 1) cap).ownBlock.toList) w1 ((w1.setCell ⟨g, L0.length, none⟩ (.slice pp 0 (sg.c - 1))).setCell ⟨bx, 0, none⟩ (.slice (some ⟨g, 0, none⟩) L0.length cap)).drew :=
          (Fr.setCell (Fr.setCell (Fr.refl _ _) (.inl (by simp [Value.ownBlock])) _) (.inl (by simp)) _).drew
        have g2 := hG s _ _ _ _ g1 q1' F2
        have rd2 := hRd _ _ _ _ rd1 q1' F2
        have nb2 := (F2.block kn k1 (by simp [Value.ownBlock]; exact ⟨hkn0, hkg⟩)).trans nb
        have cb2 : ((w1.setCell ⟨g, L0.length, none⟩ (.slice pp 0 (sg.c - 1))).drew).cell? ⟨bx, 0, none⟩ = some (.slice (some ⟨g, 0, none⟩) (L0.length + 1) cap) :=
          ((Fr.setCell (S := [g]) (Fr.refl _ w1) (.inl (by simp)) _).drew).cell1 cb1 (by simpa using hbg)
        have hY2 := hY s [.int .i64 x0, .int .i64 x1, .int .i64 x2, .int .i64 x3] _ _ _ g2 rd2 S2 (by have := HC.out; omega) (by have := HLC.out; omega) ⟨_, _, _, _, rfl, hwx⟩
        have n0' : ((w1.setCell ⟨g, L0.length, none⟩ (.slice pp 0 (sg.c - 1))).setCell ⟨bx, 0, none⟩ (.slice (some ⟨g, 0, none⟩) L0.length cap)).drew.cell? ⟨kn, 0, none⟩ = some (.int .i64 x0) := by simp [World.cell?, nb2]
        have n1' : ((w1.setCell ⟨g, L0.length, none⟩ (.slice pp 0 (sg.c - 1))).setCell ⟨bx, 0, none⟩ (.slice (some ⟨g, 0, none⟩) L0.length cap)).drew.cell? ⟨kn, 1, none⟩ = some (.int .i64 x1) := by simp [World.cell?, nb2]
        have n2' : ((w1.setCell ⟨g, L0.length, none⟩ (.slice pp 0 (sg.c - 1))).setCell ⟨bx, 0, none⟩ (.slice (some ⟨g, 0, none⟩) L0.length cap)).drew.cell? ⟨kn, 2, none⟩ = some (.int .i64 x2) := by simp [World.cell?, nb2]
        have n3' : ((w1.setCell ⟨g, L0.length, none⟩ (.slice pp 0 (sg.c - 1))).setCell ⟨bx, 0, none⟩ (.slice (some ⟨g, 0, none⟩) L0.length cap)).drew.cell? ⟨kn, 3, none⟩ = some (.int .i64 x3) := by simp [World.cell?, nb2]
        obtain ⟨fn, tmps, assign, body, hy, hR⟩ := hY2
        gi_wp2
        refine ⟨rfl, hR.mono ?_⟩
        rintro e W' h
        clear hR hy n0' n1' n2' n3' nb2 F2 S2 g2 rd2 cb2 q1' cb1 cr1 fr1 fbx1 g1 rd1 nb
        simp only [run] at hrun2
        cases hst : step s [.int .i64 x0, .int .i64 x1, .int .i64 x2, .int .i64 x3] with
        | none =>
          rw [hst] at h hrun2
          obtain ⟨rfl, hO⟩ := h
          simp only [Option.some.injEq] at hrun2
          subst hrun2
          gi_wp2
          refine bodyPost_ret (results_none rfl _ _ _) rfl ?_
          exact ⟨⟨_, rfl⟩, hO⟩
        | some sm =>
          obtain ⟨s', more⟩ := sm
          rw [hst] at h hrun2
          obtain ⟨rfl, hG', hRd', sv', L', hS', hp', hl'⟩ := h
          simp only at hrun2
          have hct' := hcnt s _ s' more hst
          have hq : ∃ s sv L, G s W' ∧ Rd W' ∧ Stk 106 60 okP W' B bx sv L ∧ run step m s (pend L) = some res ∧ m + cnt s ≤ most ∧ L.length ≤ cnt s + 1 := ⟨s', sv', L', hG', hRd', hS', by rw [hp']; exact hrun2, by have := HC.out; omega, by have := HLC.out; first | omega | (simp at hl'; omega)⟩
          have hless := (hmu W' m hq).2
          gi_wp2
          go_roundw
          case rel => exact ⟨m, hq⟩
          case measure => have := HM.out; omega
      | cons y r' =>
        have hc1 : sg.c ≠ 1 := by simp at hsc; omega
        have hcc : ¬ (sg.c = 1) := hc1
        gi_region
        have S2 : Stk 106 60 okP (w1.setCell ⟨g, L0.length, none⟩ (.slice (some ⟨sg.g, sg.o + 4, none⟩) (r'.length + 1) (sg.c - 1))).drew B bx (.slice (some ⟨g, 0, none⟩) (L0.length + 1) cap) (L0 ++ [⟨sg.g, sg.o + 4, sg.c - 1, y :: r'⟩]) :=
          Stk.frame (q1'.less (s' := ⟨sg.g, sg.o + 4, sg.c - 1, y :: r'⟩) (by decide) hl1 ⟨by simp, by simp at hsc ⊢; omega, fun x hxm => (q1'.full sg (by simp)).2.2 x (by rw [hx]; simp at hxm ⊢; exact .inr hxm)⟩ rfl) (Fr.drew (Fr.refl _ _))
        have F2 : Fr (bx :: (Value.slice (some ⟨g, 0, none⟩) (L0.length + 1) cap).ownBlock.toList) w1 (w1.setCell ⟨g, L0.length, none⟩ (.slice (some ⟨sg.g, sg.o + 4, none⟩) (r'.length + 1) (sg.c - 1))).drew :=
          (Fr.setCell (Fr.refl _ _) (.inl (by simp [Value.ownBlock])) _).drew
        have g2 := hG s _ _ _ _ g1 q1' F2
        have rd2 := hRd _ _ _ _ rd1 q1' F2
        have nb2 := (F2.block kn k1 (by simp [Value.ownBlock]; exact ⟨hkn0, hkg⟩)).trans nb
        have cb2 : ((w1.setCell ⟨g, L0.length, none⟩ (.slice (some ⟨sg.g, sg.o + 4, none⟩) (r'.length + 1) (sg.c - 1))).drew).cell? ⟨bx, 0, none⟩ = some (.slice (some ⟨g, 0, none⟩) (L0.length + 1) cap) :=
          ((Fr.setCell (S := [g]) (Fr.refl _ w1) (.inl (by simp)) _).drew).cell1 cb1 (by simpa using hbg)
        have hY2 := hY s [.int .i64 x0, .int .i64 x1, .int .i64 x2, .int .i64 x3] _ _ _ g2 rd2 S2 (by have := HC.out; omega) (by have := HLC.out; simp; omega) ⟨_, _, _, _, rfl, hwx⟩
        have n0' : (w1.setCell ⟨g, L0.length, none⟩ (.slice (some ⟨sg.g, sg.o + 4, none⟩) (r'.length + 1) (sg.c - 1))).drew.cell? ⟨kn, 0, none⟩ = some (.int .i64 x0) := by simp [World.cell?, nb2]
        have n1' : (w1.setCell ⟨g, L0.length, none⟩ (.slice (some ⟨sg.g, sg.o + 4, none⟩) (r'.length + 1) (sg.c - 1))).drew.cell? ⟨kn, 1, none⟩ = some (.int .i64 x1) := by simp [World.cell?, nb2]
        have n2' : (w1.setCell ⟨g, L0.length, none⟩ (.slice (some ⟨sg.g, sg.o + 4, none⟩) (r'.length + 1) (sg.c - 1))).drew.cell? ⟨kn, 2, none⟩ = some (.int .i64 x2) := by simp [World.cell?, nb2]
        have n3' : (w1.setCell ⟨g, L0.length, none⟩ (.slice (some ⟨sg.g, sg.o + 4, none⟩) (r'.length + 1) (sg.c - 1))).drew.cell? ⟨kn, 3, none⟩ = some (.int .i64 x3) := by simp [World.cell?, nb2]
        obtain ⟨fn, tmps, assign, body, hy, hR⟩ := hY2
        rw [pend_snoc] at hR
        have hln' : (((r'.length : Int) + 1) == 0) = false := by simp; omega
        gi_wp2
        refine ⟨rfl, hR.mono ?_⟩
        rintro e W' h
        clear hR hy n0' n1' n2' n3' nb2 F2 S2 g2 rd2 cb2 q1' cb1 cr1 fr1 g1 rd1 nb
        simp only [run] at hrun2
        cases hst : step s [.int .i64 x0, .int .i64 x1, .int .i64 x2, .int .i64 x3] with
        | none =>
          rw [hst] at h hrun2
          obtain ⟨rfl, hO⟩ := h
          simp only [Option.some.injEq] at hrun2
          subst hrun2
          gi_wp2
          refine bodyPost_ret (results_none rfl _ _ _) rfl ?_
          exact ⟨⟨_, rfl⟩, hO⟩
        | some sm =>
          obtain ⟨s', more⟩ := sm
          rw [hst] at h hrun2
          obtain ⟨rfl, hG', hRd', sv', L', hS', hp', hl'⟩ := h
          simp only at hrun2
          have hct' := hcnt s _ s' more hst
          have hq : ∃ s sv L, G s W' ∧ Rd W' ∧ Stk 106 60 okP W' B bx sv L ∧ run step m s (pend L) = some res ∧ m + cnt s ≤ most ∧ L.length ≤ cnt s + 1 := ⟨s', sv', L', hG', hRd', hS', by rw [hp']; exact hrun2, by have := HC.out; omega, by have := HLC.out; first | omega | (simp at hl'; omega)⟩
          have hless := (hmu W' m hq).2
          gi_wp2
          go_roundw
          case rel => exact ⟨m, hq⟩
          case measure => have := HM.out; omega
end Go.Proofs.YtefkcmeeagflmaaDoor
