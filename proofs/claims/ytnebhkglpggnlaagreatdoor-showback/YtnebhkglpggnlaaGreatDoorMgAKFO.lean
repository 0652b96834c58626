/-
  Texts of the proof, in their order: LexQ, LexR, LexS, LexW; conditions: as each says.
-/
import Derived.RangeFuncNested
import Derived.RangeFuncBound
import Derived.RangeFuncCalls
import Derived.RangeFuncLeaves
import Derived.Shelf.Abstract
import Derived.Shelf.RegionOpen
import Derived.OwnWalkIn
import Derived.TacticsInMore
import Derived.LoopNIn
import Derived.LoopIn
import Derived.Maps.OwnIn
import Derived.Maps.AppendAt
import Derived.RangeFuncRecord
import Derived.Maps.OwnSet
import Derived.Test.YtnebhkglpggnlaaGreatDoorMgDGBA
namespace Go.Proofs.YtnebhkglpggnlaaGreatDoor
open Go.RowKit Go.Shelf
set_option maxRecDepth 100000

/-- How a round's body may be left. -/
def RoundEnd (l : Nat) (rec : LoopState → Option Code → Loop) (R : Ending → World → Prop) : Exit → Act → World → Prop
  | .normal, _, W => W.heap[l]? = some (.loop (rec .busy none)) ∧ R (.returned (.bool true)) (W.putObj l (.loop (rec .ready none)))
  | .ret, _, W => W.heap[l]? = some (.loop (rec .busy none)) ∧ R (.returned (.bool false)) (W.putObj l (.loop (rec .done (some .ret))))
  | _, _, _ => False

theorem range_outer {P : Program} {g : Operand} {ps : Array Tmp} {assign body : Code} {Q : Exit → Act → World → Prop} {a : Act} {w : World} {gf : Nat} {lb : Array Value}
    (hg : a.eval g = .func (.func gf) #[] lb) (eg : ∀ args w, (callFunc gf args).run P w = .ok (.enter gf args) w)
    (H : ∀ rec : LoopState → Option Code → Loop,
      (∀ (xs : Array Value) (W : World) (R : Ending → World → Prop), xs.size = ps.size → W.heap[w.heap.size + 1]? = some (.loop (rec .ready none)) →
        assign.wpIn (Fence.wide.inRound (w.heap.size + 1)) 0 P (Exit.then (fun a₁ w₁ => w₁.heap[w.heap.size + 1]? = some (.loop (rec .ready none)) ∧
          body.wpIn (Fence.wide.inRound (w.heap.size + 1)) 0 P (RoundEnd (w.heap.size + 1) rec R) a₁ (w₁.putObj (w.heap.size + 1) (.loop (rec .busy none)))) (fun _ _ _ => False))
          { tmps := (ps.zip xs).foldl (fun t (p, v) => t.setIfInBounds p v) a.tmps, defers := [] } W →
        YieldAt Fence.wide 0 P (w.heap.size + 1) xs W R) →
      CallsIn Fence.wide 0 P gf (#[.func (.yield (w.heap.size + 1)) #[] #[]] ++ lb) ((w.alloc (.deferred (some []))).alloc (.loop (rec .ready none)))
        (fun e W2 => (∃ v, e = .returned v) ∧
          ((W2.heap[w.heap.size + 1]? = some (.loop (rec .ready none)) ∧ Q .normal { a with defers := { target := .collected w.heap.size, args := #[] } :: a.defers } (W2.putObj (w.heap.size + 1) (.loop (rec .exhausted none)))) ∨
           (W2.heap[w.heap.size + 1]? = some (.loop (rec .done (some .ret))) ∧ Code.ret.wpIn Fence.wide 0 P Q { a with defers := { target := .collected w.heap.size, args := #[] } :: a.defers } (W2.putObj (w.heap.size + 1) (.loop (rec .exhausted (some .ret)))))))) :
    (Code.rangeFunc g ps assign body).wpIn Fence.wide 0 P Q a w := by
  refine wpIn_rangeFunc ?_
  intro fn hfn
  obtain ⟨rec, hrec⟩ : ∃ rec : LoopState → Option Code → Loop, rec = fun st pe => { state := st, pending := pe, fn, tmps := a.tmps, params := ps, assign, body, defers := w.heap.size } := ⟨_, rfl⟩
  have HH := H rec
  obtain ⟨W1, hW1⟩ : ∃ W1, (w.alloc (.deferred (some []))).alloc (.loop (rec .ready none)) = W1 := ⟨_, rfl⟩
  rw [hW1] at HH
  refine ⟨w.heap.size + 1, [{ target := .collected w.heap.size, args := #[] }], W1, { target := .fn (.func gf) lb, args := #[.func (.yield (w.heap.size + 1)) #[] #[]] }, W1, gf,
    #[.func (.yield (w.heap.size + 1)) #[] #[]] ++ lb, W1, ?_, ?_, ?_, ?_, (fun h => by cases h), ?_⟩
  · rw [← hW1, hrec]; exact run_enterLoop_outer _ _ _ _ _
  · simp only [resolve, hg]
    simp [go_sem]
  · intro f' _
    trivial
  · simp [invoke, go_sem, eg]
  · refine (HH ?_).mono ?_
    · intro xs W R hxs hl hw
      have hy := run_yield (P := P) (args := xs) hl (by rw [hrec]; exact hxs)
      rw [hrec] at hy
      refine ⟨fn, _, assign, body, hy, roundIn_of_wpIn hfn ?_⟩
      refine wpIn_mono hw ?_
      rintro e a1 w1 he
      cases e with
      | normal =>
        obtain ⟨h1, h2⟩ := he
        have hb := run_beginRound (P := P) h1 (by rw [hrec])
        refine ⟨_, hb, ?_⟩
        have e1 : ({ rec .ready none with state := .busy } : Loop) = rec .busy none := by rw [hrec]
        rw [e1]
        refine wpIn_mono h2 ?_
        rintro e a2 w2 he
        cases e with
        | normal =>
          obtain ⟨h3, h4⟩ := he
          have hn := run_endRound (P := P) none h3
          refine ⟨_, _, hn, ?_⟩
          have e2 : ({ rec .busy none with state := if (none : Option Code).isNone then .ready else .done, pending := none } : Loop) = rec .ready none := by rw [hrec]; rfl
          rw [e2]
          exact h4
        | ret =>
          obtain ⟨h3, h4⟩ := he
          have hn := run_endRound (P := P) (some .ret) h3
          refine ⟨_, _, hn, ?_⟩
          have e2 : ({ rec .busy none with state := if (some Code.ret).isNone then .ready else .done, pending := some .ret } : Loop) = rec .done (some .ret) := by rw [hrec]; rfl
          rw [e2]
          exact h4
        | exit id => exact he.elim
        | goto t => exact he.elim
        | panic c => exact he.elim
        | outgrown => exact he.elim
      | ret => exact he.elim
      | exit id => exact he.elim
      | goto t => exact he.elim
      | panic c => exact he.elim
      | outgrown => exact he.elim
    · rintro e W2 ⟨⟨v, rfl⟩, ⟨h1, h2⟩ | ⟨h1, h2⟩⟩
      · refine ⟨none, _, ?_, h2⟩
        have := run_endLoop (P := P) h1 (by rw [hrec]; simp)
        rw [hrec] at this ⊢
        exact this
      · refine ⟨some .ret, _, ?_, h2⟩
        have := run_endLoop (P := P) h1 (by rw [hrec]; simp)
        rw [hrec] at this ⊢
        exact this

theorem blk2 (w : World) (o o' : Obj) : ((w.alloc o).alloc o').heap[w.heap.size + 1]? = some o' := by
  have h := heap_alloc_new (w.alloc o) o'
  rw [show (w.alloc o).heap.size = w.heap.size + 1 from by simp] at h
  exact h
theorem own_ne {w : World} {B n : Nat} {e0 : TypeId} {size : Nat} {sv : Value} {xs : List Value} (h : w.ownsRow B e0 size sv n xs) {k : Nat} {c : Array Value} {e : TypeId} {z : Nat × Nat} (hk : w.heap[k]? = some (.cells c e z)) (he : e ≠ e0) : sv.ownBlock ≠ some k := by
  rcases h.2 with ⟨rfl, _⟩ | ⟨g, cap, cur, rfl, _, hgg, _⟩
  · simp [Value.ownBlock]
  · simp [Value.ownBlock]
    rintro rfl
    rw [hgg] at hk
    simp at hk
    exact he hk.2.1.symm
theorem own_fr {S : List Nat} {w w' : World} {B n : Nat} {e : TypeId} {size : Nat} {sv : Value} {xs : List Value} (h : w.ownsRow B e size sv n xs) (f : Fr S w w') (hS : ∀ k, sv.ownBlock = some k → k ∉ S) : w'.ownsRow B e size sv n xs := by
  refine ⟨h.1, ?_⟩
  rcases h.2 with e1 | ⟨g, cap, cur, e1, r1, hgg, r2⟩
  · exact .inl e1
  · exact .inr ⟨g, cap, cur, e1, r1, (f.block g (Array.getElem?_eq_some_iff.1 hgg).1 (hS g (by rw [e1]; rfl))).trans hgg, r2⟩
theorem Fr.ofGrown {w w' : World} {row : Option Nat} (h : w.grownBy w' row) : Fr row.toList w w' := Fr.grown (Fr.refl _ _) h (fun k hk => .inl (by simp [hk]))
theorem own_slice {w : World} {B n : Nat} {e : TypeId} {size : Nat} {v : Value} {xs : List Value} (h : w.ownsRow B e size v n xs) : ∃ a c, v = .slice a n c ∧ (a = none → n = 0 ∧ c = 0) := by
  rcases h.2 with ⟨e1, e2⟩ | ⟨g, cap, cur, e1, _⟩
  · exact ⟨none, 0, by rw [e1, e2], fun _ => ⟨e2, rfl⟩⟩
  · exact ⟨_, cap, e1, fun h => by cases h⟩
theorem own_notloop {w : World} {B n : Nat} {e0 : TypeId} {size : Nat} {sv : Value} {xs : List Value} (h : w.ownsRow B e0 size sv n xs) {k : Nat} {o : Obj} (hk : w.heap[k]? = some o) (ho : ∀ c t z, o ≠ .cells c t z) : sv.ownBlock ≠ some k := by
  rcases h.2 with ⟨rfl, _⟩ | ⟨g, cap, cur, rfl, _, hgg, _⟩
  · simp [Value.ownBlock]
  · simp [Value.ownBlock]
    rintro rfl
    rw [hgg] at hk
    injection hk with hk
    exact ho _ _ _ hk.symm
theorem at_cells {w : World} {k : Nat} {c : Array Value} {t : TypeId} {z : Nat × Nat} (h : w.heap[k]? = some (.cells c t z)) (i : Nat) {u : Value} (hu : c[i]? = some u) : w.cell? ⟨k, i, none⟩ = some u := by simp [World.cell?, h, hu]
theorem Fr.putObj {W : World} {l : Nat} (o : Obj) : Fr [l] W (W.putObj l o) := Fr.ofGrown (grownBy_putObj' W l o)
theorem store_func (P : Program) (w : World) (a : Addr) (m : Mode) (f : Fn) (x y : Array Value) : (store a (.func f x y) m).run P w = stored P w a (.func f x y) m := run_store P w a _ m rfl

/-! The tokens of a text from a place on. -/
theorem readL_to {p : Nat} {l : List UInt8} {t : Tok} (hl : l ≠ []) (h : readL p l = .ok t) : p < t.to ∧ t.to ≤ p + l.length := by
  obtain ⟨c, r, rfl⟩ : ∃ c r, l = c :: r := by
    cases l with
    | nil => exact absurd rfl hl
    | cons c r => exact ⟨c, r, rfl⟩
  have hr := runL_le (c :: r)
  have hs := signL_le (c :: r)
  unfold readL at h
  simp only [List.getD_cons_zero] at h
  have run1 : isWd c.toNat = true → 1 ≤ runL (c :: r) := fun hw => by simp [runL, hw]
  split at h
  · rename_i h2
    have := run1 ((kind_wd _).1 (.inl h2))
    injection h with h
    subst h
    simp
    simp at hr
    omega
  · split at h
    · rename_i h3
      have := run1 ((kind_wd _).1 (.inr h3))
      split at h
      · cases h
      · injection h with h
        subst h
        simp
        simp at hr
        omega
    · split at h
      · split at h
        · cases h
        · injection h with h
          subst h
          simp
          omega
      · split at h
        · cases h
        · rename_i hz
          injection h with h
          subst h
          simp
          simp at hs
          omega

theorem scanL_fuel : ∀ (f f' p : Nat) (l : List UInt8), l.length < f → l.length < f' → scanL f p l = scanL f' p l := by
  intro f
  induction f with
  | zero => intro f' p l h; omega
  | succ f ih =>
    intro f' p l h h'
    cases f' with
    | zero => omega
    | succ f' =>
      simp only [scanL]
      split
      · rfl
      · rename_i hsk
        have hle := skipL_le false l
        cases hr : readL (p + skipL false l) (l.drop (skipL false l)) with
        | error e => rfl
        | ok t =>
          have hne : l.drop (skipL false l) ≠ [] := fun e => by
            have := congrArg List.length e
            simp at this
            omega
          have ht := readL_to hne hr
          simp only
          rw [ih f' t.to (l.drop (t.to - p)) (by simp; omega) (by simp; omega)]

def sc (s : ByteArray) (k : Nat) : List Tok × Option (Nat × Nat) := scanL (s.size + 1) k (s.data.toList.drop k)

theorem sc_end {s : ByteArray} {k : Nat} (hk : k ≤ s.size) (h : s.size ≤ skE s k) : sc s k = ([], none) := by
  have hl : (s.data.toList.drop k).length = s.size - k := by rw [List.length_drop, ← Lib.size_eq]
  unfold sc
  simp only [scanL]
  rw [if_pos]
  unfold skE at h
  have := skipL_le false (s.data.toList.drop k)
  omega
theorem sc_err {s : ByteArray} {k e : Nat} (h : skE s k < s.size) (hr : rd s (skE s k) = .error e) : sc s k = ([], some (skE s k, e)) := by
  have hl : (s.data.toList.drop k).length = s.size - k := by rw [List.length_drop, ← Lib.size_eq]
  unfold rd at hr
  unfold sc
  simp only [scanL]
  have h' := h
  unfold skE at h'
  rw [if_neg (by omega), List.drop_drop]
  rw [show k + skipL false (List.drop k s.data.toList) = skE s k from rfl, hr]
theorem sc_ok {s : ByteArray} {k : Nat} {t : Tok} (h : skE s k < s.size) (hr : rd s (skE s k) = .ok t) : sc s k = (t :: (sc s t.to).1, (sc s t.to).2) ∧ skE s k < t.to ∧ t.to ≤ s.size := by
  have hl : (s.data.toList.drop k).length = s.size - k := by rw [List.length_drop, ← Lib.size_eq]
  have hl2 : (s.data.toList.drop (skE s k)).length = s.size - skE s k := by rw [List.length_drop, ← Lib.size_eq]
  have h' := h
  unfold skE at h'
  have hne : s.data.toList.drop (skE s k) ≠ [] := fun e => by rw [e] at hl2; simp at hl2; omega
  unfold rd at hr
  have ht := readL_to hne hr
  rw [hl2] at ht
  refine ⟨?_, by omega, by omega⟩
  have hr' : readL (k + skipL false (List.drop k s.data.toList)) (List.drop (skipL false (List.drop k s.data.toList)) (List.drop k s.data.toList)) = .ok t := by
    rw [List.drop_drop]; exact hr
  unfold sc
  conv => lhs; simp only [scanL]
  rw [if_neg (by omega), hr']
  simp only
  have hkt : k ≤ t.to := by unfold skE at ht; omega
  rw [List.drop_drop, show k + (t.to - k) = t.to from by omega]
  have hl3 : (s.data.toList.drop t.to).length = s.size - t.to := by rw [List.length_drop, ← Lib.size_eq]
  rw [scanL_fuel s.size (s.size + 1) t.to (s.data.toList.drop t.to) (by omega) (by omega)]
end Go.Proofs.YtnebhkglpggnlaaGreatDoor
namespace Go.Proofs.YtnebhkglpggnlaaGreatDoor
open Go.RowKit Go.Shelf
set_option maxRecDepth 100000
attribute [local go_sem] Oper.semAt_some store_func

/-- How telling tokens ends: all are told; at a fault; the caller had enough. -/
abbrev Res := Sum (List Tok) (Sum (List Tok × Nat × Nat) (List Tok))
def walkT (go : List Tok → Bool) : List Tok → List Tok → Option (Nat × Nat) → Res
  | d, [], none => .inl d
  | d, [], some x => .inr (.inl (d, x.1, x.2))
  | d, t :: ts, er => if go (d ++ [t]) then walkT go (d ++ [t]) ts er else .inr (.inr (d ++ [t]))

/-- What a caller may write. -/
def Mine (bx M : Nat) (W W' : World) : Prop := ∃ S, Fr S W W' ∧ ∀ j, j ∈ S → 5 ≤ j ∧ j ≠ bx ∧ j < M

theorem rdE_ok (t : Tok) : rdE (.ok t) = 0 := rfl

theorem rd_ne0 {s : ByteArray} {k e : Nat} (h : rd s k = .error e) : e ≠ 0 := by
  unfold rd readL at h
  repeat (first | (cases h; omega) | cases h | split at h)
  all_goals simp_all

end Go.Proofs.YtnebhkglpggnlaaGreatDoor
namespace Go.Proofs.YtnebhkglpggnlaaGreatDoor
open Go.RowKit Go.Shelf
set_option maxRecDepth 100000
attribute [local go_sem] Oper.semAt_some store_func

theorem under42 : Tryz.prog.underlying 43 = some (.slice 51) := by kernel_rfl
theorem info56 : (Tryz.prog.info? 51).map (fun i => (i.zero, i.size, i.bytes)) = some (some (.agg #[.int .i64 0, .string ⟨#[]⟩, .int .i64 0, .int .i64 0, .int .i64 0]), 5, 48) := by kernel_rfl

/-- Tokens as cells. -/
def flatT : List Tok → List Value
  | [] => []
  | t :: r => (tokA t).toList ++ flatT r
theorem flatT_append (a b : List Tok) : flatT (a ++ b) = flatT a ++ flatT b := by
  induction a with
  | nil => rfl
  | cons t r ih => simp [flatT, ih]
theorem flatT_one (t : Tok) : flatT [t] = (tokA t).toList := by simp [flatT]
theorem tok_new (w : World) (v0 v1 v2 v3 v4 : Value) : ∀ j u, [v0, v1, v2, v3, v4][j]? = some u → (w.alloc (.cells #[v0, v1, v2, v3, v4] 51)).cell? ((⟨w.heap.size, 0, none⟩ : Addr).add j) = some u := by
  intro j u hu
  have hadd : (⟨w.heap.size, 0, none⟩ : Addr).add j = ⟨w.heap.size, j, none⟩ := by unfold Addr.add; split <;> simp_all
  rw [hadd]
  exact at_cells (heap_alloc_new w _) j (by simpa using hu)

/-- What Scan keeps from round to round. -/
structure SG (w0 : World) (N l D : Nat) (rec : LoopState → Option Code → Loop) (d : List Tok) (W : World) : Prop where
  old : Fr [] w0 W
  r0 : W.heap[N]? = some (.cells #[.slice none 0 0] 43 (0, 0))
  r1 : W.heap[N + 1]? = some (.cells #[.int .i64 0] 3 (0, 0))
  r2 : W.heap[N + 1 + 1]? = some (.cells #[.int .i64 0] 25 (0, 0))
  box : ∃ sv, W.heap[N + 1 + 1 + 1]? = some (.cells #[sv] 43 (0, 0)) ∧ W.ownsRow (N + 7) 51 5 sv d.length (flatT d)
  rd : W.heap[l]? = some (.loop (rec .ready none))
  dfr : W.heap[D]? = some (.deferred (some []))
  len : d.length ≤ 200000

/-- How its loop ends. -/
def SQ (w0 : World) (N l D : Nat) (rec : LoopState → Option Code → Loop) : Res → World → Prop
  | .inl d, W => SG w0 N l D rec d W
  | .inr (.inl (_, p, e)), W => Fr [] w0 W ∧ W.heap[N]? = some (.cells #[.slice none 0 0] 43 (0, 0)) ∧ W.heap[N + 1]? = some (.cells #[.int .i64 (p : Nat)] 3 (0, 0)) ∧ W.heap[N + 1 + 1]? = some (.cells #[.int .i64 (e : Nat)] 25 (0, 0)) ∧ W.heap[l]? = some (.loop (rec .done (some .ret))) ∧ W.heap[D]? = some (.deferred (some []))
  | .inr (.inr _), _ => False

theorem SG.fr {w0 : World} {N l D : Nat} {rec : LoopState → Option Code → Loop} {d : List Tok} {W W' : World} (h : SG w0 N l D rec d W) (f : Fr [] W W') : SG w0 N l D rec d W' := by
  have kp : ∀ {k o}, W.heap[k]? = some o → W'.heap[k]? = some o := fun hk => (f.block _ (Array.getElem?_eq_some_iff.1 hk).1 (by simp)).trans hk
  obtain ⟨sv, hb, ho⟩ := h.box
  exact ⟨h.old.trans f, kp h.r0, kp h.r1, kp h.r2, ⟨sv, kp hb, own_fr ho f (fun _ _ => by simp)⟩, kp h.rd, kp h.dfr, h.len⟩

/-- What Scan hands back. -/
def scOut (s : ByteArray) (w w' : World) (e : Ending) : Prop :=
  match sc s 0 with
  | (ts, none) => ∃ v, e = .returned (.tuple #[v, .int .i64 0, .int .i64 0]) ∧ w'.ownsRow w.heap.size 51 5 v (ts.length + 1) (flatT (ts ++ [⟨0, [], s.size, s.size, 0⟩]))
  | (_, some (p, c)) => e = .returned (.tuple #[.slice none 0 0, .int .i64 (p : Nat), .int .i64 (c : Nat)])

theorem scOut_some {s : ByteArray} {w w' : World} {ts : List Tok} {p c : Nat} (h : sc s 0 = (ts, some (p, c))) : scOut s w w' (.returned (.tuple #[.slice none 0 0, .int .i64 (p : Nat), .int .i64 (c : Nat)])) := by
  unfold scOut; rw [h]
theorem scOut_none {s : ByteArray} {w w' : World} {ts : List Tok} {v : Value} (h : sc s 0 = (ts, none)) (ho : w'.ownsRow w.heap.size 51 5 v (ts.length + 1) (flatT (ts ++ [⟨0, [], s.size, s.size, 0⟩]))) : scOut s w w' (.returned (.tuple #[v, .int .i64 0, .int .i64 0])) := by
  unfold scOut; rw [h]; exact ⟨v, rfl, ho⟩

theorem blkN (w : World) (a b c d : Obj) : (((((w.alloc a).alloc b).alloc c).alloc d)).heap.size = w.heap.size + 4 := by simp

theorem walkT_all (d ts : List Tok) (er : Option (Nat × Nat)) : walkT (fun _ => true) d ts er = match er with | none => .inl (d ++ ts) | some x => .inr (.inl ((d ++ ts), x.1, x.2)) := by
  induction ts generalizing d with
  | nil => cases er <;> simp [walkT]
  | cons t ts ih =>
    simp only [walkT, if_true]
    rw [ih]
    cases er <;> simp

theorem own_low {w : World} {B B' n : Nat} {e : TypeId} {size : Nat} {v : Value} {xs : List Value} (h : w.ownsRow B e size v n xs) (hB : B' ≤ B) : w.ownsRow B' e size v n xs :=
  ⟨h.1, h.2.imp id (fun ⟨g, cap, cur, e1, e2, r⟩ => ⟨g, cap, cur, e1, Nat.le_trans hB e2, r⟩)⟩

theorem set_same {W : World} {k : Nat} {u v : Value} {t : TypeId} {z : Nat × Nat} (h : W.heap[k]? = some (.cells #[u] t z)) : (W.setCell ⟨k, 0, none⟩ v).heap[k]? = some (.cells #[v] t z) := by simp [World.setCell, Array.getElem?_modify, h]
theorem set_other {W : World} {k j : Nat} {v : Value} {o : Obj} (hk : k ≠ j) (h : W.heap[k]? = some o) : (W.setCell ⟨j, 0, none⟩ v).heap[k]? = some o := (Below.heap_setCell _ _ _ _ (by simpa using hk)).trans h

/-- Three cells are written. -/
theorem set3 {w X1 : World} {N l D : Nat} {p er : Int} {r : Loop} {r' : Loop} (hN : N = w.heap.size) (q0 : X1.heap[N]? = some (.cells #[.slice none 0 0] 43 (0, 0))) (q1 : X1.heap[N + 1]? = some (.cells #[.int .i64 0] 3 (0, 0))) (q2 : X1.heap[N + 1 + 1]? = some (.cells #[.int .i64 0] 25 (0, 0)))
    (hl : X1.heap[l]? = some (.loop r)) (hd : X1.heap[D]? = some (.deferred (some []))) (l1 : N + 1 + 1 < l) (l2 : N + 1 + 1 < D) (l3 : D ≠ l) (hO : Fr [] w X1) (X2 : World) (hX : X2 = (((X1.setCell ⟨N, 0, none⟩ (.slice none 0 0)).setCell ⟨N + 1, 0, none⟩ (.int .i64 p)).setCell ⟨N + 1 + 1, 0, none⟩ (.int .i64 er)).drew) :
    X2.heap[l]? = some (.loop r) ∧ Fr [] w (X2.putObj l (.loop r')) ∧ (X2.putObj l (.loop r')).heap[N]? = some (.cells #[.slice none 0 0] 43 (0, 0)) ∧ (X2.putObj l (.loop r')).heap[N + 1]? = some (.cells #[.int .i64 p] 3 (0, 0)) ∧ (X2.putObj l (.loop r')).heap[N + 1 + 1]? = some (.cells #[.int .i64 er] 25 (0, 0)) ∧ (X2.putObj l (.loop r')).heap[l]? = some (.loop r') ∧ (X2.putObj l (.loop r')).heap[D]? = some (.deferred (some [])) := by
  have A0 : X2.heap[N]? = some (.cells #[.slice none 0 0] 43 (0, 0)) := by
    rw [hX]; exact set_other (by omega) (set_other (by omega) (set_same q0))
  have A1 : X2.heap[N + 1]? = some (.cells #[.int .i64 p] 3 (0, 0)) := by
    rw [hX]; exact set_other (by omega) (set_same (set_other (by omega) q1))
  have A2 : X2.heap[N + 1 + 1]? = some (.cells #[.int .i64 er] 25 (0, 0)) := by
    rw [hX]; exact set_same (set_other (by omega) (set_other (by omega) q2))
  have f5 : Fr [N, N + 1, N + 1 + 1] X1 X2 := by
    rw [hX]; exact ((((Fr.refl _ _).setCell (.inl (by simp)) _).setCell (.inl (by simp)) _).setCell (.inl (by simp)) _).drew
  have D2 := (f5.block _ (Array.getElem?_eq_some_iff.1 hd).1 (by simp; omega)).trans hd
  have L2 := (f5.block _ (Array.getElem?_eq_some_iff.1 hl).1 (by simp; omega)).trans hl
  have O2 : Fr [] w X2 := ((hO.sub (T := [N, N + 1, N + 1 + 1]) (by simp)).trans f5).sub (fun k hk => .inr (by simp at hk; omega))
  have f6 := Fr.putObj (W := X2) (l := l) (.loop r')
  have k6 : ∀ {k : Nat} {o : Obj}, k ≠ l → X2.heap[k]? = some o → (X2.putObj l (.loop r')).heap[k]? = some o := fun hk h1 => (World.putObj_heap_other hk).trans h1
  exact ⟨L2, ((O2.sub (T := [l]) (by simp)).trans f6).sub (fun k hk => .inr (by simp at hk; omega)), k6 (by omega) A0, k6 (by omega) A1, k6 (by omega) A2, World.putObj_heap_same (Array.getElem?_eq_some_iff.1 L2).1, k6 l3 D2⟩

end Go.Proofs.YtnebhkglpggnlaaGreatDoor
namespace Go.Proofs.YtnebhkglpggnlaaGreatDoor
open Go.RowKit
set_option maxRecDepth 100000

/-- A byte, 0 where there is none. -/
def atB (s : ByteArray) (i : Nat) : Nat := if h : i < s.size then s[i].toNat else 0
theorem atB_in {s : ByteArray} {i : Nat} (h : i < s.size) : atB s i = s[i].toNat := by unfold atB; rw [dif_pos h]
theorem atB_out {s : ByteArray} {i : Nat} (h : ¬ i < s.size) : atB s i = 0 := by unfold atB; rw [dif_neg h]
theorem atB_lt (s : ByteArray) (i : Nat) : atB s i < 256 := by
  unfold atB
  split
  · exact byte_lt _
  · omega

set_option linter.unusedVariables false in
theorem at_any (s : ByteArray) (i : Nat) (w : World) (hs : s.size ≤ maxLen) :
    Calls Tryz.prog 66 #[.string s, .int .i64 i] w fun e w' => e = .returned (.int .u8 (atB s i)) ∧ w' = w := by
  unfold maxLen at hs
  by_cases h : i < s.size
  · rw [atB_in h]
    go_enter Tryz.func66, Tryz.ntmps66
    go_wp2
    go_ret
    exact ⟨rfl, rfl⟩
  · rw [atB_out h]
    have h' : ¬ (i : Int) < s.size := by omega
    go_enter Tryz.func66, Tryz.ntmps66
    go_wp2
    go_ret
    exact ⟨rfl, rfl⟩

theorem note_at {s : ByteArray} {k : Nat} (h : k < s.size) : note s k = (decide (s[k].toNat = 47) && decide (atB s (k + 1) = 47)) := by
  unfold note
  rw [drop_cons s k h, pref_note, Bool.eq_iff_iff]
  by_cases h1 : k + 1 < s.size
  · rw [drop_cons s (k + 1) h1, atB_in h1]
    have k1 := u8eq s[k + 1] 47 (by decide)
    simp only [List.head?_cons, Option.some.injEq, decide_eq_true_eq, Bool.and_eq_true]
    rw [← k1]
    rfl
  · rw [drop_end s (k + 1) (by omega), atB_out h1]
    simp

theorem nlE_step {s : ByteArray} {k : Nat} (h : k < s.size) (h10 : ¬ s[k].toNat = 10) : nlE s k = nlE s (k + 1) := by
  unfold nlE
  rw [drop_cons s k h]
  simp only [toNl]
  rw [if_neg h10]
  omega
theorem nlE_stop {s : ByteArray} {k : Nat} (h : k < s.size) (h10 : s[k].toNat = 10) : nlE s k = k := by
  unfold nlE
  rw [drop_cons s k h]
  simp only [toNl]
  rw [if_pos h10]
  omega
theorem nlE_end {s : ByteArray} {k : Nat} (h : s.size ≤ k) : nlE s k = k := by
  unfold nlE
  rw [drop_end s k h]
  simp [toNl]

set_option maxRecDepth 100000 in
set_option maxHeartbeats 1000000 in
theorem skipR_any (s : ByteArray) (k0 : Nat) (w : World) (hs : s.size ≤ maxLen) (hk0 : k0 ≤ s.size) :
    Calls Tryz.prog 33 #[.string s, .int .i64 k0] w fun e w' => e = .returned (.int .i64 (skE s k0)) ∧ w' = w := by
  have hat := fun k w => at_any s (k + 1) w hs
  unfold maxLen at hs
  go_enter Tryz.func33, Tryz.ntmps33
  go_wp2
  go_loop [1] (fun i => ∃ k : Nat, k ≤ s.size ∧ i = .int .i64 k ∧ Hid (skE s k = skE s k0)) (fun i => s.size - (intOf i).toNat)
  case atStart => exact ⟨k0, hk0, rfl, rfl⟩
  case round =>
    obtain ⟨k, hk, rfl, he⟩ := hrel
    by_cases hlt : k < s.size
    · have hb := byte_lt s[k]
      by_cases hbl : isBl s[k].toNat = true
      · have hr := skE_bl s k hlt hbl
        have hcl := of_decide_eq_true hbl
        clear hbl hat
        rcases hcl with hcl | hcl | hcl | hcl
        · have e32 : ((s[k].toNat : Int) == 32) = true := by simp; omega
          clear hcl
          go_wp2
          go_round
          case rel => exact ⟨k + 1, hlt, by go_num, hr ▸ he⟩
          case measure => simp [intOf]; omega
        · have e32 : ((s[k].toNat : Int) == 32) = false := beq_int_false (by omega)
          have e9 : ((s[k].toNat : Int) == 9) = true := by simp; omega
          clear hcl
          go_wp2
          go_round
          case rel => exact ⟨k + 1, hlt, by go_num, hr ▸ he⟩
          case measure => simp [intOf]; omega
        · have e32 : ((s[k].toNat : Int) == 32) = false := beq_int_false (by omega)
          have e9 : ((s[k].toNat : Int) == 9) = false := beq_int_false (by omega)
          have e10 : ((s[k].toNat : Int) == 10) = true := by simp; omega
          clear hcl
          go_wp2
          go_round
          case rel => exact ⟨k + 1, hlt, by go_num, hr ▸ he⟩
          case measure => simp [intOf]; omega
        · have e32 : ((s[k].toNat : Int) == 32) = false := beq_int_false (by omega)
          have e9 : ((s[k].toNat : Int) == 9) = false := beq_int_false (by omega)
          have e10 : ((s[k].toNat : Int) == 10) = false := beq_int_false (by omega)
          have e13 : ((s[k].toNat : Int) == 13) = true := by simp; omega
          clear hcl
          go_wp2
          go_round
          case rel => exact ⟨k + 1, hlt, by go_num, hr ▸ he⟩
          case measure => simp [intOf]; omega
      · have hbl' : isBl s[k].toNat = false := by simpa using hbl
        have hcl := of_decide_eq_false hbl'
        have e32 : ((s[k].toNat : Int) == 32) = false := beq_int_false (by omega)
        have e9 : ((s[k].toNat : Int) == 9) = false := beq_int_false (by omega)
        have e10 : ((s[k].toNat : Int) == 10) = false := beq_int_false (by omega)
        have e13 : ((s[k].toNat : Int) == 13) = false := beq_int_false (by omega)
        have hnote := skE_note s k hlt hbl'
        have hout := skE_out s k hlt hbl'
        have hna := note_at hlt
        have hA := atB_lt s (k + 1)
        have hat' := hat k
        clear hat hcl hbl hbl'
        have hat2 : ∀ w, Calls Tryz.prog 66 #[.string s, .int .i64 ((k : Int) + 1)] w fun e w' => e = .returned (.int .u8 (atB s (k + 1))) ∧ w' = w := fun w => by simpa using hat' w
        clear hat'
        by_cases h47 : s[k].toNat = 47
        · have f47 : ((s[k].toNat : Int) == 47) = true := by simp; omega
          by_cases g47 : atB s (k + 1) = 47
          · have n1 : note s k = true := by rw [hna, h47, g47]; rfl
            obtain ⟨hr, hgt⟩ := hnote n1
            have hnl := nlE_le s k hk
            have HR : Hid (skE s (nlE s k) = skE s k0) := by show _ = _; rw [← he.out, hr]
            rw [g47] at hat2
            clear hna hout n1 hr g47 h47 hA hnote
            go_wp2_with (go_at_call 66; refine (hat2 _).mono ?_; rintro e w' ⟨rfl, rfl⟩)
            go_loop [1] (fun i => ∃ j : Nat, j ≤ s.size ∧ i = .int .i64 j ∧ k ≤ j ∧ Hid (nlE s j = nlE s k)) (fun i => s.size - (intOf i).toNat)
            case atStart => exact ⟨k, hk, rfl, Nat.le_refl _, rfl⟩
            case round =>
              obtain ⟨j, hj, rfl, hkj, hje⟩ := hrel
              by_cases hjl : j < s.size
              · have hbj := byte_lt s[j]
                by_cases h10 : s[j].toNat = 10
                · have m10 : ((s[j].toNat : Int) != 10) = false := by simp; omega
                  have hst := nlE_stop hjl h10
                  rw [hje.out] at hst
                  rw [hst] at HR hgt
                  clear hst h10 hnl hje
                  go_wp2
                  go_round
                  case rel => exact ⟨j, hj, rfl, HR⟩
                  case measure => simp [intOf]; omega
                · have m10 : ((s[j].toNat : Int) != 10) = true := by simp; omega
                  have hst := nlE_step hjl h10
                  rw [hje.out] at hst
                  have HST : Hid _ := hst
                  clear hst h10 hje
                  go_wp2
                  go_round
                  case rel => exact ⟨j + 1, hjl, by go_num, by omega, HST.out.symm⟩
                  case measure => simp [intOf]; omega
              · have hst := nlE_end (s := s) (k := j) (by omega)
                rw [hje.out] at hst
                rw [hst] at HR hgt
                clear hst hnl hje
                go_wp2
                go_round
                case rel => exact ⟨j, hj, rfl, HR⟩
                case measure => simp [intOf]; omega
          · have n1 : note s k = false := by rw [hna, h47, decide_eq_false g47]; rfl
            have hr := hout n1
            have g47' : ((atB s (k + 1) : Int) == 47) = false := beq_int_false (by omega)
            generalize atB s (k + 1) = A at *
            clear hna hout n1 hnote h47 g47
            go_wp2_with (go_at_call 66; refine (hat2 _).mono ?_; rintro e w' ⟨rfl, rfl⟩)
            go_ret
            refine ⟨?_, rfl⟩; rw [← he.out, hr]; rfl
        · have f47 : ((s[k].toNat : Int) == 47) = false := beq_int_false (by omega)
          have n1 : note s k = false := by rw [hna, decide_eq_false h47]; rfl
          have hr := hout n1
          clear hna hout n1 hnote h47 hat2 hA
          go_wp2
          go_ret
          refine ⟨?_, rfl⟩; rw [← he.out, hr]; rfl
    · have hr := skE_end s k (by omega)
      go_wp2
      go_ret
      refine ⟨?_, rfl⟩; rw [← he.out, hr]; rfl
end Go.Proofs.YtnebhkglpggnlaaGreatDoor
