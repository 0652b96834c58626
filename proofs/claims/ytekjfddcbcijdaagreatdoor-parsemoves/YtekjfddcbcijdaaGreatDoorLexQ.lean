/-
  A range over a function, at the widest fence, where a round goes on or returns; no condition.
-/
import Derived.Test.YtekjfddcbcijdaaGreatDoorLexP
import Derived.RangeFuncNested
import Derived.RangeFuncBound
import Derived.RangeFuncCalls
import Derived.RangeFuncLeaves
import Derived.Shelf.Abstract
import Derived.Shelf.RegionOpen
import Derived.OwnWalkIn
import Derived.TacticsInMore
import Derived.LoopNIn
import Derived.LoopIn
import Derived.Maps.OwnIn
import Derived.Maps.AppendAt
import Derived.RangeFuncRecord
import Derived.Maps.OwnSet
namespace Go.Proofs.YtekjfddcbcijdaaGreatDoor
open Go.RowKit Go.Shelf
set_option maxRecDepth 100000

/-- How a round's body may be left. -/
def RoundEnd (l : Nat) (rec : LoopState → Option Code → Loop) (R : Ending → World → Prop) : Exit → Act → World → Prop
  | .normal, _, W => W.heap[l]? = some (.loop (rec .busy none)) ∧ R (.returned (.bool true)) (W.putObj l (.loop (rec .ready none)))
  | .ret, _, W => W.heap[l]? = some (.loop (rec .busy none)) ∧ R (.returned (.bool false)) (W.putObj l (.loop (rec .done (some .ret))))
  | _, _, _ => False

theorem range_outer {P : Program} {g : Operand} {ps : Array Tmp} {assign body : Code} {Q : Exit → Act → World → Prop} {a : Act} {w : World} {gf : Nat} {lb : Array Value}
    (hg : a.eval g = .func (.func gf) #[] lb) (eg : ∀ args w, (callFunc gf args).run P w = .ok (.enter gf args) w)
    (H : ∀ rec : LoopState → Option Code → Loop,
      (∀ (xs : Array Value) (W : World) (R : Ending → World → Prop), xs.size = ps.size → W.heap[w.heap.size + 1]? = some (.loop (rec .ready none)) →
        assign.wpIn (Fence.wide.inRound (w.heap.size + 1)) 0 P (Exit.then (fun a₁ w₁ => w₁.heap[w.heap.size + 1]? = some (.loop (rec .ready none)) ∧
          body.wpIn (Fence.wide.inRound (w.heap.size + 1)) 0 P (RoundEnd (w.heap.size + 1) rec R) a₁ (w₁.putObj (w.heap.size + 1) (.loop (rec .busy none)))) (fun _ _ _ => False))
          { tmps := (ps.zip xs).foldl (fun t (p, v) => t.setIfInBounds p v) a.tmps, defers := [] } W →
        YieldAt Fence.wide 0 P (w.heap.size + 1) xs W R) →
      CallsIn Fence.wide 0 P gf (#[.func (.yield (w.heap.size + 1)) #[] #[]] ++ lb) ((w.alloc (.deferred (some []))).alloc (.loop (rec .ready none)))
        (fun e W2 => (∃ v, e = .returned v) ∧
          ((W2.heap[w.heap.size + 1]? = some (.loop (rec .ready none)) ∧ Q .normal { a with defers := { target := .collected w.heap.size, args := #[] } :: a.defers } (W2.putObj (w.heap.size + 1) (.loop (rec .exhausted none)))) ∨
           (W2.heap[w.heap.size + 1]? = some (.loop (rec .done (some .ret))) ∧ Code.ret.wpIn Fence.wide 0 P Q { a with defers := { target := .collected w.heap.size, args := #[] } :: a.defers } (W2.putObj (w.heap.size + 1) (.loop (rec .exhausted (some .ret)))))))) :
    (Code.rangeFunc g ps assign body).wpIn Fence.wide 0 P Q a w := by
  refine wpIn_rangeFunc ?_
  intro fn hfn
  obtain ⟨rec, hrec⟩ : ∃ rec : LoopState → Option Code → Loop, rec = fun st pe => { state := st, pending := pe, fn, tmps := a.tmps, params := ps, assign, body, defers := w.heap.size } := ⟨_, rfl⟩
  have HH := H rec
  obtain ⟨W1, hW1⟩ : ∃ W1, (w.alloc (.deferred (some []))).alloc (.loop (rec .ready none)) = W1 := ⟨_, rfl⟩
  rw [hW1] at HH
  refine ⟨w.heap.size + 1, [{ target := .collected w.heap.size, args := #[] }], W1, { target := .fn (.func gf) lb, args := #[.func (.yield (w.heap.size + 1)) #[] #[]] }, W1, gf,
    #[.func (.yield (w.heap.size + 1)) #[] #[]] ++ lb, W1, ?_, ?_, ?_, ?_, (fun h => by cases h), ?_⟩
  · rw [← hW1, hrec]; exact run_enterLoop_outer _ _ _ _ _
  · simp only [resolve, hg]
    simp [go_sem]
  · intro f' _
    trivial
  · simp [invoke, go_sem, eg]
  · refine (HH ?_).mono ?_
    · intro xs W R hxs hl hw
      have hy := run_yield (P := P) (args := xs) hl (by rw [hrec]; exact hxs)
      rw [hrec] at hy
      refine ⟨fn, _, assign, body, hy, roundIn_of_wpIn hfn ?_⟩
      refine wpIn_mono hw ?_
      rintro e a1 w1 he
      cases e with
      | normal =>
        obtain ⟨h1, h2⟩ := he
        have hb := run_beginRound (P := P) h1 (by rw [hrec])
        refine ⟨_, hb, ?_⟩
        have e1 : ({ rec .ready none with state := .busy } : Loop) = rec .busy none := by rw [hrec]
        rw [e1]
        refine wpIn_mono h2 ?_
        rintro e a2 w2 he
        cases e with
        | normal =>
          obtain ⟨h3, h4⟩ := he
          have hn := run_endRound (P := P) none h3
          refine ⟨_, _, hn, ?_⟩
          have e2 : ({ rec .busy none with state := if (none : Option Code).isNone then .ready else .done, pending := none } : Loop) = rec .ready none := by rw [hrec]; rfl
          rw [e2]
          exact h4
        | ret =>
          obtain ⟨h3, h4⟩ := he
          have hn := run_endRound (P := P) (some .ret) h3
          refine ⟨_, _, hn, ?_⟩
          have e2 : ({ rec .busy none with state := if (some Code.ret).isNone then .ready else .done, pending := some .ret } : Loop) = rec .done (some .ret) := by rw [hrec]; rfl
          rw [e2]
          exact h4
        | exit id => exact he.elim
        | goto t => exact he.elim
        | panic c => exact he.elim
        | outgrown => exact he.elim
      | ret => exact he.elim
      | exit id => exact he.elim
      | goto t => exact he.elim
      | panic c => exact he.elim
      | outgrown => exact he.elim
    · rintro e W2 ⟨⟨v, rfl⟩, ⟨h1, h2⟩ | ⟨h1, h2⟩⟩
      · refine ⟨none, _, ?_, h2⟩
        have := run_endLoop (P := P) h1 (by rw [hrec]; simp)
        rw [hrec] at this ⊢
        exact this
      · refine ⟨some .ret, _, ?_, h2⟩
        have := run_endLoop (P := P) h1 (by rw [hrec]; simp)
        rw [hrec] at this ⊢
        exact this

theorem blk2 (w : World) (o o' : Obj) : ((w.alloc o).alloc o').heap[w.heap.size + 1]? = some o' := by
  have h := heap_alloc_new (w.alloc o) o'
  rw [show (w.alloc o).heap.size = w.heap.size + 1 from by simp] at h
  exact h
theorem own_ne {w : World} {B n : Nat} {e0 : TypeId} {size : Nat} {sv : Value} {xs : List Value} (h : w.ownsRow B e0 size sv n xs) {k : Nat} {c : Array Value} {e : TypeId} {z : Nat × Nat} (hk : w.heap[k]? = some (.cells c e z)) (he : e ≠ e0) : sv.ownBlock ≠ some k := by
  rcases h.2 with ⟨rfl, _⟩ | ⟨g, cap, cur, rfl, _, hgg, _⟩
  · simp [Value.ownBlock]
  · simp [Value.ownBlock]
    rintro rfl
    rw [hgg] at hk
    simp at hk
    exact he hk.2.1.symm
theorem own_fr {S : List Nat} {w w' : World} {B n : Nat} {e : TypeId} {size : Nat} {sv : Value} {xs : List Value} (h : w.ownsRow B e size sv n xs) (f : Fr S w w') (hS : ∀ k, sv.ownBlock = some k → k ∉ S) : w'.ownsRow B e size sv n xs := by
  refine ⟨h.1, ?_⟩
  rcases h.2 with e1 | ⟨g, cap, cur, e1, r1, hgg, r2⟩
  · exact .inl e1
  · exact .inr ⟨g, cap, cur, e1, r1, (f.block g (Array.getElem?_eq_some_iff.1 hgg).1 (hS g (by rw [e1]; rfl))).trans hgg, r2⟩
theorem Fr.ofGrown {w w' : World} {row : Option Nat} (h : w.grownBy w' row) : Fr row.toList w w' := Fr.grown (Fr.refl _ _) h (fun k hk => .inl (by simp [hk]))
theorem own_slice {w : World} {B n : Nat} {e : TypeId} {size : Nat} {v : Value} {xs : List Value} (h : w.ownsRow B e size v n xs) : ∃ a c, v = .slice a n c ∧ (a = none → n = 0 ∧ c = 0) := by
  rcases h.2 with ⟨e1, e2⟩ | ⟨g, cap, cur, e1, _⟩
  · exact ⟨none, 0, by rw [e1, e2], fun _ => ⟨e2, rfl⟩⟩
  · exact ⟨_, cap, e1, fun h => by cases h⟩
theorem own_notloop {w : World} {B n : Nat} {e0 : TypeId} {size : Nat} {sv : Value} {xs : List Value} (h : w.ownsRow B e0 size sv n xs) {k : Nat} {o : Obj} (hk : w.heap[k]? = some o) (ho : ∀ c t z, o ≠ .cells c t z) : sv.ownBlock ≠ some k := by
  rcases h.2 with ⟨rfl, _⟩ | ⟨g, cap, cur, rfl, _, hgg, _⟩
  · simp [Value.ownBlock]
  · simp [Value.ownBlock]
    rintro rfl
    rw [hgg] at hk
    injection hk with hk
    exact ho _ _ _ hk.symm
theorem at_cells {w : World} {k : Nat} {c : Array Value} {t : TypeId} {z : Nat × Nat} (h : w.heap[k]? = some (.cells c t z)) (i : Nat) {u : Value} (hu : c[i]? = some u) : w.cell? ⟨k, i, none⟩ = some u := by simp [World.cell?, h, hu]
theorem Fr.putObj {W : World} {l : Nat} (o : Obj) : Fr [l] W (W.putObj l o) := Fr.ofGrown (grownBy_putObj' W l o)
theorem store_func (P : Program) (w : World) (a : Addr) (m : Mode) (f : Fn) (x y : Array Value) : (store a (.func f x y) m).run P w = stored P w a (.func f x y) m := run_store P w a _ m rfl

/-! The tokens of a text from a place on. -/
theorem readL_to {p : Nat} {l : List UInt8} {t : Tok} (hl : l ≠ []) (h : readL p l = .ok t) : p < t.to ∧ t.to ≤ p + l.length := by
  obtain ⟨c, r, rfl⟩ : ∃ c r, l = c :: r := by
    cases l with
    | nil => exact absurd rfl hl
    | cons c r => exact ⟨c, r, rfl⟩
  have hr := runL_le (c :: r)
  have hs := signL_le (c :: r)
  unfold readL at h
  simp only [List.getD_cons_zero] at h
  have run1 : isWd c.toNat = true → 1 ≤ runL (c :: r) := fun hw => by simp [runL, hw]
  split at h
  · rename_i h2
    have := run1 ((kind_wd _).1 (.inl h2))
    injection h with h
    subst h
    simp
    simp at hr
    omega
  · split at h
    · rename_i h3
      have := run1 ((kind_wd _).1 (.inr h3))
      split at h
      · cases h
      · injection h with h
        subst h
        simp
        simp at hr
        omega
    · split at h
      · split at h
        · cases h
        · injection h with h
          subst h
          simp
          omega
      · split at h
        · cases h
        · rename_i hz
          injection h with h
          subst h
          simp
          simp at hs
          omega

theorem scanL_fuel : ∀ (f f' p : Nat) (l : List UInt8), l.length < f → l.length < f' → scanL f p l = scanL f' p l := by
  intro f
  induction f with
  | zero => intro f' p l h; omega
  | succ f ih =>
    intro f' p l h h'
    cases f' with
    | zero => omega
    | succ f' =>
      simp only [scanL]
      split
      · rfl
      · rename_i hsk
        have hle := skipL_le false l
        cases hr : readL (p + skipL false l) (l.drop (skipL false l)) with
        | error e => rfl
        | ok t =>
          have hne : l.drop (skipL false l) ≠ [] := fun e => by
            have := congrArg List.length e
            simp at this
            omega
          have ht := readL_to hne hr
          simp only
          rw [ih f' t.to (l.drop (t.to - p)) (by simp; omega) (by simp; omega)]

def sc (s : ByteArray) (k : Nat) : List Tok × Option (Nat × Nat) := scanL (s.size + 1) k (s.data.toList.drop k)

theorem sc_end {s : ByteArray} {k : Nat} (hk : k ≤ s.size) (h : s.size ≤ skE s k) : sc s k = ([], none) := by
  have hl : (s.data.toList.drop k).length = s.size - k := by rw [List.length_drop, ← Lib.size_eq]
  unfold sc
  simp only [scanL]
  rw [if_pos]
  unfold skE at h
  have := skipL_le false (s.data.toList.drop k)
  omega
theorem sc_err {s : ByteArray} {k e : Nat} (h : skE s k < s.size) (hr : rd s (skE s k) = .error e) : sc s k = ([], some (skE s k, e)) := by
  have hl : (s.data.toList.drop k).length = s.size - k := by rw [List.length_drop, ← Lib.size_eq]
  unfold rd at hr
  unfold sc
  simp only [scanL]
  have h' := h
  unfold skE at h'
  rw [if_neg (by omega), List.drop_drop]
  rw [show k + skipL false (List.drop k s.data.toList) = skE s k from rfl, hr]
theorem sc_ok {s : ByteArray} {k : Nat} {t : Tok} (h : skE s k < s.size) (hr : rd s (skE s k) = .ok t) : sc s k = (t :: (sc s t.to).1, (sc s t.to).2) ∧ skE s k < t.to ∧ t.to ≤ s.size := by
  have hl : (s.data.toList.drop k).length = s.size - k := by rw [List.length_drop, ← Lib.size_eq]
  have hl2 : (s.data.toList.drop (skE s k)).length = s.size - skE s k := by rw [List.length_drop, ← Lib.size_eq]
  have h' := h
  unfold skE at h'
  have hne : s.data.toList.drop (skE s k) ≠ [] := fun e => by rw [e] at hl2; simp at hl2; omega
  unfold rd at hr
  have ht := readL_to hne hr
  rw [hl2] at ht
  refine ⟨?_, by omega, by omega⟩
  have hr' : readL (k + skipL false (List.drop k s.data.toList)) (List.drop (skipL false (List.drop k s.data.toList)) (List.drop k s.data.toList)) = .ok t := by
    rw [List.drop_drop]; exact hr
  unfold sc
  conv => lhs; simp only [scanL]
  rw [if_neg (by omega), hr']
  simp only
  have hkt : k ≤ t.to := by unfold skE at ht; omega
  rw [List.drop_drop, show k + (t.to - k) = t.to from by omega]
  have hl3 : (s.data.toList.drop t.to).length = s.size - t.to := by rw [List.length_drop, ← Lib.size_eq]
  rw [scanL_fuel s.size (s.size + 1) t.to (s.data.toList.drop t.to) (by omega) (by omega)]
end Go.Proofs.YtekjfddcbcijdaaGreatDoor
