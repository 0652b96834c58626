/-
  The tokens ahead of a fault, by the document; a range over a function that may be left; condition: the text is not too long.
-/
import Derived.Test.YtcfhngfogclheaaDoorEachB
namespace Go.Proofs.YtcfhngfogclheaaDoor
open Go.RowKit Go.Shelf

theorem readL_code {p e : Nat} {l : List UInt8} (h : readL p l = .error e) : e = 40 ∨ e = 41 := by
  unfold readL at h
  repeat (first | (cases h; omega) | cases h | split at h)
  all_goals simp_all
theorem scanL_code : ∀ (f p : Nat) (l : List UInt8) (x : Nat × Nat), (scanL f p l).2 = some x → x.2 = 40 ∨ x.2 = 41 := by
  intro f
  induction f with
  | zero => intro p l x h; simp [scanL] at h
  | succ f ih =>
    intro p l x h
    simp only [scanL] at h
    split at h
    · simp at h
    · cases hr : readL (p + skipL false l) (l.drop (skipL false l)) with
      | error e =>
        rw [hr] at h
        simp at h
        rw [← h]
        exact readL_code hr
      | ok t =>
        rw [hr] at h
        exact ih _ _ _ h
theorem sc_code {s : ByteArray} {k : Nat} {ts : List Tok} {p c : Nat} (h : sc s k = (ts, some (p, c))) : c = 40 ∨ c = 41 := by
  unfold sc at h
  exact scanL_code _ _ _ (p, c) (by rw [h])
theorem flatT_pre (ts : List Tok) (x : Tok) (j : Nat) (u : Value) (h : (flatT ts)[j]? = some u) : (flatT (ts ++ [x]))[j]? = some u := by
  rw [flatT_append, List.getElem?_append_left (List.getElem?_eq_some_iff.1 h).1]
  exact h

/-- What Good hands back. -/
def goodOut (s : ByteArray) (w w' : World) (e : Ending) : Prop :=
  ∃ a c g, e = .returned (.slice a (sc s 0).1.length c) ∧ (0 < (sc s 0).1.length → a = some ⟨g, 0, none⟩) ∧ Lt w' g 0 (sc s 0).1 ∧ Fr [] w w'

set_option maxRecDepth 100000 in
set_option maxHeartbeats 1000000 in
theorem good_any (s : ByteArray) (w : World) (hs : s.size ≤ 200000) :
    Calls Tryd.prog 14 #[.string s] w fun e w' => goodOut s w w' e := by
  have hlen := sc_len (s := s)
  have h1 := fun w => scanR_any s w hs
  obtain ⟨ts, er, hsc⟩ : ∃ ts er, sc s 0 = (ts, er) := ⟨_, _, rfl⟩
  unfold scOut at h1
  unfold goodOut
  rw [hsc] at h1 hlen ⊢
  simp only at hlen ⊢
  have hs' : (s.size : Int) ≤ 200000 := by omega
  have hln : (ts.length : Int) ≤ 200000 := by omega
  have HS : Hid (s.size ≤ 200000) := hs
  clear hs
  cases er with
  | none =>
    simp only at h1
    clear hsc
    go_enter Tryd.func14, Tryd.ntmps14
    go_wp2_with fail
    refine (h1 w).mono ?_
    rintro e w1 ⟨⟨v, rfl, hown⟩, F1⟩
    obtain ⟨g, c, rfl, hc, L⟩ := own_Lt hown (by omega)
    have hc' : (ts.length : Int) + 1 ≤ c := by omega
    clear hown h1
    go_wp2
    go_ret
    exact ⟨_, _, g, rfl, fun _ => rfl, fun j u hu => L j u (flatT_pre _ _ _ _ hu), F1⟩
  | some x =>
    obtain ⟨p, c⟩ := x
    obtain ⟨hp, hg⟩ := sc_good hsc
    have hcd := sc_code hsc
    have c2 : ((c : Int) == 2) = false := beq_int_false (by omega)
    have c0 : ((c : Int) != 0) = true := by simp; omega
    have h2 := fun w => scanR_any (s.extract 0 p) w (by rw [ByteArray.size_extract]; have := HS.out; omega)
    unfold scOut at h2
    rw [hg] at h2
    simp only at h1 h2
    have hp' : (p : Int) ≤ s.size := by omega
    clear hsc hg hcd
    go_enter Tryd.func14, Tryd.ntmps14
    go_wp2_with fail
    refine (h1 w).mono ?_
    rintro e w1 ⟨rfl, F1⟩
    go_wp2_with fail
    refine (h2 w1).mono ?_
    rintro e w2 ⟨⟨v, rfl, hown⟩, F2⟩
    obtain ⟨g, c', rfl, hc, L⟩ := own_Lt hown (by omega)
    have hc' : (ts.length : Int) + 1 ≤ c' := by omega
    have F12 := F1.trans F2
    clear hown h1 h2
    go_wp2
    go_ret
    exact ⟨_, _, g, rfl, fun _ => rfl, fun j u hu => L j u (flatT_pre _ _ _ _ hu), F12⟩

/-- How a round's body may be left. -/
def RoundEndX (l : Nat) (rec : LoopState → Option Code → Loop) (R : Ending → World → Prop) : Exit → Act → World → Prop
  | .normal, _, W => W.heap[l]? = some (.loop (rec .busy none)) ∧ R (.returned (.bool true)) (W.putObj l (.loop (rec .ready none)))
  | .ret, _, W => W.heap[l]? = some (.loop (rec .busy none)) ∧ R (.returned (.bool false)) (W.putObj l (.loop (rec .done (some .ret))))
  | .exit id, _, W => W.heap[l]? = some (.loop (rec .busy none)) ∧ R (.returned (.bool false)) (W.putObj l (.loop (rec .done (some (.exit id)))))
  | _, _, _ => False

theorem range_brk {P : Program} {g : Operand} {ps : Array Tmp} {assign body : Code} {Q : Exit → Act → World → Prop} {a : Act} {w : World} {gf : Nat} {lb : Array Value}
    (hg : a.eval g = .func (.func gf) #[] lb) (eg : ∀ args w, (callFunc gf args).run P w = .ok (.enter gf args) w)
    (H : ∀ rec : LoopState → Option Code → Loop,
      (∀ (xs : Array Value) (W : World) (R : Ending → World → Prop), xs.size = ps.size → W.heap[w.heap.size + 1]? = some (.loop (rec .ready none)) →
        assign.wpIn (Fence.wide.inRound (w.heap.size + 1)) 0 P (Exit.then (fun a₁ w₁ => w₁.heap[w.heap.size + 1]? = some (.loop (rec .ready none)) ∧
          body.wpIn (Fence.wide.inRound (w.heap.size + 1)) 0 P (RoundEndX (w.heap.size + 1) rec R) a₁ (w₁.putObj (w.heap.size + 1) (.loop (rec .busy none)))) (fun _ _ _ => False))
          { tmps := (ps.zip xs).foldl (fun t (p, v) => t.setIfInBounds p v) a.tmps, defers := [] } W →
        YieldAt Fence.wide 0 P (w.heap.size + 1) xs W R) →
      CallsIn Fence.wide 0 P gf (#[.func (.yield (w.heap.size + 1)) #[] #[]] ++ lb) ((w.alloc (.deferred (some []))).alloc (.loop (rec .ready none)))
        (fun e W2 => (∃ v, e = .returned v) ∧
          ((W2.heap[w.heap.size + 1]? = some (.loop (rec .ready none)) ∧ Q .normal { a with defers := { target := .collected w.heap.size, args := #[] } :: a.defers } (W2.putObj (w.heap.size + 1) (.loop (rec .exhausted none)))) ∨
           (W2.heap[w.heap.size + 1]? = some (.loop (rec .done (some .ret))) ∧ Code.ret.wpIn Fence.wide 0 P Q { a with defers := { target := .collected w.heap.size, args := #[] } :: a.defers } (W2.putObj (w.heap.size + 1) (.loop (rec .exhausted (some .ret))))) ∨
           (∃ id, W2.heap[w.heap.size + 1]? = some (.loop (rec .done (some (.exit id)))) ∧ (Code.exit id).wpIn Fence.wide 0 P Q { a with defers := { target := .collected w.heap.size, args := #[] } :: a.defers } (W2.putObj (w.heap.size + 1) (.loop (rec .exhausted (some (.exit id))))))))) :
    (Code.rangeFunc g ps assign body).wpIn Fence.wide 0 P Q a w := by
  refine wpIn_rangeFunc ?_
  intro fn hfn
  obtain ⟨rec, hrec⟩ : ∃ rec : LoopState → Option Code → Loop, rec = fun st pe => { state := st, pending := pe, fn, tmps := a.tmps, params := ps, assign, body, defers := w.heap.size } := ⟨_, rfl⟩
  have HH := H rec
  obtain ⟨W1, hW1⟩ : ∃ W1, (w.alloc (.deferred (some []))).alloc (.loop (rec .ready none)) = W1 := ⟨_, rfl⟩
  rw [hW1] at HH
  refine ⟨w.heap.size + 1, [{ target := .collected w.heap.size, args := #[] }], W1, { target := .fn (.func gf) lb, args := #[.func (.yield (w.heap.size + 1)) #[] #[]] }, W1, gf,
    #[.func (.yield (w.heap.size + 1)) #[] #[]] ++ lb, W1, ?_, ?_, ?_, ?_, (fun h => by cases h), ?_⟩
  · rw [← hW1, hrec]; exact run_enterLoop_outer _ _ _ _ _
  · simp only [resolve, hg]
    simp [go_sem]
  · intro f' _
    trivial
  · simp [invoke, go_sem, eg]
  · refine (HH ?_).mono ?_
    · intro xs W R hxs hl hw
      have hy := run_yield (P := P) (args := xs) hl (by rw [hrec]; exact hxs)
      rw [hrec] at hy
      refine ⟨fn, _, assign, body, hy, roundIn_of_wpIn hfn ?_⟩
      refine wpIn_mono hw ?_
      rintro e a1 w1 he
      cases e with
      | normal =>
        obtain ⟨h1, h2⟩ := he
        have hb := run_beginRound (P := P) h1 (by rw [hrec])
        refine ⟨_, hb, ?_⟩
        have e1 : ({ rec .ready none with state := .busy } : Loop) = rec .busy none := by rw [hrec]
        rw [e1]
        refine wpIn_mono h2 ?_
        rintro e a2 w2 he
        cases e with
        | normal =>
          obtain ⟨h3, h4⟩ := he
          have hn := run_endRound (P := P) none h3
          refine ⟨_, _, hn, ?_⟩
          have e2 : ({ rec .busy none with state := if (none : Option Code).isNone then .ready else .done, pending := none } : Loop) = rec .ready none := by rw [hrec]; rfl
          rw [e2]
          exact h4
        | ret =>
          obtain ⟨h3, h4⟩ := he
          have hn := run_endRound (P := P) (some .ret) h3
          refine ⟨_, _, hn, ?_⟩
          have e2 : ({ rec .busy none with state := if (some Code.ret).isNone then .ready else .done, pending := some .ret } : Loop) = rec .done (some .ret) := by rw [hrec]; rfl
          rw [e2]
          exact h4
        | exit id =>
          obtain ⟨h3, h4⟩ := he
          have hn := run_endRound (P := P) (some (.exit id)) h3
          refine ⟨_, _, hn, ?_⟩
          have e2 : ({ rec .busy none with state := if (some (Code.exit id)).isNone then .ready else .done, pending := some (.exit id) } : Loop) = rec .done (some (.exit id)) := by rw [hrec]; rfl
          rw [e2]
          exact h4
        | goto t => exact he.elim
        | panic c => exact he.elim
        | outgrown => exact he.elim
      | ret => exact he.elim
      | exit id => exact he.elim
      | goto t => exact he.elim
      | panic c => exact he.elim
      | outgrown => exact he.elim
    · rintro e W2 ⟨⟨v, rfl⟩, ⟨h1, h2⟩ | ⟨h1, h2⟩ | ⟨id, h1, h2⟩⟩
      · refine ⟨none, _, ?_, h2⟩
        have := run_endLoop (P := P) h1 (by rw [hrec]; simp)
        rw [hrec] at this ⊢
        exact this
      · refine ⟨some .ret, _, ?_, h2⟩
        have := run_endLoop (P := P) h1 (by rw [hrec]; simp)
        rw [hrec] at this ⊢
        exact this
      · refine ⟨some (.exit id), _, ?_, h2⟩
        have := run_endLoop (P := P) h1 (by rw [hrec]; simp)
        rw [hrec] at this ⊢
        exact this
end Go.Proofs.YtcfhngfogclheaaDoor
