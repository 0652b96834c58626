/-
  Texts of the proof, in their order: PurC, PurD, PurE, Gen, AwkA; conditions: as each says.
-/
import Derived.Lib.AppendIntMem
import Derived.Test.YtefkcmeeagflmaaDoorMgDLBD
import Derived.Test.YtefkcmeeagflmaaDoorMgFNPA
namespace Go.Proofs.YtefkcmeeagflmaaDoor
open Go.RowKit
set_option linter.unusedVariables false
set_option linter.unusedSimpArgs false

/-- A number's place in a list. -/
def idx : List Int → Int → Option Nat
  | [], _ => none
  | a :: r, n => if a = n then some 0 else (idx r n).map (· + 1)

theorem idx_app : ∀ (l r : List Int) (n : Int), idx (l ++ r) n = match idx l n with | some k => some k | none => (idx r n).map (· + l.length)
  | [], r, n => by simp [idx]
  | a :: l, r, n => by
    simp only [List.cons_append, idx]
    split
    · rfl
    · rw [idx_app l r n]
      cases idx l n with
      | some k => rfl
      | none =>
        cases idx r n with
        | none => rfl
        | some k => simp; omega
theorem idx_one (l : List Int) (m n : Int) : idx (l ++ [m]) n = match idx l n with | some k => some k | none => if m = n then some l.length else none := by
  rw [idx_app]
  cases idx l n with
  | some k => rfl
  | none => simp only [idx]; split <;> simp
theorem idx_pre {l r : List Int} {n : Int} {k : Nat} (h : idx l n = some k) : idx (l ++ r) n = some k := by rw [idx_app, h]
theorem idx_mem : ∀ {l : List Int} {n : Int}, idx l n = none ↔ n ∉ l
  | [], n => by simp [idx]
  | a :: l, n => by
    have := @idx_mem l n
    simp only [idx]
    split
    · rename_i h; subst h; simp
    · rename_i h
      simp only [Option.map_eq_none_iff, List.mem_cons, not_or]
      rw [this]
      exact ⟨fun h' => ⟨fun e => h e.symm, h'⟩, fun h' => h'.2⟩
theorem idx_at : ∀ {l : List Int} {n : Int} {k : Nat}, idx l n = some k → l[k]? = some n
  | [], n, k, h => by simp [idx] at h
  | a :: l, n, k, h => by
    simp only [idx] at h
    split at h
    · rename_i e; injection h with h; subst h; simp [e]
    · cases h1 : idx l n with
      | none => rw [h1] at h; simp at h
      | some j =>
        rw [h1] at h
        simp at h
        subst h
        simpa using idx_at h1

/-- What is met, by what is told. -/
def mt (out : List Int) : Int → Bool := fun i => (idx out i).isSome
theorem mt_one (out : List Int) (n : Int) : mt (out ++ [n]) = fun j => decide (j = n) || mt out j := by
  funext j
  unfold mt
  rw [idx_one]
  cases h : idx out j with
  | some k => simp
  | none => simp only; split <;> simp_all [eq_comm]

theorem wg_mono (wt : Int × List (Int × Int) → Nat) {met met' : Int → Bool} (h : ∀ j, met j = true → met' j = true) : ∀ (k : Nat) (A : List (Int × List (Int × Int))), wg wt met' k A ≤ wg wt met k A
  | _, [] => Nat.le_refl _
  | k, a :: r => by
    have := wg_mono wt h (k + 1) r
    rw [wg, wg]
    by_cases h1 : met k = true
    · rw [h1, h k h1]; simpa using this
    · have h2 : met k = false := by simpa using h1
      rw [h2]
      split <;> simp <;> omega

/-- How much is left, behind what is told. -/
def lft (wt : Int × List (Int × Int) → Nat) (A : List (Int × List (Int × Int))) (out : List Int) : Nat := wg wt (mt out) 0 A
theorem lft_app (wt : Int × List (Int × Int) → Nat) (A : List (Int × List (Int × Int))) (out r : List Int) : lft wt A (out ++ r) ≤ lft wt A out := by
  refine wg_mono wt (fun j hj => ?_) 0 A
  unfold mt at hj ⊢
  obtain ⟨k, hk⟩ := Option.isSome_iff_exists.1 hj
  rw [idx_pre hk]
  rfl
theorem lft_one (wt : Int × List (Int × Int) → Nat) {A : List (Int × List (Int × Int))} {out : List Int} {v : Int × Int} {o : Int × List (Int × Int)} (h : thingAt A v = some o) (hi : idx out v.2 = none) : lft wt A (out ++ [v.2]) + wt o = lft wt A out := by
  refine wg_met h (by unfold mt; rw [hi]; rfl) (by rw [mt_one]; simp) (fun j hj => by rw [mt_one]; simp [hj])

/-- A value that is no thing. -/
def plainB (p : Int × Int) : List UInt8 := if p.1 = 0 then Lib.itoa p.2 else if p = (1, 0) then [110, 117, 108, 108] else [63]
def opn (r : Int) : List UInt8 := if r < 0 then [91] else 123 :: Lib.itoa r
def sep0 (r : Int) : List UInt8 := if r < 0 then [] else [32]
def cls (r : Int) : List UInt8 := if r < 0 then [93] else [125]

def lstR (f : Int × Int → List Int → List UInt8 × List Int) : List UInt8 → List (Int × Int) → List Int → List UInt8 × List Int
  | _, [], out => ([], out)
  | s, v :: r, out => (s ++ (f v out).1 ++ (lstR f [32] r (f v out).2).1, (lstR f [32] r (f v out).2).2)

/-- A value's text, and what is told behind it. -/
def valR (A : List (Int × List (Int × Int))) : Nat → Int × Int → List Int → List UInt8 × List Int
  | 0, _, out => ([], out)
  | n + 1, v, out => match thingAt A v with
    | none => (plainB v, out)
    | some o => match idx out v.2 with
      | some k => (64 :: Lib.itoa k, out)
      | none => (64 :: Lib.itoa out.length ++ opn o.1 ++ (lstR (valR A n) (sep0 o.1) o.2 (out ++ [v.2])).1 ++ cls o.1, (lstR (valR A n) (sep0 o.1) o.2 (out ++ [v.2])).2)

theorem lst_pre {f : Int × Int → List Int → List UInt8 × List Int} (h : ∀ v out, ∃ t, (f v out).2 = out ++ t) : ∀ (s : List UInt8) (x : List (Int × Int)) (out : List Int), ∃ t, (lstR f s x out).2 = out ++ t
  | _, [], out => ⟨[], by simp [lstR]⟩
  | s, v :: r, out => by
    obtain ⟨t, ht⟩ := h v out
    obtain ⟨t2, ht2⟩ := lst_pre h [32] r (f v out).2
    exact ⟨t ++ t2, by rw [lstR, ht2, ht, List.append_assoc]⟩
theorem val_pre (A : List (Int × List (Int × Int))) : ∀ (n : Nat) (v : Int × Int) (out : List Int), ∃ t, (valR A n v out).2 = out ++ t
  | 0, v, out => ⟨[], by simp [valR]⟩
  | n + 1, v, out => by
    rw [valR]
    split
    · exact ⟨[], by simp⟩
    · split
      · exact ⟨[], by simp⟩
      · obtain ⟨t, ht⟩ := lst_pre (val_pre A n) (sep0 _) _ (out ++ [v.2])
        exact ⟨[v.2] ++ t, by rw [ht, List.append_assoc]⟩

/-- All that is told are things. -/
def thgs (A : List (Int × List (Int × Int))) (out : List Int) : Prop := ∀ i, i ∈ out → ∃ a, thingAt A (2, i) = some a
theorem lst_thgs {A : List (Int × List (Int × Int))} {f : Int × Int → List Int → List UInt8 × List Int} (h : ∀ v out, thgs A out → thgs A (f v out).2) : ∀ (s : List UInt8) (x : List (Int × Int)) (out : List Int), thgs A out → thgs A (lstR f s x out).2
  | _, [], out, ht => ht
  | s, v :: r, out, ht => lst_thgs h [32] r _ (h v out ht)
theorem val_thgs (A : List (Int × List (Int × Int))) : ∀ (n : Nat) (v : Int × Int) (out : List Int), thgs A out → thgs A (valR A n v out).2
  | 0, v, out, h => h
  | n + 1, v, out, h => by
    rw [valR]
    split
    · exact h
    · rename_i o ho
      split
      · exact h
      · refine lst_thgs (val_thgs A n) _ _ _ (fun i hi => ?_)
        simp only [List.mem_append, List.mem_singleton] at hi
        rcases hi with hi | rfl
        · exact h i hi
        · exact ⟨o, by rw [← thing_two ho]; exact ho⟩

/-- A run, begun anew. -/
def Goes {σ : Type} (step : σ → List Value → Option (σ × List (List Value))) (s s' : Nat → σ) (more : List (List Value)) (k : Nat) : Prop :=
  ∀ (N c : Nat) (p : List (List Value)), run step (N + k) (s c) (more ++ p) = run step N (s' (c + k)) p

theorem Goes.nil {σ : Type} (step : σ → List Value → Option (σ × List (List Value))) (s : Nat → σ) : Goes step s s [] 0 := fun _ _ _ => rfl
theorem Goes.app {σ : Type} {step : σ → List Value → Option (σ × List (List Value))} {s s' s'' : Nat → σ} {a b : List (List Value)} {k j : Nat} (h : Goes step s s' a k) (h' : Goes step s' s'' b j) : Goes step s s'' (a ++ b) (k + j) := fun N c p => by
  rw [List.append_assoc, show N + (k + j) = (N + j) + k by omega, h (N + j) c (b ++ p), h' N (c + k) p, Nat.add_assoc]
theorem Goes.one {σ : Type} {step : σ → List Value → Option (σ × List (List Value))} {s s' s'' : Nat → σ} {x : List Value} {more : List (List Value)} {k : Nat} (h : ∀ c, step (s c) x = some (s' (c + 1), more)) (h' : Goes step s' s'' more k) : Goes step s s'' [x] (k + 1) := fun N c p => by
  rw [show N + (k + 1) = (N + k) + 1 by omega, List.singleton_append, run, h c]
  show run step (N + k) (s' (c + 1)) (more ++ p) = _
  rw [h' N (c + 1) p, show c + 1 + k = c + (k + 1) by omega]

/-- The state of things' run, with the caller's. -/
def stR {τ : Type} (emb : List Int → τ) (out : List Int) (c : Nat) : (Int → Bool) × τ × Nat := (mt out, emb out, c)

theorem lst_goes {σ : Type} {step : σ → List Value → Option (σ × List (List Value))} {wt : Int × List (Int × Int) → Nat} {A : List (Int × List (Int × Int))} {f : Int × Int → List Int → List UInt8 × List Int} {pc : Int × Int → List Value} {st : List Int → Nat → σ} {m : Nat} (hp : ∀ v out, ∃ t, (f v out).2 = out ++ t)
    (h : ∀ v out, lft (fun _ => 1) A out < m → ∃ k, k + lft wt A (f v out).2 ≤ 1 + lft wt A out ∧ Goes step (st out) (st (f v out).2) [pc v] k) :
    ∀ (s : List UInt8) (x : List (Int × Int)) (out : List Int), lft (fun _ => 1) A out < m → ∃ k, k + lft wt A (lstR f s x out).2 ≤ x.length + lft wt A out ∧ Goes step (st out) (st (lstR f s x out).2) (x.map pc) k
  | _, [], out, _ => ⟨0, by simp [lstR], Goes.nil _ _⟩
  | s, v :: r, out, hm => by
    obtain ⟨k, hk, hg⟩ := h v out hm
    obtain ⟨t, ht⟩ := hp v out
    obtain ⟨j, hj, hg2⟩ := lst_goes hp h [32] r (f v out).2 (by rw [ht]; exact Nat.lt_of_le_of_lt (lft_app _ _ _ _) hm)
    refine ⟨k + j, ?_, ?_⟩
    · rw [lstR]; simp only [List.length_cons]; omega
    · rw [lstR]
      exact hg.app hg2

theorem reach_goes {τ : Type} (A : List (Int × List (Int × Int))) (stepY : τ → Int → Option τ) (emb : List Int → τ) (he : ∀ out k, idx out k = none → stepY (emb out) k = some (emb (out ++ [k]))) : ∀ (n : Nat) (v : Int × Int) (out : List Int), lft (fun _ => 1) A out < n → ∃ k, k + lft (fun a => a.2.length) A (valR A n v out).2 ≤ 1 + lft (fun a => a.2.length) A out ∧ Goes (stepT A stepY) (stR emb out) (stR emb (valR A n v out).2) [[.int .i64 v.1, .int .i64 v.2]] k
  | 0, v, out, h => by omega
  | n + 1, v, out, h => by
    have hd : decV [.int .i64 v.1, .int .i64 v.2] = v := rfl
    rw [valR]
    cases ht : thingAt A v with
    | none =>
      refine ⟨1, by simp, Goes.one (s' := stR emb out) (more := []) (k := 0) (fun c => ?_) (Goes.nil _ _)⟩
      unfold stepT stR
      rw [hd, ht]
      split <;> rfl
    | some o =>
      have h2 : v.1 = 2 := by rw [thing_two ht]
      cases hi : idx out v.2 with
      | some k =>
        refine ⟨1, by simp, Goes.one (s' := stR emb out) (more := []) (k := 0) (fun c => ?_) (Goes.nil _ _)⟩
        unfold stepT stR
        rw [hd, if_pos (.inl (by simp [mt, hi]))]
      | none =>
        have h1 := lft_one (fun _ => 1) ht hi
        have hw := lft_one (fun a => a.2.length) ht hi
        obtain ⟨k, hk, hg⟩ := lst_goes (st := stR emb) (pc := fun c => [.int .i64 c.1, .int .i64 c.2]) (val_pre A n) (reach_goes A stepY emb he n) (sep0 o.1) o.2 (out ++ [v.2]) (by omega)
        refine ⟨k + 1, ?_, Goes.one (s' := stR emb (out ++ [v.2])) (more := valsL o.2) (fun c => ?_) hg⟩
        · simp only at hw hk ⊢
          omega
        · unfold stepT stR
          rw [hd, if_neg (by simp [mt, hi, h2]), ht]
          simp only [he out v.2 hi, mt_one]

/-- What is reached. -/
def reachR (A : List (Int × List (Int × Int))) (x : List (Int × Int)) : List Int := (lstR (valR A (A.length + 1)) [] x []).2
/-- What is shown. -/
def showR (A : List (Int × List (Int × Int))) (x : List (Int × Int)) : List UInt8 := (lstR (valR A (A.length + 1)) [] x []).1

theorem wg_len (met : Int → Bool) : ∀ (k : Nat) (A : List (Int × List (Int × Int))), wg (fun _ => 1) met k A ≤ A.length
  | _, [] => Nat.le_refl _
  | k, a :: r => by
    have := wg_len met (k + 1) r
    rw [wg]
    simp only [List.length_cons]
    split <;> omega
theorem lft_len (A : List (Int × List (Int × Int))) (out : List Int) : lft (fun _ => 1) A out < A.length + 1 := by
  have := wg_len (mt out) 0 A
  unfold lft
  omega
theorem mt_nil : mt [] = fun _ => false := rfl
theorem lft_nil (A : List (Int × List (Int × Int))) : lft (fun a => a.2.length) A [] = tot A := rfl

theorem reach_run {τ : Type} (A : List (Int × List (Int × Int))) (stepY : τ → Int → Option τ) (emb : List Int → τ) (he : ∀ out k, idx out k = none → stepY (emb out) k = some (emb (out ++ [k]))) (x : List (Int × Int)) : ∃ k c, k ≤ x.length + tot A + 1 ∧ run (stepT A stepY) k (fun _ => false, emb [], 0) (valsL x) = some (some (mt (reachR A x), emb (reachR A x), c)) := by
  obtain ⟨k, hk, hg⟩ := lst_goes (st := stR emb) (pc := fun c => [.int .i64 c.1, .int .i64 c.2]) (val_pre A (A.length + 1)) (reach_goes A stepY emb he (A.length + 1)) [] x [] (lft_len A [])
  refine ⟨1 + k, 0 + k, ?_, ?_⟩
  · rw [lft_nil] at hk
    omega
  · have := hg 1 0 []
    rw [List.append_nil] at this
    exact this

/-- One thing more, by its place. -/
def stepQ (y : (Int → Option Nat) × Nat) (k : Int) : Option ((Int → Option Nat) × Nat) := some (fun j => if j = k then some y.2 else y.1 j, if (y.1 k).isSome then y.2 else y.2 + 1)
theorem stepQ_idx (out : List Int) (k : Int) (h : idx out k = none) : stepQ (idx out, out.length) k = some (idx (out ++ [k]), (out ++ [k]).length) := by
  unfold stepQ
  simp only [h, Option.isSome_none, List.length_append, List.length_singleton, Option.some.injEq, Prod.mk.injEq]
  refine ⟨?_, rfl⟩
  funext j
  rw [idx_one]
  by_cases e : j = k
  · subst e; simp [h]
  · rw [if_neg e]
    cases idx out j with
    | some i => rfl
    | none => simp; exact fun h' => e h'.symm
theorem place_run (A : List (Int × List (Int × Int))) (x : List (Int × Int)) : ∃ k c, k ≤ x.length + tot A + 1 ∧ run (stepT A stepQ) k (fun _ => false, (fun _ => none, 0), 0) (valsL x) = some (some (mt (reachR A x), (idx (reachR A x), (reachR A x).length), c)) :=
  reach_run A stepQ (fun out => (idx out, out.length)) (fun out k h => stepQ_idx out k h) x
theorem told_run (A : List (Int × List (Int × Int))) (x : List (Int × Int)) : ∃ k c, k ≤ x.length + tot A + 1 ∧ run (stepT A stepR) k (fun _ => false, [], 0) (valsL x) = some (some (mt (reachR A x), reachR A x, c)) :=
  reach_run A stepR (fun out => out) (fun out k h => rfl) x
end Go.Proofs.YtefkcmeeagflmaaDoor
namespace Go.Proofs.YtefkcmeeagflmaaDoor
open Go.RowKit
set_option linter.unusedVariables false
set_option linter.unusedSimpArgs false

/-- A piece, read off its cells. -/
def decT : List Value → ByteArray × Bool × (Int × Int)
  | [.string s, .bool b, .int _ a, .int _ n] => (s, b, (a, n))
  | _ => (⟨#[]⟩, false, (0, 0))

/-- A text of bytes. -/
def bt (l : List UInt8) : ByteArray := ⟨l.toArray⟩

/-- What stands behind a thing's place the first time. -/
def bodyL (o : Int × List (Int × Int)) : List (List Value) := bare (bt (opn o.1)) :: (tolds (bt (sep0 o.1)) o.2 ++ [bare (bt (cls o.1))])

/-- Which place a value has. -/
def plc (pl : List Int) (v : Int × Int) : Option Nat := if v.1 = 2 then idx pl v.2 else none

/-- One round of Show: the text, how many are shown, how many rounds there were. -/
def stepW (A : List (Int × List (Int × Int))) (pl : List Int) (s : List UInt8 × Nat × Nat) (x : List Value) : Option ((List UInt8 × Nat × Nat) × List (List Value)) :=
  if (decT x).2.1 = false then some ((s.1 ++ (decT x).1.data.toList, s.2.1, s.2.2 + 1), [])
  else match plc pl (decT x).2.2 with
    | none => some ((s.1 ++ (decT x).1.data.toList ++ plainB (decT x).2.2, s.2.1, s.2.2 + 1), [])
    | some k => if k = s.2.1 then some ((s.1 ++ (decT x).1.data.toList ++ 64 :: Lib.itoa k, s.2.1 + 1, s.2.2 + 1), bodyL ((thingAt A (decT x).2.2).getD (0, [])))
      else some ((s.1 ++ (decT x).1.data.toList ++ 64 :: Lib.itoa k, s.2.1, s.2.2 + 1), [])

theorem stepW_cnt (A : List (Int × List (Int × Int))) (pl : List Int) : ∀ s x s' more, stepW A pl s x = some (s', more) → s'.2.2 = s.2.2 + 1 := by
  intro s x s' more h
  unfold stepW at h
  split at h
  · simp at h; rw [← h.1]
  · split at h
    · simp at h; rw [← h.1]
    · split at h
      · simp at h; rw [← h.1]
      · simp at h; rw [← h.1]

def stW (t : List UInt8) (m : Nat) (c : Nat) : List UInt8 × Nat × Nat := (t, m, c)

theorem bare_goes (A : List (Int × List (Int × Int))) (pl : List Int) (t e : List UInt8) (m : Nat) : Goes (stepW A pl) (stW t m) (stW (t ++ e) m) [bare (bt e)] 1 := by
  refine Goes.one (s' := stW (t ++ e) m) (more := []) (k := 0) (fun c => ?_) (Goes.nil _ _)
  unfold stepW stW
  simp [bare, decT, bt]

/-- How much a thing takes. -/
def wt2 (a : Int × List (Int × Int)) : Nat := a.2.length + 2

theorem lst_shows {A : List (Int × List (Int × Int))} {pl : List Int} {f : Int × Int → List Int → List UInt8 × List Int} {m : Nat} (hp : ∀ v out, ∃ t, (f v out).2 = out ++ t)
    (h : ∀ (s : List UInt8) v out t r, lft (fun _ => 1) A out < m → pl = (f v out).2 ++ r → ∃ k, k + lft wt2 A (f v out).2 ≤ 1 + lft wt2 A out ∧ Goes (stepW A pl) (stW t out.length) (stW (t ++ s ++ (f v out).1) (f v out).2.length) [told (bt s) v] k) :
    ∀ (s : List UInt8) (x : List (Int × Int)) (out : List Int) (t : List UInt8) (r : List Int), lft (fun _ => 1) A out < m → pl = (lstR f s x out).2 ++ r → ∃ k, k + lft wt2 A (lstR f s x out).2 ≤ x.length + lft wt2 A out ∧ Goes (stepW A pl) (stW t out.length) (stW (t ++ (lstR f s x out).1) (lstR f s x out).2.length) (tolds (bt s) x) k
  | s, [], out, t, r, _, _ => ⟨0, by simp [lstR], by simpa [lstR, tolds] using Goes.nil _ _⟩
  | s, v :: x, out, t, r, hm, hr => by
    obtain ⟨q, hq⟩ := lst_pre hp [32] x (f v out).2
    rw [lstR] at hr
    have hr' := hr
    simp only at hr'
    rw [hq, List.append_assoc] at hr'
    obtain ⟨k, hk, hg⟩ := h s v out t _ hm hr'
    obtain ⟨u, hu⟩ := hp v out
    obtain ⟨j, hj, hg2⟩ := lst_shows hp h [32] x (f v out).2 (t ++ s ++ (f v out).1) r (by rw [hu]; exact Nat.lt_of_le_of_lt (lft_app _ _ _ _) hm) hr
    refine ⟨k + j, ?_, ?_⟩
    · rw [lstR]; simp only [List.length_cons]; omega
    · have := hg.app hg2
      rw [lstR]
      simp only [List.append_assoc] at this ⊢
      exact this

theorem show_goes (A : List (Int × List (Int × Int))) (pl : List Int) (hpl : thgs A pl) : ∀ (n : Nat) (s : List UInt8) (v : Int × Int) (out : List Int) (t : List UInt8) (r : List Int), lft (fun _ => 1) A out < n → pl = (valR A n v out).2 ++ r → ∃ k, k + lft wt2 A (valR A n v out).2 ≤ 1 + lft wt2 A out ∧ Goes (stepW A pl) (stW t out.length) (stW (t ++ s ++ (valR A n v out).1) (valR A n v out).2.length) [told (bt s) v] k
  | 0, s, v, out, t, r, h, _ => by omega
  | n + 1, s, v, out, t, r, h, hr => by
    have hd : decT (told (bt s) v) = (bt s, true, v) := rfl
    have hb : (bt s).data.toList = s := by simp [bt]
    rw [valR] at hr ⊢
    cases ht : thingAt A v with
    | none =>
      rw [ht] at hr
      refine ⟨1, by simp, Goes.one (s' := stW (t ++ s ++ plainB v) out.length) (more := []) (k := 0) (fun c => ?_) (Goes.nil _ _)⟩
      have hn : plc pl v = none := by
        unfold plc
        split
        · rename_i h2
          rw [idx_mem]
          intro hm
          obtain ⟨a, ha⟩ := hpl _ hm
          rw [← pair_two h2, ht] at ha
          cases ha
        · rfl
      unfold stepW stW
      rw [hd, if_neg (by simp), hn, hb]
    | some o =>
      rw [ht] at hr
      have h2 : v.1 = 2 := by rw [thing_two ht]
      cases hi : idx out v.2 with
      | some k =>
        rw [hi] at hr
        refine ⟨1, by simp, Goes.one (s' := stW (t ++ s ++ 64 :: Lib.itoa k) out.length) (more := []) (k := 0) (fun c => ?_) (Goes.nil _ _)⟩
        have hn : plc pl v = some k := by
          unfold plc
          rw [if_pos h2, hr]
          exact idx_pre hi
        have hne : k ≠ out.length := by
          have := (List.getElem?_eq_some_iff.1 (idx_at hi)).1
          omega
        unfold stepW stW
        rw [hd, if_neg (by simp), hn, hb]
        simp only
        rw [if_neg hne]
      | none =>
        rw [hi] at hr
        simp only at hr ⊢
        have h1 := lft_one (fun _ => 1) ht hi
        have hw := lft_one wt2 ht hi
        obtain ⟨q, hq⟩ := lst_pre (val_pre A n) (sep0 o.1) o.2 (out ++ [v.2])
        have hn : plc pl v = some out.length := by
          unfold plc
          rw [if_pos h2, hr, hq]
          refine idx_pre (idx_pre ?_)
          rw [idx_one, hi]
          simp
        obtain ⟨k, hk, hg⟩ := lst_shows (val_pre A n) (fun s v out t r => show_goes A pl hpl n s v out t r) (sep0 o.1) o.2 (out ++ [v.2]) (t ++ s ++ 64 :: Lib.itoa out.length ++ opn o.1) r (by omega) hr
        have hg1 := (bare_goes A pl (t ++ s ++ 64 :: Lib.itoa out.length) (opn o.1) (out ++ [v.2]).length).app (hg.app (bare_goes A pl _ (cls o.1) _))
        refine ⟨1 + (k + 1) + 1, ?_, Goes.one (s' := stW (t ++ s ++ 64 :: Lib.itoa out.length) (out ++ [v.2]).length) (more := bodyL o) (fun c => ?_) ?_⟩
        · simp only [wt2] at hw
          omega
        · unfold stepW stW
          rw [hd, if_neg (by simp), hn, hb]
          simp only [if_true, ht]
          simp
        · simp only [List.append_assoc, List.cons_append, List.nil_append] at hg1 ⊢
          exact hg1

theorem show_run (A : List (Int × List (Int × Int))) (x : List (Int × Int)) : ∃ k c, k ≤ x.length + lft wt2 A [] + 2 ∧ run (stepW A (reachR A x)) k ([], 0, 0) (tolds (bt []) x ++ [bare (bt [])]) = some (some (showR A x, (reachR A x).length, c)) := by
  have hpl : thgs A (reachR A x) := lst_thgs (val_thgs A _) _ _ _ (fun i hi => by simp at hi)
  obtain ⟨k, hk, hg⟩ := lst_shows (pl := reachR A x) (val_pre A (A.length + 1)) (fun s v out t r => show_goes A (reachR A x) hpl (A.length + 1) s v out t r) [] x [] [] [] (lft_len A []) (by rw [List.append_nil]; rfl)
  have hg2 := hg.app (bare_goes A (reachR A x) _ [] _)
  refine ⟨1 + (k + 1), 0 + (k + 1), by omega, ?_⟩
  have := hg2 1 0 []
  rw [List.append_nil] at this
  simp only [List.append_nil, List.nil_append] at this
  exact this
end Go.Proofs.YtefkcmeeagflmaaDoor
namespace Go.Proofs.YtefkcmeeagflmaaDoor
open Go.RowKit
set_option linter.unusedVariables false
set_option linter.unusedSimpArgs false

theorem lst_len {A : List (Int × List (Int × Int))} {f : Int × Int → List Int → List UInt8 × List Int} (h : ∀ v out, (f v out).2.length + lft (fun _ => 1) A (f v out).2 ≤ out.length + lft (fun _ => 1) A out) : ∀ (s : List UInt8) (x : List (Int × Int)) (out : List Int), (lstR f s x out).2.length + lft (fun _ => 1) A (lstR f s x out).2 ≤ out.length + lft (fun _ => 1) A out
  | _, [], out => Nat.le_refl _
  | s, v :: r, out => by
    have h1 := h v out
    have h2 := lst_len h [32] r (f v out).2
    rw [lstR]
    simp only at h2 ⊢
    omega
theorem val_len (A : List (Int × List (Int × Int))) : ∀ (n : Nat) (v : Int × Int) (out : List Int), (valR A n v out).2.length + lft (fun _ => 1) A (valR A n v out).2 ≤ out.length + lft (fun _ => 1) A out
  | 0, v, out => Nat.le_refl _
  | n + 1, v, out => by
    rw [valR]
    split
    · exact Nat.le_refl _
    · rename_i o ho
      split
      · exact Nat.le_refl _
      · rename_i hi
        have h1 := lft_one (fun _ => 1) ho hi
        have h2 := lst_len (A := A) (val_len A n) (sep0 o.1) o.2 (out ++ [v.2])
        simp only [List.length_append, List.length_singleton] at h2 ⊢
        omega
theorem wg_wt {wt wt' : Int × List (Int × Int) → Nat} (h : ∀ a, wt a ≤ wt' a) (met : Int → Bool) : ∀ (k : Nat) (A : List (Int × List (Int × Int))), wg wt met k A ≤ wg wt' met k A
  | _, [] => Nat.le_refl _
  | k, a :: r => by
    have := wg_wt h met (k + 1) r
    have := h a
    rw [wg, wg]
    split <;> omega
theorem reach_len (A : List (Int × List (Int × Int))) (x : List (Int × Int)) : (reachR A x).length ≤ lft wt2 A [] := by
  have h1 := lst_len (A := A) (val_len A (A.length + 1)) [] x []
  have h2 : lft (fun _ => 1) A [] ≤ lft wt2 A [] := wg_wt (fun a => by simp [wt2]) _ 0 A
  unfold reachR
  simp only [List.length_nil] at h1
  omega
end Go.Proofs.YtefkcmeeagflmaaDoor
namespace Go.Proofs.YtefkcmeeagflmaaDoor
open Go.RowKit
set_option linter.unusedVariables false
set_option linter.unusedSimpArgs false

theorem Same_any {W : World} {Ba Bb a b : Nat} {la ua ka na lb ub kb nb : Int} {sa sb : Value} {TA TB : List Thing} (RA : Rep W Ba a la ua sa ka na TA) (RB : Rep W Bb b lb ub sb kb nb TB) (fA : Fine TA) (fB : Fine TB)
    (xs ys : List (Int × Int)) (n m : Nat) (hxn : xs.length = n) (hyn : ys.length = m) (a1 a2 : Option Addr) (c1 c2 : Nat) (h1 : Lies W a1 xs) (h2 : Lies W a2 ys) (hn : (n : Int) ≤ 1000000)
    (wx : ∀ c, c ∈ xs → (Lit.int .i64 c.2).wf = true) (wy : ∀ c, c ∈ ys → (Lit.int .i64 c.2).wf = true) (hfew : xs.length + tot (TA.map Thing.abs) ≤ 1000000) :
    Calls Tryd.prog 12 #[.pointer (some ⟨a, 0, none⟩), .slice a1 n c1, .pointer (some ⟨b, 0, none⟩), .slice a2 m c2] W fun e W' => ∃ r, e = .returned (.bool r) ∧ (r = true ↔ Alike (TA.map Thing.abs) xs (TB.map Thing.abs) ys) ∧ Fr [] W W' := by
  by_cases hnm : n = m
  · subst hnm
    obtain ⟨res, hres⟩ := same_ends (TA.map Thing.abs) (TB.map Thing.abs) xs ys (by omega) 10000000 (by omega)
    refine (same_eq RA RB fA fB xs ys n hxn hyn a1 a2 c1 c2 h1 h2 hn wx wy 10000000 (by omega) res hres).mono ?_
    rintro e W' ⟨rfl, f⟩
    exact ⟨_, rfl, same_alike (by omega) hres, f⟩
  · refine (same_len W _ _ a1 a2 n m c1 c2 (by simp; omega)).mono ?_
    rintro e W' ⟨rfl, f⟩
    refine ⟨false, rfl, ⟨by simp, fun h => ?_⟩, f⟩
    obtain ⟨R, _, hx⟩ := h
    have := hx.len
    omega

theorem Reach_all {W : World} {Bh h : Nat} {lim used rk rn : Int} {svh : Value} {T : List Thing} (R : Rep W Bh h lim used svh rk rn T) (fT : Fine T)
    (xs : List (Int × Int)) (a1 : Option Addr) (n c1 : Nat) (hxn : xs.length = n) (hl : Lies W a1 xs) (hc1 : n ≤ c1) (hwx : ∀ x, x ∈ xs → (Lit.int .i64 x.2).wf = true) (hfew : xs.length + tot (T.map Thing.abs) ≤ 1000000) :
    Calls Tryd.prog 14 #[.pointer (some ⟨h, 0, none⟩), .slice a1 n c1] W fun e W' => ∃ v, e = .returned v ∧ Fr [] W W' ∧ W'.ownsRow W.heap.size 2 1 v (reachR (T.map Thing.abs) xs).length ((reachR (T.map Thing.abs) xs).map (Value.int .i64)) := by
  obtain ⟨k, c, hk, hrun⟩ := told_run (T.map Thing.abs) xs
  exact Reach_any R fT xs a1 n c1 hxn hl hc1 hwx k (by omega) _ _ _ hrun
end Go.Proofs.YtefkcmeeagflmaaDoor
namespace Go.Proofs.YtefkcmeeagflmaaDoor
open Go.RowKit
set_option linter.unusedVariables false
set_option linter.unusedSimpArgs false

theorem itoa_one (n : Nat) (h : n < 10) : Lib.itoa (n : Int) = [UInt8.ofNat (48 + n)] := by
  unfold Lib.itoa
  rw [if_neg (by omega)]
  simp only [Int.toNat_natCast]
  rw [Lib.decDigits_one h]
theorem itoa0 : Lib.itoa 0 = [48] := itoa_one 0 (by omega)
theorem itoa5 : Lib.itoa 5 = [53] := itoa_one 5 (by omega)

def exA : List (Int × List (Int × Int)) := [(0, [(0, 5), (2, 0)])]
theorem ex_reach : reachR exA [(2, 0)] = [0] := by
  simp [reachR, lstR, valR, exA, thingAt, idx, sep0]
theorem ex_show : showR exA [(2, 0)] = [64, 48, 123, 48, 32, 53, 32, 64, 48, 125] := by
  simp [showR, lstR, valR, exA, thingAt, idx, sep0, opn, cls, plainB, itoa0, itoa5]
theorem ex_alike : Alike exA [(2, 0)] exA [(2, 0)] := Alike.refl _ _
theorem ex_not : ¬ Alike exA [(2, 0)] exA [] := fun h => by
  obtain ⟨R, _, hx⟩ := h
  cases hx
end Go.Proofs.YtefkcmeeagflmaaDoor
