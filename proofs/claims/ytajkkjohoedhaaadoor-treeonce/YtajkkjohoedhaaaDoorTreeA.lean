/-
  Nodes in memory; what kids and texts each kind wants, and which lists of nodes are trees, in plain words; no condition.
-/
import Derived.Test.YtajkkjohoedhaaaDoorLexH
namespace Go.Proofs.YtajkkjohoedhaaaDoor
open Go.RowKit
set_option linter.unusedSimpArgs false

/-- A node: kind, text, where its kids' row lies and its room, the kids' numbers, place. -/
structure Nd where
  kind : Int
  text : ByteArray
  a : Option Addr
  c : Nat
  ks : List Int
  pl : Int

/-- Which kinds a letter takes; how many of the first kinds it takes; a small letter. -/
def kfit (c : Nat) (k : Int) : Bool :=
  if c = 98 then k == 4 else if c = 99 then k == 22 else if c = 100 then (k == 2 || k == 3) else if c = 101 then decide (15 ≤ k ∧ k ≤ 30)
  else if c = 110 then k == 17 else if c = 111 then (k == 4 || k == 14) else if c = 112 then (k == 17 || k == 20 || k == 21 || k == 30) else if c = 115 then decide (5 ≤ k ∧ k ≤ 13) else false
def cfit (c : Nat) : List Int → Nat
  | [] => 0
  | k :: r => if kfit c k then cfit c r + 1 else 0
def hfit (c : Nat) : List Int → Bool
  | [] => false
  | k :: _ => kfit c k
def lowN (c : Nat) : Nat := if 65 ≤ c ∧ c ≤ 90 then c + 32 else c
/-- Whether kinds are those that letters want. -/
def fitL : List UInt8 → List Int → Bool
  | [], ks => ks.isEmpty
  | c :: r, ks => if lowN c.toNat = c.toNat then (hfit c.toNat ks && fitL r (ks.drop 1)) else fitL r (ks.drop (cfit (lowN c.toNat) ks))

theorem cfit_le (c : Nat) (ks : List Int) : cfit c ks ≤ ks.length := by
  induction ks with
  | nil => simp [cfit]
  | cons k r ih => simp only [cfit, List.length_cons]; split <;> omega

/-- What a kind wants: which text, which kids. -/
def wantsL : List (Int × Nat × List UInt8) := [(1, 0, [68]), (2, 1, [78]), (3, 1, [78, 98]), (4, 0, [83]), (5, 1, [101]), (6, 0, [112, 101]), (7, 0, [101, 98, 111]), (8, 0, [101, 98]), (9, 0, [101]), (10, 0, [101]), (11, 0, [101]), (12, 0, [99]), (13, 0, [78]), (14, 0, []), (15, 2, []), (16, 0, []), (17, 1, []), (18, 3, [101]), (19, 4, [101, 101]), (20, 1, [101]), (21, 0, [101, 101]), (22, 1, [69]), (23, 1, []), (24, 0, [101]), (25, 0, [101]), (26, 0, []), (27, 0, [101]), (28, 0, []), (29, 0, [101]), (30, 0, [])]
def wantL (k : Int) : Option (Nat × List UInt8) := wantsL.lookup k

/-- The document's table of kids. -/
def isEx (k : Int) : Bool := decide (15 ≤ k ∧ k ≤ 30)
def isSt (k : Int) : Bool := decide (5 ≤ k ∧ k ≤ 13)
def shapeL (kind : Int) (ks : List Int) : Bool :=
  if kind = 1 then ks.all (fun k => k == 2 || k == 3)
  else if kind = 2 ∨ kind = 13 then ks.all (· == 17)
  else if kind = 3 then decide (0 < ks.length) && (ks.take (ks.length - 1)).all (· == 17) && decide (ks.getLastD 0 = 4)
  else if kind = 4 then ks.all isSt
  else if kind = 5 ∨ kind = 9 ∨ kind = 10 ∨ kind = 11 ∨ kind = 18 ∨ kind = 20 ∨ kind = 24 ∨ kind = 25 ∨ kind = 27 ∨ kind = 29 then ks.all isEx && decide (ks.length = 1)
  else if kind = 6 then ks.all isEx && decide (ks.length = 2) && (ks.headD 0 == 17 || ks.headD 0 == 20 || ks.headD 0 == 21 || ks.headD 0 == 30)
  else if kind = 7 then decide (ks.length = 3) && isEx (ks.getD 0 0) && (ks.getD 1 0 == 4) && (ks.getD 2 0 == 4 || ks.getD 2 0 == 14)
  else if kind = 8 then decide (ks.length = 2) && isEx (ks.getD 0 0) && (ks.getD 1 0 == 4)
  else if kind = 12 then decide (ks.length = 1) && (ks.getD 0 0 == 22)
  else if kind = 19 ∨ kind = 21 then ks.all isEx && decide (ks.length = 2)
  else if kind = 22 then ks.all isEx
  else if kind = 14 ∨ kind = 15 ∨ kind = 16 ∨ kind = 17 ∨ kind = 23 ∨ kind = 26 ∨ kind = 28 ∨ kind = 30 then decide (ks.length = 0)
  else false

theorem many (c : Nat) (ks : List Int) : (ks.drop (cfit c ks)).isEmpty = ks.all (kfit c) := by
  induction ks with
  | nil => rfl
  | cons k r ih =>
    simp only [cfit, List.all_cons]
    cases h : kfit c k with
    | true => simpa using ih
    | false => simp
theorem cfit0 (c : Nat) (ks : List Int) : cfit c ks ≠ 0 ↔ hfit c ks = true := by
  cases ks with
  | nil => simp [cfit, hfit]
  | cons k r =>
    simp only [cfit, hfit]
    by_cases h : kfit c k = true
    · simp [h]
    · simp [h]
theorem fn_fit (ks : List Int) : (hfit 98 (ks.drop (cfit 110 ks)) && ((ks.drop (cfit 110 ks)).drop 1).isEmpty) = (decide (0 < ks.length) && (ks.take (ks.length - 1)).all (· == 17) && decide (ks.getLastD 0 = 4)) := by
  induction ks with
  | nil => rfl
  | cons k r ih =>
    have e : kfit 110 k = (k == 17) := rfl
    have e' : kfit 98 k = (k == 4) := rfl
    simp only [cfit, e]
    cases h : (k == 17) with
    | true =>
      simp only [if_true, List.drop_succ_cons]
      rw [ih]
      have : k = 17 := by simpa using h
      subst this
      cases r with
      | nil => rfl
      | cons k2 r2 => simp
    | false =>
      simp only [Bool.false_eq_true, if_false, List.drop_zero, hfit, e', List.drop_succ_cons]
      cases r with
      | nil => cases h2 : (k == 4) <;> simp_all
      | cons k2 r2 => simp [h]

theorem lookup_want (k : Int) (h : k < 1 ∨ 30 < k) : wantL k = none := by
  have : ∀ l : List (Int × Nat × List UInt8), (∀ x ∈ l, x.1 ≠ k) → l.lookup k = none := by
    intro l hl
    induction l with
    | nil => rfl
    | cons x r ih =>
      obtain ⟨a, b⟩ := x
      have ha : a ≠ k := hl (a, b) (by simp)
      rw [List.lookup_cons]
      have : (k == a) = false := by simp; exact fun e => ha e.symm
      rw [this]
      exact ih (fun x hx => hl x (by simp [hx]))
  apply this
  intro x hx e
  have : ∀ x ∈ wantsL, 1 ≤ x.1 ∧ x.1 ≤ 30 := by decide
  have := this x hx
  omega

theorem shape_fit (k : Int) (t : Nat) (ls : List UInt8) (ks : List Int) (h : wantL k = some (t, ls)) : fitL ls ks = shapeL k ks := by
  have hk : 1 ≤ k ∧ k ≤ 30 := by
    refine Decidable.byContradiction fun hn => ?_
    rw [lookup_want k (by omega)] at h
    cases h
  have hc : k = 1 ∨ k = 2 ∨ k = 3 ∨ k = 4 ∨ k = 5 ∨ k = 6 ∨ k = 7 ∨ k = 8 ∨ k = 9 ∨ k = 10 ∨ k = 11 ∨ k = 12 ∨ k = 13 ∨ k = 14 ∨ k = 15 ∨ k = 16 ∨ k = 17 ∨ k = 18 ∨ k = 19 ∨ k = 20 ∨ k = 21 ∨ k = 22 ∨ k = 23 ∨ k = 24 ∨ k = 25 ∨ k = 26 ∨ k = 27 ∨ k = 28 ∨ k = 29 ∨ k = 30 := by omega
  have e1 : ∀ ks : List Int, fitL [101] ks = (ks.all isEx && decide (ks.length = 1)) := by
    intro ks
    match ks with
    | [] => rfl
    | [a] => simp [fitL, hfit, kfit, isEx, lowN]
    | a :: b :: r => simp [fitL, hfit, kfit, isEx, lowN]
  have e2 : ∀ ks : List Int, fitL [101, 101] ks = (ks.all isEx && decide (ks.length = 2)) := by
    intro ks
    match ks with
    | [] => rfl
    | [a] => simp [fitL, hfit, kfit, isEx, lowN]
    | [a, b] => simp [fitL, hfit, kfit, isEx, lowN]
    | a :: b :: c :: r => simp [fitL, hfit, kfit, isEx, lowN]
  have e3 : ∀ ks : List Int, fitL [101, 98] ks = (decide (ks.length = 2) && isEx (ks.getD 0 0) && (ks.getD 1 0 == 4)) := by
    intro ks
    match ks with
    | [] => rfl
    | [a] => simp [fitL, hfit, kfit, isEx, lowN]
    | [a, b] => simp [fitL, hfit, kfit, isEx, lowN]
    | a :: b :: c :: r => simp [fitL, hfit, kfit, isEx, lowN]
  have e4 : ∀ ks : List Int, fitL [101, 98, 111] ks = (decide (ks.length = 3) && isEx (ks.getD 0 0) && (ks.getD 1 0 == 4) && (ks.getD 2 0 == 4 || ks.getD 2 0 == 14)) := by
    intro ks
    match ks with
    | [] => rfl
    | [a] => simp [fitL, hfit, kfit, isEx, lowN]
    | [a, b] => simp [fitL, hfit, kfit, isEx, lowN]
    | [a, b, c] => simp [fitL, hfit, kfit, isEx, lowN, Bool.and_assoc]
    | a :: b :: c :: d :: r => simp [fitL, hfit, kfit, isEx, lowN]
  have e5 : ∀ ks : List Int, fitL [112, 101] ks = (ks.all isEx && decide (ks.length = 2) && (ks.headD 0 == 17 || ks.headD 0 == 20 || ks.headD 0 == 21 || ks.headD 0 == 30)) := by
    intro ks
    match ks with
    | [] => rfl
    | [a] => simp [fitL, hfit, kfit, isEx, lowN]
    | [a, b] =>
      simp [fitL, hfit, kfit, isEx, lowN]
      rw [Bool.eq_iff_iff]
      simp
      omega
    | a :: b :: c :: r => simp [fitL, hfit, kfit, isEx, lowN]
  have e6 : ∀ ks : List Int, fitL [99] ks = (decide (ks.length = 1) && (ks.getD 0 0 == 22)) := by
    intro ks
    match ks with
    | [] => rfl
    | [a] => simp [fitL, hfit, kfit, isEx, lowN]
    | a :: b :: r => simp [fitL, hfit, kfit, isEx, lowN]
  have e0 : ∀ ks : List Int, fitL [] ks = decide (ks.length = 0) := by
    intro ks
    cases ks <;> simp [fitL]
  rcases hc with rfl | rfl | rfl | rfl | rfl | rfl | rfl | rfl | rfl | rfl | rfl | rfl | rfl | rfl | rfl | rfl | rfl | rfl | rfl | rfl | rfl | rfl | rfl | rfl | rfl | rfl | rfl | rfl | rfl | rfl
  all_goals
    obtain ⟨rfl, rfl⟩ : t = _ ∧ ls = _ := by
      have := Option.some.inj h
      exact ⟨(congrArg Prod.fst this).symm, (congrArg Prod.snd this).symm⟩
    clear h
  case inr.inr.inl => exact fn_fit ks
  all_goals first
    | exact e0 ks
    | exact e1 ks
    | exact e2 ks
    | exact e3 ks
    | exact e4 ks
    | exact e5 ks
    | exact e6 ks
    | exact many 100 ks
    | exact many 110 ks
    | exact many 115 ks
    | exact many 101 ks
theorem fit_kind (ls : List UInt8) : ∀ ks : List Int, fitL ls ks = true → (1 : Int) ∉ ks := by
  have h1 : ∀ c, kfit c 1 = false := by
    intro c
    unfold kfit
    repeat (first | rfl | split)
  have hc : ∀ c (ks : List Int), (1 : Int) ∉ ks.take (cfit c ks) := by
    intro c ks
    induction ks with
    | nil => simp
    | cons k r ih =>
      simp only [cfit]
      cases h : kfit c k with
      | false => simp
      | true =>
        simp only [if_true, List.take_succ_cons, List.mem_cons, not_or]
        refine ⟨fun e => ?_, ih⟩
        rw [← e, h1] at h
        cases h
  induction ls with
  | nil => intro ks h; simp [fitL] at h; simp [h]
  | cons c r ih =>
    intro ks h
    simp only [fitL] at h
    split at h
    · simp only [Bool.and_eq_true] at h
      have h1' := (cfit0 _ _).2 h.1
      have h2 := ih _ h.2
      have h3 := hc c.toNat ks
      cases ks with
      | nil => simp
      | cons k q =>
        simp only [List.mem_cons, not_or]
        refine ⟨?_, by simpa using h2⟩
        have : cfit c.toNat (k :: q) = cfit c.toNat (k :: q) - 1 + 1 := by omega
        rw [this] at h3
        simp at h3
        exact h3.1
    · have h2 := ih _ h
      have h3 := hc (lowN c.toNat) ks
      rw [← List.take_append_drop (cfit (lowN c.toNat) ks) ks]
      simp only [List.mem_append, not_or]
      exact ⟨h3, h2⟩

/-- Numbers in a row. -/
def KAt (B : Nat) (w : World) (a : Option Addr) (ks : List Int) : Prop := ∀ (j : Nat) (k : Int), ks[j]? = some k → ∃ b o, a = some ⟨b, o, none⟩ ∧ b < B ∧ w.cell? ⟨b, o + j, none⟩ = some (.int .i64 k)
/-- A node's four cells. -/
structure NCell (B : Nat) (w : World) (b o : Nat) (x : Nd) : Prop where
  c0 : w.cell? ⟨b, o, none⟩ = some (.int .i64 x.kind)
  c1 : w.cell? ⟨b, o + 1, none⟩ = some (.string x.text)
  c2 : w.cell? ⟨b, o + 2, none⟩ = some (.slice x.a x.ks.length x.c)
  c3 : w.cell? ⟨b, o + 3, none⟩ = some (.int .i64 x.pl)
  k : KAt B w x.a x.ks
  t : x.text.size ≤ maxLen
  kl : x.ks.length ≤ maxLen
  kc : x.ks.length ≤ x.c
  kn : x.a = none → x.c = 0
/-- Nodes in a row. -/
def NAt (B : Nat) (w : World) (a : Option Addr) (L : List Nd) : Prop := ∀ (i : Nat) (x : Nd), L[i]? = some x → ∃ b o, a = some ⟨b, o, none⟩ ∧ b < B ∧ NCell B w b (o + i * 4) x

theorem KAt.fr {B : Nat} {S : List Nat} {w w' : World} {a : Option Addr} {ks : List Int} (h : KAt B w a ks) (f : Fr S w w') (hS : ∀ k, k ∈ S → B ≤ k) : KAt B w' a ks := fun j k hk => by
  obtain ⟨b, o, e, hb, hc⟩ := h j k hk
  exact ⟨b, o, e, hb, f.cell1 hc (fun hm => by have := hS _ hm; simp at this; omega)⟩
theorem NCell.fr {B : Nat} {S : List Nat} {w w' : World} {b o : Nat} {x : Nd} (h : NCell B w b o x) (f : Fr S w w') (hb : b < B) (hS : ∀ k, k ∈ S → B ≤ k) : NCell B w' b o x := by
  have hn : b ∉ S := fun hm => by have := hS _ hm; omega
  exact ⟨f.cell1 h.c0 hn, f.cell1 h.c1 hn, f.cell1 h.c2 hn, f.cell1 h.c3 hn, h.k.fr f hS, h.t, h.kl, h.kc, h.kn⟩
theorem NAt.fr {B : Nat} {S : List Nat} {w w' : World} {a : Option Addr} {L : List Nd} (h : NAt B w a L) (f : Fr S w w') (hS : ∀ k, k ∈ S → B ≤ k) : NAt B w' a L := fun i x hx => by
  obtain ⟨b, o, e, hb, hc⟩ := h i x hx
  exact ⟨b, o, e, hb, hc.fr f hb hS⟩

/-- Which texts a node may have. -/
def decL (s : ByteArray) : Bool := (num s).isSome && (decide (s.data.toList = [48]) || decide (49 ≤ (s.data.toList.headD 0).toNat ∧ (s.data.toList.headD 0).toNat ≤ 57))
def unaries : List (List UInt8) := [[45], [33], [126]]
def binaries : List (List UInt8) := [[43], [45], [42], [47], [37], [60, 60], [62, 62], [38], [94], [124], [61, 61], [33, 61], [60], [60, 61]]
def unL (s : ByteArray) : Bool := unaries.contains s.data.toList
def binL (s : ByteArray) : Bool := binaries.contains s.data.toList
def noneL (s : ByteArray) : Bool := s.data.toList.isEmpty
def textL (t : Nat) (s : ByteArray) : Bool :=
  if t = 1 then name s else if t = 2 then decL s else if t = 3 then unL s else if t = 4 then binL s else noneL s

/-- The kind of a node by its number. -/
def kd (L : List Nd) (k : Int) : Int := match L[k.toNat]? with | some x => x.kind | none => 0

/-- Kids are marked; none, if one isn't ahead or is taken already. -/
def takeL (n : Nat) : List Int → List Bool → Option (List Bool)
  | [], T => some T
  | k :: r, T => if k < 0 ∨ (n : Int) ≤ k ∨ T.getD k.toNat false = true then none else takeL n r (T.set k.toNat true)

/-- One node: its error, or what is taken behind it. -/
def nodeE (L : List Nd) (n : Nat) (x : Nd) (T : List Bool) : Except Nat (List Bool) :=
  match wantL x.kind with
  | none => .error 50
  | some (t, ls) =>
    if x.pl < 0 then .error 50
    else match takeL n x.ks T with
      | none => .error 50
      | some T' => if textL t x.text = false then .error 52 else if fitL ls (x.ks.map (kd L)) = false then .error 53 else .ok T'

/-- The first n nodes: the first that is wrong and its error, or what is taken. -/
def nodesL (L : List Nd) : Nat → Except (Nat × Nat) (List Bool)
  | 0 => .ok (List.replicate L.length false)
  | n + 1 => match nodesL L n with
    | .error e => .error e
    | .ok T => match L[n]? with
      | none => .ok T
      | some x => match nodeE L n x T with
        | .error e => .error (n, e)
        | .ok T' => .ok T'

/-- How deep: of each node, behind its kids'. -/
def kidD (D : List Nat) (n : Nat) : List Int → Nat → Nat
  | [], d => d
  | k :: r, d => kidD D n r (if 0 ≤ k ∧ k < n then max d (1 + D.getD k.toNat 0) else d)
def depths (L : List Nd) : Nat → List Nat
  | 0 => []
  | n + 1 => depths L n ++ [match L[n]? with | some x => kidD (depths L n) n x.ks 1 | none => 0]
def deepL (L : List Nd) : Nat := (depths L L.length).getD (L.length - 1) 0

def checkL (L : List Nd) : Nat × Nat :=
  if 50000 < L.length then (0, 2)
  else match nodesL L L.length with
    | .error e => e
    | .ok T =>
      if L.length = 0 then (0, 50)
      else if kd L ((L.length - 1 : Nat) : Int) ≠ 1 ∨ (T.take (L.length - 1)).contains false = true then (L.length - 1, 50)
      else if 200 < deepL L then (0, 51) else (0, 0)

theorem take_length {n : Nat} : ∀ (ks : List Int) (T T' : List Bool), takeL n ks T = some T' → T'.length = T.length
  | [], T, T', h => by simp [takeL] at h; rw [h]
  | k :: r, T, T', h => by
    simp only [takeL] at h
    split at h
    · cases h
    · rw [take_length r _ _ h]; simp
theorem node_length {L : List Nd} {n : Nat} {x : Nd} {T T' : List Bool} (h : nodeE L n x T = .ok T') : T'.length = T.length := by
  unfold nodeE at h
  repeat (split at h <;> try (cases h))
  exact take_length _ _ _ (by assumption)
theorem nodes_length {L : List Nd} : ∀ (n : Nat) (T : List Bool), nodesL L n = .ok T → T.length = L.length
  | 0, T, h => by simp [nodesL] at h; rw [← h]; simp
  | n + 1, T, h => by
    unfold nodesL at h
    split at h
    · cases h
    · rename_i T0 h0
      have ih := nodes_length n T0 h0
      split at h
      · cases h; exact ih
      · split at h
        · cases h
        · rename_i T1 h1
          cases h
          rw [node_length h1, ih]
theorem nodes_stop {L : List Nd} {n : Nat} {e : Nat × Nat} (h : nodesL L n = .error e) : ∀ (m : Nat), n ≤ m → nodesL L m = .error e := by
  intro m hm
  induction m with
  | zero => have : n = 0 := by omega
            subst this; exact h
  | succ m ih =>
    by_cases hn : n = m + 1
    · subst hn; exact h
    · unfold nodesL; rw [ih (by omega)]
theorem nodes_err {L : List Nd} {n : Nat} {x : Nd} {T : List Bool} {e : Nat} (h : nodesL L n = .ok T) (hx : L[n]? = some x) (he : nodeE L n x T = .error e) : nodesL L L.length = .error (n, e) := by
  refine nodes_stop (n := n + 1) ?_ _ (by have := (List.getElem?_eq_some_iff.1 hx).1; omega)
  unfold nodesL
  rw [h, hx]
  simp only [he]
theorem nodes_ok {L : List Nd} {n : Nat} {x : Nd} {T T' : List Bool} (h : nodesL L n = .ok T) (hx : L[n]? = some x) (he : nodeE L n x T = .ok T') : nodesL L (n + 1) = .ok T' := by
  unfold nodesL
  rw [h, hx]
  simp only [he]
theorem depths_length (L : List Nd) : ∀ n, (depths L n).length = n
  | 0 => rfl
  | n + 1 => by simp [depths, depths_length L n]
theorem kidD_le {D : List Nat} {n m : Nat} (hD : ∀ d ∈ D, d ≤ m) : ∀ (ks : List Int) (d : Nat), d ≤ m + 1 → kidD D n ks d ≤ m + 1
  | [], d, h => h
  | k :: r, d, h => by
    refine kidD_le hD r _ ?_
    split
    · have : D.getD k.toNat 0 ≤ m := by
        rw [List.getD_eq_getElem?_getD]
        cases hq : D[k.toNat]? with
        | none => simp
        | some q => simpa using hD q (List.mem_of_getElem? hq)
      omega
    · exact h
theorem depths_le (L : List Nd) : ∀ n, ∀ d ∈ depths L n, d ≤ n
  | 0, d, h => by simp [depths] at h
  | n + 1, d, h => by
    simp only [depths, List.mem_append, List.mem_singleton] at h
    rcases h with h | h
    · have := depths_le L n d h; omega
    · rw [h]
      split
      · exact kidD_le (depths_le L n) _ _ (by omega)
      · omega
theorem getD_le {l : List Nat} {m : Nat} (h : ∀ d ∈ l, d ≤ m) (i : Nat) : l.getD i 0 ≤ m := by
  rw [List.getD_eq_getElem?_getD]
  cases hq : l[i]? with
  | none => simp
  | some q => simpa using h q (List.mem_of_getElem? hq)
theorem deepL_le (L : List Nd) : deepL L ≤ L.length := getD_le (depths_le L L.length) _
end Go.Proofs.YtajkkjohoedhaaaDoor
