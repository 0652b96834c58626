/-
  What each of the parser's calls does, by how many steps are left; conditions: the parser lies as told.
-/
import Derived.Test.YtekjfddcbcijdaaGreatDoorParD
namespace Go.Proofs.YtekjfddcbcijdaaGreatDoor
open Go.RowKit
set_option linter.unusedVariables false
set_option linter.unusedSimpArgs false

/-- From a world to a later one: what is one's own may have changed, and may be more. -/
structure Tr (F : List Nat) (w : World) (F' : List Nat) (w' : World) : Prop where
  f : Fr F w w'
  s : ∀ k ∈ F', k ∈ F ∨ w.heap.size ≤ k
theorem Tr.trans {F F1 F2 : List Nat} {w w1 w2 : World} (h : Tr F w F1 w1) (k : Tr F1 w1 F2 w2) : Tr F w F2 w2 := by
  have hs : ∀ j ∈ F1, j ∈ F ∨ w.heap.size ≤ j := h.s
  refine ⟨⟨k.f.os.trans h.f.os, k.f.tape.trans h.f.tape, k.f.output.trans h.f.output, Nat.le_trans h.f.size k.f.size, fun j hj hF => ?_⟩, fun j hj => ?_⟩
  · rw [k.f.block j (Nat.lt_of_lt_of_le hj h.f.size) (fun hm => by rcases hs j hm with h1 | h1; exact hF h1; omega)]
    exact h.f.block j hj hF
  · rcases k.s j hj with h1 | h1
    · exact hs j h1
    · have := h.f.size
      exact .inr (by omega)
theorem Tr.of {F : List Nat} {w w' : World} (f : Fr F w w') : Tr F w F w' := ⟨f, fun k hk => .inl hk⟩
theorem Tr.of0 {F : List Nat} {w w' : World} (f : Fr [] w w') : Tr F w F w' := ⟨f.sub (by simp), fun k hk => .inl hk⟩
theorem Tr.refl (F : List Nat) (w : World) : Tr F w F w := Tr.of (Fr.refl _ _)
theorem Tr.ends {F F1 : List Nat} {w w1 w2 : World} (h : Tr F w F1 w1) (k : Fr F1 w1 w2) : Fr F w w2 := (h.trans (Tr.of k)).f

/-- How a call comes out that answers a node's number. -/
def PostS (ts : List Tok) (B pb : Nat) (F : List Nat) (w : World) : Except Nat (List Nat × Nat × List PN) → Ending → World → Prop
  | .ok (v, j, ms), e, w' => e = .returned (.int .i64 (hd v : Nat)) ∧ ∃ F', PS ts B pb F' j ms w' ∧ Tr F w F' w'
  | .error k, e, w' => e = thrown ts k ∧ Fr F w w'
/-- How a call comes out that answers a list of them. -/
def PostL (ts : List Tok) (B pb : Nat) (F : List Nat) (w : World) : Except Nat (List Nat × Nat × List PN) → Ending → World → Prop
  | .ok (v, j, ms), e, w' => ∃ u F', e = .returned u ∧ ON w' B u v ∧ (∀ k, u.ownBlock = some k → k ∉ F' ∧ w.heap.size ≤ k) ∧ PS ts B pb F' j ms w' ∧ Tr F w F' w'
  | .error k, e, w' => e = thrown ts k ∧ Fr F w w'

theorem bindR_some {r0 : R} {k : List Nat → Nat → List PN → R} {r : Except Nat (List Nat × Nat × List PN)} (h : bindR r0 k = some r) : (∃ e, r0 = some (.error e) ∧ r = .error e) ∨ ∃ v j ms, r0 = some (.ok (v, j, ms)) ∧ k v j ms = some r := by
  cases r0 with
  | none => cases h
  | some x =>
    cases x with
    | error e => cases h; exact .inl ⟨e, rfl, rfl⟩
    | ok x => obtain ⟨v, j, ms⟩ := x; exact .inr ⟨v, j, ms, rfl, h⟩

def ptr (pb : Nat) : Value := .pointer (some ⟨pb, 0, none⟩)
/-- What is said of each. -/
def Ctr (ts : List Tok) (B pb : Nat) (F : List Nat) (w : World) (r : Except Nat (List Nat × Nat × List PN)) : NT → Prop
  | .prog => Calls Tryz.prog 16 #[ptr pb] w (PostS ts B pb F w r)
  | .decl => ∀ g, RM w g declM → Calls Tryz.prog 42 #[ptr pb, .map (some g)] w (PostS ts B pb F w r)
  | .first => ∀ g, RM w g firstM → Calls Tryz.prog 42 #[ptr pb, .map (some g)] w (PostS ts B pb F w r)
  | .recd => Calls Tryz.prog 20 #[ptr pb] w (PostS ts B pb F w r)
  | .func => Calls Tryz.prog 21 #[ptr pb] w (PostS ts B pb F w r)
  | .name => Calls Tryz.prog 55 #[ptr pb] w (PostS ts B pb F w r)
  | .block _ => Calls Tryz.prog 56 #[ptr pb] w (PostS ts B pb F w r)
  | .stmt => Calls Tryz.prog 71 #[ptr pb] w (PostS ts B pb F w r)
  | .letS => Calls Tryz.prog 22 #[ptr pb] w (PostS ts B pb F w r)
  | .choice => Calls Tryz.prog 23 #[ptr pb] w (PostS ts B pb F w r)
  | .other => Calls Tryz.prog 58 #[ptr pb] w (PostS ts B pb F w r)
  | .whileS => Calls Tryz.prog 24 #[ptr pb] w (PostS ts B pb F w r)
  | .worded k => Calls Tryz.prog 59 #[ptr pb, .int .i64 (k : Nat)] w (PostS ts B pb F w r)
  | .merge => Calls Tryz.prog 28 #[ptr pb] w (PostS ts B pb F w r)
  | .setOrDo => Calls Tryz.prog 81 #[ptr pb] w (PostS ts B pb F w r)
  | .setS p => Calls Tryz.prog 92 #[ptr pb, .int .i64 (p : Nat)] w (PostS ts B pb F w r)
  | .expr => Calls Tryz.prog 57 #[ptr pb] w (PostS ts B pb F w r)
  | .chain l => Calls Tryz.prog 72 #[ptr pb, .int .i64 (l : Nat)] w (PostS ts B pb F w r)
  | .joined n l => Calls Tryz.prog 74 #[ptr pb, .int .i64 (n : Nat), .int .i64 (l : Nat)] w (PostS ts B pb F w r)
  | .signed => Calls Tryz.prog 82 #[ptr pb] w (PostS ts B pb F w r)
  | .back => Calls Tryz.prog 90 #[ptr pb] w (PostS ts B pb F w r)
  | .field n => Calls Tryz.prog 100 #[ptr pb, .int .i64 (n : Nat)] w (PostS ts B pb F w r)
  | .elem n => Calls Tryz.prog 101 #[ptr pb, .int .i64 (n : Nat)] w (PostS ts B pb F w r)
  | .number => Calls Tryz.prog 29 #[ptr pb] w (PostS ts B pb F w r)
  | .nameOrCall => Calls Tryz.prog 30 #[ptr pb] w (PostS ts B pb F w r)
  | .made => Calls Tryz.prog 33 #[ptr pb] w (PostS ts B pb F w r)
  | .alone k => Calls Tryz.prog 62 #[ptr pb, .int .i64 (k : Nat)] w (PostS ts B pb F w r)
  | .empty k => Calls Tryz.prog 64 #[ptr pb, .int .i64 (k : Nat)] w (PostS ts B pb F w r)
  | .about k => Calls Tryz.prog 63 #[ptr pb, .int .i64 (k : Nat)] w (PostS ts B pb F w r)
  | .brack => Calls Tryz.prog 40 #[ptr pb] w (PostS ts B pb F w r)
  | .listed thing closing => Calls Tryz.prog 54 #[ptr pb, .func (.func (if thing then 57 else 55)) #[] #[], .string ⟨closing.toArray⟩] w (PostL ts B pb F w r)
  | _ => True

/-- All of it, with at most so many steps left. -/
def Hyp (ts : List Tok) (B pb f : Nat) : Prop := ∀ (g : Nat) (nt : NT) (i : Nat) (ns : List PN) (w : World) (F : List Nat) (r : Except Nat (List Nat × Nat × List PN)), g ≤ f → PS ts B pb F i ns w → Tabs w → preN ts i ns nt → ns.length ≤ 2 * i + 1 → P ts g nt i ns = some r → Ctr ts B pb F w r nt

theorem PS.tabs {ts : List Tok} {B pb : Nat} {F : List Nat} {i : Nat} {ns : List PN} {w w' : World} (h : PS ts B pb F i ns w) (T : Tabs w) (f : Fr F w w') : Tabs w' := T.fr f (fun k hk => by have := h.fb k hk; have := h.lo; omega)

/-- What a run says of where it ends. -/
theorem run_ok {ts : List Tok} (hT : Toks ts) {g : Nat} {nt : NT} {i : Nat} {ns : List PN} {v : List Nat} {j : Nat} {ms : List PN} (hi : i < ts.length) (hp : preN ts i ns nt) (h : P ts g nt i ns = some (.ok (v, j, ms))) : i + consN nt ≤ j ∧ j < ts.length ∧ ns.length ≤ ms.length ∧ ms.length ≤ ns.length + 2 * (j - i) + slack nt ∧ (single nt = true → ∃ n, v = [n] ∧ n < ms.length) := (good hT g nt i ns hi hp).2.2 v j ms h

theorem Tr.notin {F F' : List Nat} {w w' : World} {b : Nat} (h : Tr F w F' w') (hb : b ∉ F) (hw : b < w.heap.size) : b ∉ F' := fun hm => by
  rcases h.s b hm with h1 | h1
  · exact hb h1
  · omega
theorem wantR_no {ts : List Tok} {what : List UInt8} {i : Nat} {k : R} (h : ¬ nx ts i = what) : wantR ts what i k = some (.error i) := if_neg h
theorem wantR_yes {ts : List Tok} {what : List UInt8} {i : Nat} {k : R} (h : nx ts i = what) : wantR ts what i k = k := if_pos h
theorem fld2 (a b c d : Int) (s : ByteArray) (W : World) : (Instr.field 43 (.agg #[.int .i64 a, .string s, .int .i64 b, .int .i64 c, .int .i64 d]) 2).run Tryz.prog W = .ok (.int .i64 b) W := by kernel_rfl
theorem own_mem {g n c k : Nat} (h : k ∈ (Value.slice (some ⟨g, 0, none⟩) n c).ownBlock.toList) : k = g := by
  simp [Value.ownBlock] at h
  first | exact h | exact h.symm
theorem lay_tr {F F1 G Fz : List Nat} {w w1 wz : World} (t : Tr F w F1 w1) (fz : Fr F1 w1 wz) (sz : ∀ k ∈ Fz, k ∈ F1 ∨ k ∈ G ∨ w1.heap.size ≤ k) (LO : ∀ k ∈ G, w.heap.size ≤ k) : Tr F w Fz wz :=
  ⟨t.ends fz, fun k hk => by
    rcases sz k hk with h | h | h
    · exact t.s k h
    · exact .inr (LO k h)
    · have := t.f.size
      exact .inr (by omega)⟩

end Go.Proofs.YtekjfddcbcijdaaGreatDoor
