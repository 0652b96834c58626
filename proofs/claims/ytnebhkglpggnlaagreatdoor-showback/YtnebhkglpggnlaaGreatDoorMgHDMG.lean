/-
  Texts of the proof, in their order: ParC, ParD, ParE, ParF, ParG, ParH, ParI, ParJ, ParL, ParN, ParO, ParQ, ParK; conditions: as each says.
-/
import Derived.Deep.RegionHeld3
import Derived.RegionDies
import Derived.Shelf.Abstract
import Derived.Test.YtnebhkglpggnlaaGreatDoorMgOBIA
namespace Go.Proofs.YtnebhkglpggnlaaGreatDoor
open Go.RowKit
set_option linter.unusedVariables false
set_option linter.unusedSimpArgs false

/-- A node in memory: where its kids' row lies, and its room. -/
structure MN where
  x : PN
  a : Option Addr
  c : Nat
def MN.cells (m : MN) : List Value := [.int .i64 m.x.kind, .string ⟨m.x.text.toArray⟩, .slice m.a m.x.kids.length m.c, .int .i64 m.x.pl]
def flatM : List MN → List Value
  | [] => []
  | m :: r => m.cells ++ flatM r
theorem flatM_append (a b : List MN) : flatM (a ++ b) = flatM a ++ flatM b := by
  induction a with
  | nil => rfl
  | cons t r ih => simp [flatM, ih]
theorem flatM_len (a : List MN) : (flatM a).length = a.length * 4 := by
  induction a with
  | nil => rfl
  | cons t r ih => simp [flatM, ih, MN.cells]; omega
theorem flatM_get {L : List MN} : ∀ {i : Nat} {m : MN}, L[i]? = some m → ∀ j, j < 4 → (flatM L)[i * 4 + j]? = m.cells[j]? := by
  induction L with
  | nil => intro i m h; simp at h
  | cons s r ih =>
    intro i m h j hj
    cases i with
    | zero =>
      simp at h
      subst h
      simp only [flatM, Nat.zero_mul, Nat.zero_add]
      rw [List.getElem?_append_left (by simp [MN.cells]; omega)]
    | succ i =>
      have := ih (i := i) (m := m) (by simpa using h) j hj
      simp only [flatM]
      rw [List.getElem?_append_right (by simp [MN.cells]; omega)]
      rw [show (i + 1) * 4 + j - s.cells.length = i * 4 + j from by simp [MN.cells]; omega]
      exact this
theorem flatT_get {ts : List Tok} : ∀ {i : Nat} {t : Tok}, ts[i]? = some t → ∀ j, j < 5 → (flatT ts)[i * 5 + j]? = (tokA t).toList[j]? := by
  induction ts with
  | nil => intro i m h; simp at h
  | cons s r ih =>
    intro i m h j hj
    cases i with
    | zero =>
      simp at h
      subst h
      simp only [flatT, Nat.zero_mul, Nat.zero_add]
      rw [List.getElem?_append_left (by simp [tokA]; omega)]
    | succ i =>
      have := ih (i := i) (t := m) (by simpa using h) j hj
      simp only [flatT]
      rw [List.getElem?_append_right (by simp [tokA]; omega)]
      rw [show (i + 1) * 5 + j - (tokA s).toList.length = i * 5 + j from by simp [tokA]; omega]
      exact this

/-- A node's kids, in memory. -/
def KRow (w : World) (F : List Nat) (m : MN) : Prop :=
  (m.x.kids.length ≤ m.c ∧ m.c ≤ maxLen) ∧ (m.a = none → m.c = 0) ∧ ∀ (j k : Nat), m.x.kids[j]? = some k → ∃ (b o : Nat) (c : Array Value) (z : Nat × Nat), m.a = some ⟨b, o, none⟩ ∧ b ∈ F ∧ w.heap[b]? = some (.cells c 3 z) ∧ c[o + j]? = some (.int .i64 (k : Nat))
/-- Tokens in memory. -/
def TRow (w : World) (g : Nat) (ts : List Tok) : Prop := ∃ (c : Array Value) (z : Nat × Nat), w.heap[g]? = some (.cells c 51 z) ∧ ∀ (j : Nat) (u : Value), (flatT ts)[j]? = some u → c[j]? = some u

section
variable {ts : List Tok} {B pb : Nat} {F : List Nat} {i : Nat} {ns : List PN} {w w' : World}
end

theorem tk_get {ts : List Tok} {i : Nat} (h : i < ts.length) : ts[i]? = some (tk ts i) := by
  unfold tk
  rw [List.getD_eq_getElem?_getD, List.getElem?_eq_getElem h]
  rfl
theorem TRow.cell {w : World} {g : Nat} {ts : List Tok} (h : TRow w g ts) {i : Nat} (hi : i < ts.length) {j : Nat} (hj : j < 5) {u : Value} (hu : (tokA (tk ts i)).toList[j]? = some u) : w.cell? ⟨g, i * 5 + j, none⟩ = some u := by
  obtain ⟨c, z, h1, h2⟩ := h
  have := h2 (i * 5 + j) u (by rw [flatT_get (tk_get hi) j hj]; exact hu)
  simp [World.cell?, h1, this]
end Go.Proofs.YtnebhkglpggnlaaGreatDoor
namespace Go.Proofs.YtnebhkglpggnlaaGreatDoor
open Go.RowKit
set_option linter.unusedVariables false
set_option linter.unusedSimpArgs false

/-- Kids' numbers in a row of their own. -/
structure KV (B : Nat) (w : World) (v : Value) (ks : List Nat) (G : List Nat) : Prop where
  ex : ∃ a c, v = .slice a ks.length c ∧ (ks.length ≤ c ∧ c ≤ maxLen) ∧ (a = none → c = 0) ∧ ∀ (j k : Nat), ks[j]? = some k → ∃ (b o : Nat) (cc : Array Value) (z : Nat × Nat), a = some ⟨b, o, none⟩ ∧ b ∈ G ∧ w.heap[b]? = some (.cells cc 3 z) ∧ cc[o + j]? = some (.int .i64 (k : Nat))
  lo : ∀ b ∈ G, B ≤ b ∧ b < w.heap.size
theorem KV.nil (B : Nat) (w : World) : KV B w (.slice none 0 0) [] [] := ⟨⟨none, 0, rfl, ⟨by simp, Nat.zero_le _⟩, fun _ => rfl, fun j k h => by simp at h⟩, by simp⟩
theorem KV.fr {B : Nat} {w w' : World} {v : Value} {ks G S : List Nat} (h : KV B w v ks G) (f : Fr S w w') (hS : ∀ k ∈ S, k ∉ G) : KV B w' v ks G := by
  obtain ⟨⟨a, c, h1, h2, h3, h4⟩, h5⟩ := h
  refine ⟨⟨a, c, h1, h2, h3, fun j k hk => ?_⟩, fun b hb => ⟨(h5 b hb).1, Nat.lt_of_lt_of_le (h5 b hb).2 f.size⟩⟩
  obtain ⟨b, o, cc, z, e1, e2, e3, e4⟩ := h4 j k hk
  exact ⟨b, o, cc, z, e1, e2, (f.block _ (Array.getElem?_eq_some_iff.1 e3).1 (fun hm => hS b hm e2)).trans e3, e4⟩
/-- A row of numbers of one's own, that grows. -/
def ON (w : World) (B : Nat) (v : Value) (ks : List Nat) : Prop := w.ownsRow B 3 1 v ks.length (ks.map (fun k => Value.int .i64 (k : Nat)))
theorem ON.nil (w : World) (B : Nat) : ON w B (.slice none 0 0) [] := World.ownsRow_nil _ _ _ _
theorem ON.kv {w : World} {B : Nat} {v : Value} {ks : List Nat} (h : ON w B v ks) : KV B w v ks v.ownBlock.toList := by
  refine ⟨?_, fun b hb => h.lt b (by simpa using hb)⟩
  obtain ⟨h1, h2⟩ := h
  rcases h2 with ⟨e, h0⟩ | ⟨g, cap, cur, e, hb, hg, hc, hm, hs, ht⟩
  · exact ⟨none, 0, by rw [h0]; exact e, ⟨by omega, Nat.zero_le _⟩, fun _ => rfl, fun j k hk => by have := (List.getElem?_eq_some_iff.1 hk).1; omega⟩
  · refine ⟨some ⟨g, 0, none⟩, cap, e, ⟨hc, hm⟩, (fun h => by cases h), fun j k hk => ⟨g, 0, cur, (0, 0), rfl, by rw [e]; simp [Value.ownBlock], hg, ?_⟩⟩
    have hlt := (List.getElem?_eq_some_iff.1 hk).1
    have : (cur.toList.take (ks.length * 1))[j]? = (ks.map (fun k => Value.int .i64 (k : Nat)))[j]? := by rw [ht]
    rw [List.getElem?_take_of_lt (by omega)] at this
    rw [Nat.zero_add]
    simpa [hk] using this
/-- Some numbers built at once. -/
theorem ON.built (w : World) (B : Nat) (hB : B ≤ w.heap.size) (ks : List Nat) (hk : ks.length ≤ 3) : ON (w.alloc (.cells (ks.map (fun k => Value.int .i64 (k : Nat))).toArray 3)) B (.slice (some ⟨w.heap.size, 0, none⟩) ks.length ks.length) ks := by
  refine ⟨by simp, .inr ⟨w.heap.size, ks.length, (ks.map (fun k => Value.int .i64 (k : Nat))).toArray, rfl, hB, heap_alloc_new w _, Nat.le_refl _, by unfold maxLen; omega, by simp, ?_⟩⟩
  simp [List.take_of_length_le]

theorem under23 : Tryz.prog.underlying 22 = some (.slice 36) := by kernel_rfl
theorem info37 : (Tryz.prog.info? 36).map (fun i => (i.zero, i.size, i.bytes)) = some (some (.agg #[.int .i64 0, .string ⟨#[]⟩, .slice none 0 0, .int .i64 0]), 4, 56) := by kernel_rfl

end Go.Proofs.YtnebhkglpggnlaaGreatDoor
namespace Go.Proofs.YtnebhkglpggnlaaGreatDoor
open Go.RowKit
set_option linter.unusedVariables false
set_option linter.unusedSimpArgs false

/-- From a world to a later one: what is one's own may have changed, and may be more. -/
structure Tr (F : List Nat) (w : World) (F' : List Nat) (w' : World) : Prop where
  f : Fr F w w'
  s : ∀ k ∈ F', k ∈ F ∨ w.heap.size ≤ k
theorem Tr.trans {F F1 F2 : List Nat} {w w1 w2 : World} (h : Tr F w F1 w1) (k : Tr F1 w1 F2 w2) : Tr F w F2 w2 := by
  have hs : ∀ j ∈ F1, j ∈ F ∨ w.heap.size ≤ j := h.s
  refine ⟨⟨k.f.os.trans h.f.os, k.f.tape.trans h.f.tape, k.f.output.trans h.f.output, Nat.le_trans h.f.size k.f.size, fun j hj hF => ?_⟩, fun j hj => ?_⟩
  · rw [k.f.block j (Nat.lt_of_lt_of_le hj h.f.size) (fun hm => by rcases hs j hm with h1 | h1; exact hF h1; omega)]
    exact h.f.block j hj hF
  · rcases k.s j hj with h1 | h1
    · exact hs j h1
    · have := h.f.size
      exact .inr (by omega)
theorem Tr.of {F : List Nat} {w w' : World} (f : Fr F w w') : Tr F w F w' := ⟨f, fun k hk => .inl hk⟩
theorem Tr.of0 {F : List Nat} {w w' : World} (f : Fr [] w w') : Tr F w F w' := ⟨f.sub (by simp), fun k hk => .inl hk⟩
theorem Tr.refl (F : List Nat) (w : World) : Tr F w F w := Tr.of (Fr.refl _ _)
theorem Tr.ends {F F1 : List Nat} {w w1 w2 : World} (h : Tr F w F1 w1) (k : Fr F1 w1 w2) : Fr F w w2 := (h.trans (Tr.of k)).f

theorem bindR_some {r0 : R} {k : List Nat → Nat → List PN → R} {r : Except Nat (List Nat × Nat × List PN)} (h : bindR r0 k = some r) : (∃ e, r0 = some (.error e) ∧ r = .error e) ∨ ∃ v j ms, r0 = some (.ok (v, j, ms)) ∧ k v j ms = some r := by
  cases r0 with
  | none => cases h
  | some x =>
    cases x with
    | error e => cases h; exact .inl ⟨e, rfl, rfl⟩
    | ok x => obtain ⟨v, j, ms⟩ := x; exact .inr ⟨v, j, ms, rfl, h⟩

def ptr (pb : Nat) : Value := .pointer (some ⟨pb, 0, none⟩)
/-- What a run says of where it ends. -/
theorem run_ok {ts : List Tok} (hT : Toks ts) {g : Nat} {nt : NT} {i : Nat} {ns : List PN} {v : List Nat} {j : Nat} {ms : List PN} (hi : i < ts.length) (hp : preN ts i ns nt) (h : P ts g nt i ns = some (.ok (v, j, ms))) : i + consN nt ≤ j ∧ j < ts.length ∧ ns.length ≤ ms.length ∧ ms.length ≤ ns.length + 2 * (j - i) + slack nt ∧ (single nt = true → ∃ n, v = [n] ∧ n < ms.length) := (good hT g nt i ns hi hp).2.2 v j ms h

theorem Tr.notin {F F' : List Nat} {w w' : World} {b : Nat} (h : Tr F w F' w') (hb : b ∉ F) (hw : b < w.heap.size) : b ∉ F' := fun hm => by
  rcases h.s b hm with h1 | h1
  · exact hb h1
  · omega
theorem wantR_no {ts : List Tok} {what : List UInt8} {i : Nat} {k : R} (h : ¬ nx ts i = what) : wantR ts what i k = some (.error i) := if_neg h
theorem wantR_yes {ts : List Tok} {what : List UInt8} {i : Nat} {k : R} (h : nx ts i = what) : wantR ts what i k = k := if_pos h
theorem fld2 (a b c d : Int) (s : ByteArray) (W : World) : (Instr.field 51 (.agg #[.int .i64 a, .string s, .int .i64 b, .int .i64 c, .int .i64 d]) 2).run Tryz.prog W = .ok (.int .i64 b) W := by kernel_rfl
theorem own_mem {g n c k : Nat} (h : k ∈ (Value.slice (some ⟨g, 0, none⟩) n c).ownBlock.toList) : k = g := by
  simp [Value.ownBlock] at h
  first | exact h | exact h.symm
theorem lay_tr {F F1 G Fz : List Nat} {w w1 wz : World} (t : Tr F w F1 w1) (fz : Fr F1 w1 wz) (sz : ∀ k ∈ Fz, k ∈ F1 ∨ k ∈ G ∨ w1.heap.size ≤ k) (LO : ∀ k ∈ G, w.heap.size ≤ k) : Tr F w Fz wz :=
  ⟨t.ends fz, fun k hk => by
    rcases sz k hk with h | h | h
    · exact t.s k h
    · exact .inr (LO k h)
    · have := t.f.size
      exact .inr (by omega)⟩

end Go.Proofs.YtnebhkglpggnlaaGreatDoor
namespace Go.Proofs.YtnebhkglpggnlaaGreatDoor
open Go.RowKit
set_option linter.unusedVariables false
set_option linter.unusedSimpArgs false

end Go.Proofs.YtnebhkglpggnlaaGreatDoor
namespace Go.Proofs.YtnebhkglpggnlaaGreatDoor
open Go.RowKit
set_option linter.unusedVariables false
set_option linter.unusedSimpArgs false

end Go.Proofs.YtnebhkglpggnlaaGreatDoor
namespace Go.Proofs.YtnebhkglpggnlaaGreatDoor
open Go.RowKit
set_option linter.unusedVariables false
set_option linter.unusedSimpArgs false

end Go.Proofs.YtnebhkglpggnlaaGreatDoor
namespace Go.Proofs.YtnebhkglpggnlaaGreatDoor
open Go.RowKit Go.Shelf
set_option linter.unusedVariables false
set_option linter.unusedSimpArgs false

section
variable {ts : List Tok} {B pb : Nat} {F : List Nat} {w : World} {r : Except Nat (List Nat × Nat × List PN)}
end

end Go.Proofs.YtnebhkglpggnlaaGreatDoor
namespace Go.Proofs.YtnebhkglpggnlaaGreatDoor
open Go.RowKit Go.Shelf
set_option linter.unusedVariables false
set_option linter.unusedSimpArgs false

end Go.Proofs.YtnebhkglpggnlaaGreatDoor
namespace Go.Proofs.YtnebhkglpggnlaaGreatDoor
open Go.RowKit Go.Shelf
set_option linter.unusedVariables false
set_option linter.unusedSimpArgs false

def posOf (pb : Nat) (w : World) : Nat := match w.cell? ⟨pb, 1, none⟩ with | some (.int _ i) => i.toNat | _ => 0
theorem info3 : (Tryz.prog.info? 3).map (fun i => (i.zero, i.size, i.bytes)) = some (some (.int .i64 0), 1, 8) := by kernel_rfl
theorem under35 : Tryz.prog.underlying 34 = some (.slice 3) := by kernel_rfl
theorem one_new (W : World) (z : Int) : ∀ j u, [Value.int .i64 z][j]? = some u → (W.alloc (.cells #[.int .i64 z] 3)).cell? ((⟨W.heap.size, 0, none⟩ : Addr).add j) = some u := by
  intro j u hu
  have hadd : (⟨W.heap.size, 0, none⟩ : Addr).add j = ⟨W.heap.size, j, none⟩ := by unfold Addr.add; split <;> simp_all
  rw [hadd]
  exact at_cells (heap_alloc_new W _) j (by simpa using hu)

theorem row_tr {F F1 G : List Nat} {w w1 w2 : World} (t : Tr F w F1 w1) (k : Fr G w1 w2) (h : ∀ j ∈ G, w.heap.size ≤ j) : Tr F w F1 w2 :=
  ⟨⟨k.os.trans t.f.os, k.tape.trans t.f.tape, k.output.trans t.f.output, Nat.le_trans t.f.size k.size, fun j hj hF => by
    rw [k.block j (Nat.lt_of_lt_of_le hj t.f.size) (fun hm => by have := h j hm; omega)]
    exact t.f.block j hj hF⟩, t.s⟩

/-- A row of kids beside a parser. -/
structure KR (B : Nat) (w : World) (F : List Nat) (wr : World) (kv : Value) (acc : List Nat) : Prop where
  on : ON wr B kv acc
  ni : ∀ k, kv.ownBlock = some k → k ∉ F
  lo : ∀ k, kv.ownBlock = some k → w.heap.size ≤ k
theorem KR.nil (B : Nat) (w : World) (F : List Nat) (wr : World) : KR B w F wr (.slice none 0 0) [] := ⟨ON.nil _ _, fun k h => by simp [Value.ownBlock] at h, fun k h => by simp [Value.ownBlock] at h⟩
theorem KR.tr {B : Nat} {w : World} {F F' : List Nat} {wr wr' : World} {kv : Value} {acc : List Nat} (h : KR B w F wr kv acc) (t : Tr F wr F' wr') : KR B w F' wr' kv acc :=
  ⟨own_fr h.on t.f (fun k hk => h.ni k hk), fun k hk => t.notin (h.ni k hk) (h.on.lt k hk).2, h.lo⟩
/-- One number more. -/
theorem KR.snoc {B : Nat} {w : World} {F : List Nat} {wr w3 : World} {kv v1 : Value} {acc : List Nat} {m : Nat} (h : KR B w F wr kv acc) (hw : w.heap.size ≤ wr.heap.size) (hF : ∀ k ∈ F, k < wr.heap.size) (ho : w3.ownsRow B 3 1 v1 (acc.length + 1) (acc.map (fun k => Value.int .i64 (k : Nat)) ++ [.int .i64 (m : Nat)])) (hl : v1.ownBlock = kv.ownBlock ∨ v1.ownBlock = some (wr.heap.size + 1)) : KR B w F w3 v1 (acc ++ [m]) := by
  refine ⟨?_, fun k hk => ?_, fun k hk => ?_⟩
  · unfold ON
    simpa using ho
  · rcases hl with e | e
    · exact h.ni k (by rw [← e]; exact hk)
    · rw [e] at hk
      simp at hk
      exact fun hm => by have := hF k hm; omega
  · rcases hl with e | e
    · exact h.lo k (by rw [← e]; exact hk)
    · rw [e] at hk
      simp at hk
      omega

end Go.Proofs.YtnebhkglpggnlaaGreatDoor
namespace Go.Proofs.YtnebhkglpggnlaaGreatDoor
open Go.RowKit Go.Shelf
set_option linter.unusedVariables false
set_option linter.unusedSimpArgs false

end Go.Proofs.YtnebhkglpggnlaaGreatDoor
namespace Go.Proofs.YtnebhkglpggnlaaGreatDoor
open Go.RowKit Go.Shelf
set_option linter.unusedVariables false
set_option linter.unusedSimpArgs false

end Go.Proofs.YtnebhkglpggnlaaGreatDoor
namespace Go.Proofs.YtnebhkglpggnlaaGreatDoor
open Go.RowKit Go.Shelf
set_option linter.unusedVariables false
set_option linter.unusedSimpArgs false

theorem place_not {k : Nat} (h : placeK k = true) : k ≠ 22 := by
  intro e
  subst e
  cases h

end Go.Proofs.YtnebhkglpggnlaaGreatDoor
namespace Go.Proofs.YtnebhkglpggnlaaGreatDoor
open Go.RowKit Go.Shelf
set_option linter.unusedVariables false
set_option linter.unusedSimpArgs false

def thN (thing : Bool) : NT := if thing then .expr else .name
theorem thN_pre (ts : List Tok) (i : Nat) (ns : List PN) (thing : Bool) : preN ts i ns (thN thing) := by cases thing <;> trivial
theorem thN_single (thing : Bool) : single (thN thing) = true ∧ consN (thN thing) = 1 ∧ slack (thN thing) = 0 := by cases thing <;> decide
theorem listedL_len {ts : List Tok} (hT : Toks ts) (thing : Bool) (c : List UInt8) (hc : c ≠ []) : ∀ (g : Nat) (acc : List Nat) (i : Nat) (ns : List PN) (v : List Nat) (j : Nat) (ms : List PN), i < ts.length → P ts g (.listedL thing c acc) i ns = some (.ok (v, j, ms)) → v.length ≤ acc.length + (j - i) := by
  intro g
  induction g with
  | zero => intro acc i ns v j ms _ h; simp [P] at h
  | succ g ih =>
    intro acc i ns v j ms hi h
    have hj := run_ok hT (nt := .listedL thing c acc) hi hc h
    simp only [P] at h
    split at h
    · rename_i e
      have h1 := hT.more hi (by rw [e]; decide)
      rcases bindR_some h with ⟨er, hr, he⟩ | ⟨v1, j1, n1, hr, hP⟩
      · cases he
      · have hr' : P ts g (thN thing) (i + 1) ns = some (.ok (v1, j1, n1)) := hr
        obtain ⟨a1, a2, _⟩ := run_ok hT h1 (thN_pre ts _ ns thing) hr'
        have := ih _ _ _ _ _ _ a2 hP
        have hk := run_ok hT (nt := .listedL thing c (acc ++ [hd v1])) a2 hc hP
        have h3 := (thN_single thing).2.1
        simp only [consN, List.length_append, List.length_cons, List.length_nil] at this hk
        omega
    · unfold wantR at h
      split at h
      · cases h
        omega
      · cases h
theorem listed_len {ts : List Tok} (hT : Toks ts) (thing : Bool) (c : List UInt8) (hc : c ≠ []) {g i : Nat} {ns : List PN} {v : List Nat} {j : Nat} {ms : List PN} (hi : i < ts.length) (h : P ts g (.listed thing c) i ns = some (.ok (v, j, ms))) : v.length ≤ j := by
  cases g with
  | zero => simp [P] at h
  | succ g =>
    simp only [P] at h
    split at h
    · cases h
      simp
    · rcases bindR_some h with ⟨er, hr, he⟩ | ⟨v1, j1, n1, hr, hP⟩
      · cases he
      · have hr' : P ts g (thN thing) i ns = some (.ok (v1, j1, n1)) := hr
        obtain ⟨a1, a2, _⟩ := run_ok hT hi (thN_pre ts _ ns thing) hr'
        have := listedL_len hT thing c hc _ _ _ _ _ _ _ a2 hP
        have hk := run_ok hT (nt := .listedL thing c [hd v1]) a2 hc hP
        have h3 := (thN_single thing).2.1
        simp only [consN, List.length_cons, List.length_nil] at this hk
        omega

end Go.Proofs.YtnebhkglpggnlaaGreatDoor
