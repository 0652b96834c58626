/-
  Traces as they lie: sources, elements with a list of sources, traces; no condition.
-/
import Derived.Test.YtkogfgbgmifcnaaDoorCaB
import Derived.Deep.WholeRow
namespace Go.Proofs.YtkogfgbgmifcnaaDoor
open Go.RowKit
set_option linter.unusedVariables false
set_option linter.unusedSimpArgs false

/-- A source. -/
structure Sr where
  k : Int
  vk : Int
  vn : Int
  n : Int
def Sr.il (s : Sr) : List Int := [s.k, s.vk, s.vn, s.n]
theorem Sr.il_inj {s t : Sr} (h : s.il = t.il) : s = t := by
  obtain ⟨a, b, c, d⟩ := s
  obtain ⟨a', b', c', d'⟩ := t
  simpa [Sr.il] using h
instance srDec : DecidableEq Sr := fun a b => decidable_of_iff (a.il = b.il) ⟨Sr.il_inj, fun h => by rw [h]⟩
def Sr.cl (s : Sr) : List Value := s.il.map (Value.int .i64)
def Sr.w (s : Sr) : Prop := ∀ x ∈ s.il, (Lit.int .i64 x).wf = true
def flatS (L : List Sr) : List Value := L.flatMap Sr.cl
/-- An element that has a list of sources between numbers. -/
structure El where
  p : List Int
  q : List Int
  a : Option Addr
  c : Nat
  l : List Sr
structure AE where
  p : List Int
  q : List Int
  l : List Sr
deriving DecidableEq
def El.abs (e : El) : AE := ⟨e.p, e.q, e.l⟩
def El.cl (e : El) : List Value := e.p.map (Value.int .i64) ++ .slice e.a e.l.length e.c :: e.q.map (Value.int .i64)
def flatE (L : List El) : List Value := L.flatMap El.cl
/-- A list, wherever it lies: where, its room. -/
structure Tr where
  k : Ky
  fn : Int
  pc : Int
  ia : Option Addr
  ic : Nat
  ins : List Int
  oa : Option Addr
  oc : Nat
  ops : List El
  la : Option Addr
  lc : Nat
  links : List El
  va : Option Addr
  vc : Nat
  virts : List El
  ba : Option Addr
  bc : Nat
  back : List Sr
structure AT where
  k : Ky
  fn : Int
  pc : Int
  ins : List Int
  ops : List AE
  links : List AE
  virts : List AE
  back : List Sr
deriving DecidableEq
def Tr.abs (t : Tr) : AT := ⟨t.k, t.fn, t.pc, t.ins, t.ops.map El.abs, t.links.map El.abs, t.virts.map El.abs, t.back⟩
def Tr.tl (t : Tr) : List Value := [.int .i64 t.fn, .int .i64 t.pc, .slice t.ia t.ins.length t.ic, .slice t.oa t.ops.length t.oc, .slice t.la t.links.length t.lc, .slice t.va t.virts.length t.vc, .slice t.ba t.back.length t.bc]
def Tr.cl (t : Tr) : List Value := (kl0 t.k).map (Value.int .i64) ++ t.tl
def Tr.arr (t : Tr) : Array Value := t.cl.toArray
theorem kl0_len (k : Ky) : (kl0 k).length = 10 := by obtain ⟨a, b, c, d, e, f, g, h, i, j⟩ := k; rfl
theorem Tr.cl_len (t : Tr) : t.cl.length = 17 := by simp [Tr.cl, Tr.tl, kl0_len]
theorem Tr.arr_size (t : Tr) : t.arr.size = 17 := by simp [Tr.arr, Tr.cl_len]
theorem Tr.cl_one (t : Tr) : ∀ u ∈ t.cl, u.oneCell' = true := by
  intro u hu
  simp only [Tr.cl, Tr.tl, List.mem_append, List.mem_map, List.mem_cons, List.not_mem_nil, or_false] at hu
  rcases hu with ⟨x, _, rfl⟩ | rfl | rfl | rfl | rfl | rfl | rfl | rfl <;> rfl
/-- A block that nobody writes: one that came in, or one of the kinds that traces are made of. -/
def roT (t : TypeId) : Bool := t == 3 || t == 48 || t == 57 || t == 59 || t == 51
def okb (w : World) (B : Nat) (e : TypeId) (b : Nat) : Prop := b < B ∨ ∃ c, w.heap[b]? = some (.cells c e (0, 0))
/-- Blocks that may be written, as far as traces go. -/
def Away (w : World) (B : Nat) (S : List Nat) : Prop := ∀ k, k ∈ S → B ≤ k ∧ ∀ c t, w.heap[k]? = some (.cells c t (0, 0)) → roT t = false
theorem okb.not {w : World} {B b : Nat} {e : TypeId} {S : List Nat} (h : okb w B e b) (he : roT e = true) (hS : Away w B S) : b ∉ S := by
  intro hm
  obtain ⟨h1, h2⟩ := hS b hm
  rcases h with h | ⟨c, hb⟩
  · omega
  · rw [h2 _ _ hb] at he; cases he
theorem okb.fr {w w' : World} {B b : Nat} {e : TypeId} {S : List Nat} (h : okb w B e b) (hS : b ∉ S) (f : Fr S w w') : okb w' B e b := by
  rcases h with h | ⟨c, hb⟩
  · exact .inl h
  · exact .inr ⟨c, (f.block b (Array.getElem?_eq_some_iff.1 hb).1 hS).trans hb⟩
theorem Away.nil (w : World) (B : Nat) : Away w B [] := fun k hk => by simp at hk
/-- Cells in a row that nobody writes. -/
structure SL (w : World) (B : Nat) (e : TypeId) (a : Option Addr) (n c m y : Nat) (xs : List Value) : Prop where
  ro : roT e = true
  len : xs.length = n * m
  nn : a = none → n = 0 ∧ c = 0
  le : n ≤ c
  fit : n * y ≤ 140737488355328
  cell : ∀ j u, xs[j]? = some u → ∃ b o, a = some ⟨b, o, none⟩ ∧ w.cell? ⟨b, o + j, none⟩ = some u ∧ okb w B e b
theorem SL.fr1 {w w' : World} {B : Nat} {e : TypeId} {a : Option Addr} {n c m y : Nat} {xs : List Value} {S : List Nat} (h : SL w B e a n c m y xs) (f : Fr S w w') (hS : ∀ b, okb w B e b → b ∉ S) : SL w' B e a n c m y xs :=
  ⟨h.ro, h.len, h.nn, h.le, h.fit, fun j u hu => by
    obtain ⟨b, o, e, hc, hb⟩ := h.cell j u hu
    exact ⟨b, o, e, f.cell1 hc (hS b hb), hb.fr (hS b hb) f⟩⟩
theorem SL.fr {w w' : World} {B : Nat} {e : TypeId} {a : Option Addr} {n c m y : Nat} {xs : List Value} {S : List Nat} (h : SL w B e a n c m y xs) (f : Fr S w w') (hS : Away w B S) : SL w' B e a n c m y xs :=
  h.fr1 f (fun b hb => hb.not h.ro hS)
theorem SL.nil (w : World) (B m y : Nat) {e : TypeId} (he : roT e = true) : SL w B e none 0 0 m y [] := ⟨he, by simp, fun _ => ⟨rfl, rfl⟩, Nat.le_refl _, by simp, fun j u hu => by simp at hu⟩
theorem SL.low {w : World} {B B' : Nat} {e : TypeId} {a : Option Addr} {n c m y : Nat} {xs : List Value} (h : SL w B e a n c m y xs) (hB : B ≤ B') : SL w B' e a n c m y xs :=
  ⟨h.ro, h.len, h.nn, h.le, h.fit, fun j u hu => by
    obtain ⟨b, o, e, hc, hb⟩ := h.cell j u hu
    exact ⟨b, o, e, hc, hb.imp (fun h => by omega) id⟩⟩
/-- An element as it lies. -/
structure ElOk (w : World) (B : Nat) (np nq : Nat) (e : El) : Prop where
  hp : e.p.length = np
  hq : e.q.length = nq
  sl : SL w B 51 e.a e.l.length e.c 4 32 (flatS e.l)
structure TrOk (w : World) (B : Nat) (t : Tr) : Prop where
  ins : SL w B 3 t.ia t.ins.length t.ic 1 8 (t.ins.map (Value.int .i64))
  ops : SL w B 48 t.oa t.ops.length t.oc 5 56 (flatE t.ops)
  opl : ∀ e ∈ t.ops, ElOk w B 1 3 e
  links : SL w B 57 t.la t.links.length t.lc 5 56 (flatE t.links)
  linkl : ∀ e ∈ t.links, ElOk w B 4 0 e
  virts : SL w B 59 t.va t.virts.length t.vc 2 32 (flatE t.virts)
  virtl : ∀ e ∈ t.virts, ElOk w B 1 0 e
  back : SL w B 51 t.ba t.back.length t.bc 4 32 (flatS t.back)
/-- What holds of a trace wherever it lies: its key and its sources are of numbers of 64 bits. -/
structure ATOk (t : AT) : Prop where
  kw : kw t.k
  bw : ∀ s ∈ t.back, s.w
  ow : ∀ e ∈ t.ops, ∀ s ∈ e.l, s.w
  lw : ∀ e ∈ t.links, ∀ s ∈ e.l, s.w
  vw : ∀ e ∈ t.virts, ∀ s ∈ e.l, s.w
theorem ElOk.fr {w w' : World} {B np nq : Nat} {e : El} {S : List Nat} (h : ElOk w B np nq e) (f : Fr S w w') (hS : Away w B S) : ElOk w' B np nq e := ⟨h.hp, h.hq, h.sl.fr f hS⟩
theorem TrOk.fr {w w' : World} {B : Nat} {t : Tr} {S : List Nat} (h : TrOk w B t) (f : Fr S w w') (hS : Away w B S) : TrOk w' B t :=
  ⟨h.ins.fr f hS, h.ops.fr f hS, fun e he => (h.opl e he).fr f hS, h.links.fr f hS, fun e he => (h.linkl e he).fr f hS, h.virts.fr f hS, fun e he => (h.virtl e he).fr f hS, h.back.fr f hS⟩
theorem TrOk.fr0 {w w' : World} {B : Nat} {t : Tr} (h : TrOk w B t) (f : Fr [] w w') : TrOk w' B t := h.fr f (Away.nil _ _)
theorem El.cl_len {w : World} {B np nq : Nat} {e : El} (h : ElOk w B np nq e) : e.cl.length = np + 1 + nq := by simp [El.cl, h.hp, h.hq]; omega
theorem El.cl_one (e : El) : ∀ u ∈ e.cl, u.oneCell' = true := by
  intro u hu
  simp only [El.cl, List.mem_append, List.mem_map, List.mem_cons] at hu
  rcases hu with ⟨x, _, rfl⟩ | rfl | ⟨x, _, rfl⟩ <;> rfl
theorem flatE_one (L : List El) : ∀ u ∈ flatE L, u.oneCell' = true := by
  intro u hu
  obtain ⟨x, _, hx⟩ := List.mem_flatMap.1 hu
  exact x.cl_one u hx
theorem flatS_one (L : List Sr) : ∀ u ∈ flatS L, u.oneCell' = true := by
  intro u hu
  obtain ⟨x, _, hx⟩ := List.mem_flatMap.1 hu
  simp only [Sr.cl, List.mem_map] at hx
  obtain ⟨y, _, rfl⟩ := hx
  rfl
/-- Rows of elements that are all of one length. -/
theorem flat_at {α : Type} {f : α → List Value} {m : Nat} : ∀ {L : List α} (_ : ∀ x ∈ L, (f x).length = m) {i : Nat} {x : α}, L[i]? = some x → ∀ j, j < m → (L.flatMap f)[i * m + j]? = (f x)[j]?
  | [], _, i, x, h, j, hj => by simp at h
  | p :: L, hm, 0, x, h, j, hj => by
    simp at h
    subst h
    rw [List.flatMap_cons, Nat.zero_mul, Nat.zero_add, List.getElem?_append_left (by rw [hm p (by simp)]; exact hj)]
  | p :: L, hm, i + 1, x, h, j, hj => by
    have ih := flat_at (L := L) (fun x hx => hm x (by simp [hx])) (i := i) (x := x) (by simpa using h) j hj
    rw [List.flatMap_cons, List.getElem?_append_right (by rw [hm p (by simp), Nat.succ_mul]; omega), ← ih]
    congr 1
    rw [hm p (by simp), Nat.succ_mul]
    omega
theorem flat_len {α : Type} {f : α → List Value} {m : Nat} : ∀ {L : List α} (_ : ∀ x ∈ L, (f x).length = m), (L.flatMap f).length = L.length * m
  | [], _ => by simp
  | p :: L, hm => by rw [List.flatMap_cons, List.length_append, hm p (by simp), flat_len (fun x hx => hm x (by simp [hx])), List.length_cons, Nat.succ_mul]; omega
theorem Sr.cl_len (s : Sr) : s.cl.length = 4 := rfl
theorem flatS_at {L : List Sr} {i : Nat} {x : Sr} (h : L[i]? = some x) (j : Nat) (hj : j < 4) : (flatS L)[i * 4 + j]? = x.cl[j]? := flat_at (fun x _ => x.cl_len) h j hj
theorem flatS_len (L : List Sr) : (flatS L).length = L.length * 4 := flat_len (fun x _ => x.cl_len)
/-- A row of one's own is one that nobody writes, from then on. -/
theorem SL.own {w : World} {B B0 n c m y : Nat} {e : TypeId} {a : Option Addr} {xs : List Value} (h : w.ownsRow B0 e m (.slice a n c) n xs) (ht : roT e = true) (hf : n * y ≤ 140737488355328) : SL w B e a n c m y xs := by
  obtain ⟨h1, h2⟩ := h
  rcases h2 with ⟨e1, e2⟩ | ⟨g, cap, cur, e1, hb, hg, hn, hm, hs, hx⟩
  · cases e1
    refine ⟨ht, h1, fun _ => ⟨rfl, rfl⟩, Nat.le_refl _, hf, fun j u hu => ?_⟩
    rw [Nat.zero_mul] at h1
    rw [List.eq_nil_of_length_eq_zero h1] at hu
    simp at hu
  · cases e1
    refine ⟨ht, h1, fun e => (by cases e), hn, hf, fun j u hu => ⟨g, 0, rfl, ?_, .inr ⟨cur, hg⟩⟩⟩
    obtain ⟨g', c', e', hc, _⟩ := own_cells ⟨h1, .inr ⟨g, c, cur, rfl, hb, hg, hn, hm, hs, hx⟩⟩ hu
    cases e'
    rw [Nat.zero_add]
    exact hc
end Go.Proofs.YtkogfgbgmifcnaaDoor
