/-
  Texts of the proof, in their order: BakB, BakC, BakD, BakE, BakF, BakG, BakH, BakI, BakJ, BakK, BakL, BakM, BakN, BakO, BakP, GodA, GodB, GodC, GodD, BakQ, BakR; conditions: as each says.
-/
import Derived.Test.YtnebhkglpggnlaaGreatDoorMgDPGF
import Derived.Test.YtnebhkglpggnlaaGreatDoorMgPCOC
namespace Go.Proofs.YtnebhkglpggnlaaGreatDoor
open Go.RowKit
set_option linter.unusedVariables false
set_option linter.unusedSimpArgs false

abbrev T3 := Nat × List UInt8 × Nat
def strip (t : Tok) : T3 := (t.kind, t.text, t.n)
/-- From i on there stand these. -/
def Seg (ts : List Tok) (i : Nat) (A : List T3) : Prop := i + A.length ≤ ts.length ∧ ∀ j a, A[j]? = some a → strip (tk ts (i + j)) = a
section
variable {ts : List Tok} {i : Nat}
theorem Seg.left {A B : List T3} (h : Seg ts i (A ++ B)) : Seg ts i A := ⟨by have := h.1; simp at this; omega, fun j a hj => h.2 j a (by rw [List.getElem?_append_left (List.getElem?_eq_some_iff.1 hj).1]; exact hj)⟩
theorem Seg.right {A B : List T3} (h : Seg ts i (A ++ B)) : Seg ts (i + A.length) B := ⟨by have := h.1; simp at this; omega, fun j a hj => by rw [Nat.add_assoc]; exact h.2 _ a (by rw [List.getElem?_append_right (by omega), Nat.add_sub_cancel_left]; exact hj)⟩
theorem Seg.head {a : T3} {B : List T3} (h : Seg ts i (a :: B)) : strip (tk ts i) = a := by simpa using h.2 0 a rfl
theorem Seg.tail {a : T3} {B : List T3} (h : Seg ts i (a :: B)) : Seg ts (i + 1) B := Seg.right (A := [a]) (B := B) h
end
def nxA (a : T3) : List UInt8 := if a.1 = 1 then [110, 97, 109, 101] else if a.1 = 4 then [110, 117, 109, 98, 101, 114] else if a.1 = 0 then [] else a.2.1
theorem nx_of {ts : List Tok} {i : Nat} {a : T3} (h : strip (tk ts i) = a) : nx ts i = nxA a := by subst h; rfl
theorem text_of {ts : List Tok} {i : Nat} {a : T3} (h : strip (tk ts i) = a) : (tk ts i).text = a.2.1 := by subst h; rfl
theorem n_of {ts : List Tok} {i : Nat} {a : T3} (h : strip (tk ts i) = a) : (tk ts i).n = a.2.2 := by subst h; rfl
def tN (s : List UInt8) : T3 := (1, s, 0)
def tW (s : List UInt8) : T3 := (2, s, 0)
def tS (s : List UInt8) : T3 := (3, s, 0)
def tD (s : List UInt8) : T3 := (4, s, (numL s).getD 0)

/-- It comes out so, with steps enough. -/
def Ev (ts : List Tok) (nt : NT) (i : Nat) (ns : List PN) (r : Except Nat (List Nat × Nat × List PN)) : Prop := ∃ f, P ts f nt i ns = some r
abbrev OkR (v : List Nat) (j : Nat) (ms : List PN) : Except Nat (List Nat × Nat × List PN) := .ok (v, j, ms)
/-- All of it, one by one. -/
def All2 (R : Int → Nat → Prop) : List Int → List Nat → Prop
  | [], [] => True
  | a :: r, b :: s => R a b ∧ All2 R r s
  | _, _ => False
theorem All2.imp {R S : Int → Nat → Prop} : ∀ {l : List Int} {m : List Nat}, (∀ a ∈ l, ∀ b, R a b → S a b) → All2 R l m → All2 S l m
  | [], [], _, _ => trivial
  | a :: r, b :: s, h, ⟨h1, h2⟩ => ⟨h a (by simp) b h1, h2.imp (fun c hc => h c (by simp [hc]))⟩
  | [], _ :: _, _, h => h.elim
  | _ :: _, [], _, h => h.elim
theorem All2.snoc {R : Int → Nat → Prop} {a : Int} {b : Nat} (hab : R a b) : ∀ {l : List Int} {m : List Nat}, All2 R l m → All2 R (l ++ [a]) (m ++ [b])
  | [], [], _ => ⟨hab, trivial⟩
  | _ :: _, _ :: _, ⟨h1, h2⟩ => ⟨h1, h2.snoc hab⟩
  | [], _ :: _, h => h.elim
  | _ :: _, [], h => h.elim
theorem All2.len {R : Int → Nat → Prop} : ∀ {l : List Int} {m : List Nat}, All2 R l m → l.length = m.length
  | [], [], _ => rfl
  | _ :: _, _ :: _, ⟨_, h2⟩ => by simp [h2.len]
  | [], _ :: _, h => h.elim
  | _ :: _, [], h => h.elim
/-- Node r of what is laid is node k of the tree, places aside. -/
def isoF (L : List T5.Nd) (ms : List PN) : Nat → Int → Nat → Prop
  | 0, _, _ => False
  | f + 1, k, r => ∃ x y, L[k.toNat]? = some x ∧ ms[r]? = some y ∧ x.kind = (y.kind : Int) ∧ tx x = y.text ∧ All2 (isoF L ms f) x.ks y.kids
theorem isoF.more {L : List T5.Nd} {ms : List PN} : ∀ {f g : Nat} {k : Int} {r : Nat}, f ≤ g → isoF L ms f k r → isoF L ms g k r
  | 0, _, _, _, _, h => h.elim
  | f + 1, 0, _, _, hg, _ => by omega
  | f + 1, g + 1, k, r, hg, ⟨x, y, h1, h2, h3, h4, h5⟩ => ⟨x, y, h1, h2, h3, h4, h5.imp (fun a _ b h => isoF.more (by omega) h)⟩
theorem isoF.ext {L : List T5.Nd} {ms : List PN} (e : List PN) : ∀ {f : Nat} {k : Int} {r : Nat}, isoF L ms f k r → isoF L (ms ++ e) f k r
  | 0, _, _, h => h.elim
  | f + 1, k, r, ⟨x, y, h1, h2, h3, h4, h5⟩ => ⟨x, y, h1, by rw [List.getElem?_append_left (List.getElem?_eq_some_iff.1 h2).1]; exact h2, h3, h4, h5.imp (fun a _ b h => h.ext e)⟩
def Iso (L : List T5.Nd) (ms : List PN) (k : Int) (r : Nat) : Prop := isoF L ms (k.toNat + 1) k r
theorem Iso.ext {L : List T5.Nd} {ms : List PN} {k : Int} {r : Nat} (h : Iso L ms k r) (e : List PN) : Iso L (ms ++ e) k r := isoF.ext e h
theorem Iso.lt {L : List T5.Nd} {ms : List PN} {k : Int} {r : Nat} (h : Iso L ms k r) : r < ms.length := by
  obtain ⟨x, y, _, h2, _⟩ := h
  exact (List.getElem?_eq_some_iff.1 h2).1
theorem Iso.kd {L : List T5.Nd} {ms : List PN} {k : Int} {r : Nat} (h : Iso L ms k r) : T5.kd L k = (kdN ms r : Nat) := by
  obtain ⟨x, y, h1, h2, h3, _⟩ := h
  unfold T5.kd kdN
  rw [h1, h2]
  exact h3
/-- A node that is laid behind its kids. -/
theorem Iso.new {L : List T5.Nd} (hK : Kids L) {ns : List PN} {k : Int} {x : T5.Nd} (hx : L[k.toNat]? = some x) {kind : Nat} {text : List UInt8} {kids : List Nat} {pl : Nat} (hk : x.kind = (kind : Int)) (ht : tx x = text) (ha : All2 (Iso L ns) x.ks kids) : Iso L (ns ++ [⟨kind, text, kids, pl⟩]) k ns.length :=
  ⟨x, ⟨kind, text, kids, pl⟩, hx, by simp, hk, ht, ha.imp (fun a ha b h => isoF.ext _ (isoF.more (by have := hK _ x hx a ha; omega) h))⟩
/-- Behind ns. -/
def Onto (ns ms : List PN) : Prop := ∃ e, ms = ns ++ e
theorem Onto.refl (ns : List PN) : Onto ns ns := ⟨[], by simp⟩
theorem Onto.trans {a b c : List PN} (h : Onto a b) (k : Onto b c) : Onto a c := by
  obtain ⟨e, rfl⟩ := h
  obtain ⟨e', rfl⟩ := k
  exact ⟨e ++ e', by simp⟩
theorem Onto.one (ns : List PN) (x : PN) : Onto ns (ns ++ [x]) := ⟨_, rfl⟩
theorem Iso.onto {L : List T5.Nd} {ms ms' : List PN} {k : Int} {r : Nat} (h : Iso L ms k r) (o : Onto ms ms') : Iso L ms' k r := by
  obtain ⟨e, rfl⟩ := o
  exact h.ext e
theorem All2.onto {L : List T5.Nd} {ms ms' : List PN} {l : List Int} {m : List Nat} (h : All2 (Iso L ms) l m) (o : Onto ms ms') : All2 (Iso L ms') l m := h.imp (fun a _ b h => h.onto o)

/-! The steps of reading, one by one. -/
section
variable {ts : List Tok} {i j : Nat} {ns ms : List PN} {res : Except Nat (List Nat × Nat × List PN)}
theorem Ev.bind1 {nt nt' : NT} {k : List Nat → Nat → List PN → NT × Nat × List PN} {v : List Nat} (hP : ∀ f, P ts (f + 1) nt i ns = bindR (P ts f nt' j ms) (fun v j ms => P ts f (k v j ms).1 (k v j ms).2.1 (k v j ms).2.2)) {j' : Nat} {ms' : List PN} (h1 : Ev ts nt' j ms (OkR v j' ms')) (h2 : Ev ts (k v j' ms').1 (k v j' ms').2.1 (k v j' ms').2.2 res) : Ev ts nt i ns res := by
  obtain ⟨f, h1⟩ := h1
  obtain ⟨g, h2⟩ := h2
  refine ⟨max f g + 1, ?_⟩
  rw [hP, P_mono (Nat.le_max_left f g) h1]
  exact P_mono (Nat.le_max_right f g) h2
theorem Ev.bind0 {nt nt' : NT} {k : List Nat → Nat → List PN → R} {v : List Nat} (hP : ∀ f, P ts (f + 1) nt i ns = bindR (P ts f nt' j ms) k) {j' : Nat} {ms' : List PN} (h1 : Ev ts nt' j ms (OkR v j' ms')) (h2 : k v j' ms' = some res) : Ev ts nt i ns res := by
  obtain ⟨f, h1⟩ := h1
  exact ⟨f + 1, by rw [hP, h1]; exact h2⟩
theorem Ev.step {nt nt' : NT} (hP : ∀ f, P ts (f + 1) nt i ns = P ts f nt' j ms) (h : Ev ts nt' j ms res) : Ev ts nt i ns res := by
  obtain ⟨f, h⟩ := h
  exact ⟨f + 1, by rw [hP]; exact h⟩
theorem Ev.now {nt : NT} (hP : ∀ f, P ts (f + 1) nt i ns = some res) : Ev ts nt i ns res := ⟨1, hP 0⟩
end
end Go.Proofs.YtnebhkglpggnlaaGreatDoor
namespace Go.Proofs.YtnebhkglpggnlaaGreatDoor
open Go.RowKit
set_option linter.unusedVariables false
set_option linter.unusedSimpArgs false

def atT (ks : List Int) (i : Nat) (g : Int → List T3) : List T3 := match ks[i]? with | some j => g j | none => []
theorem atT_congr {ks : List Int} {i : Nat} {g g' : Int → List T3} (h : ∀ k ∈ ks, g k = g' k) : atT ks i g = atT ks i g' := by
  unfold atT
  cases hk : ks[i]? with
  | none => rfl
  | some j => exact h j (List.mem_of_getElem? hk)
def joinT : List (List T3) → List T3
  | [] => []
  | a :: r => a ++ (r.map (fun s => tS [44] :: s)).flatten
/-- An expression's tokens, out of its kids'. -/
def teX (x : T5.Nd) (e : Int → List T3) (h : Int → Nat → List T3) : List T3 :=
  if x.kind = 15 then [tD (tx x)]
  else if x.kind = 17 then [tN (tx x)]
  else if x.kind = 16 ∨ x.kind = 30 then [tW (wordB x.kind)]
  else if x.kind = 18 then tS (tx x) :: atT x.ks 0 (fun j => h j 6)
  else if x.kind = 19 then atT x.ks 0 (fun j => h j (max (opT (tx x)) 1)) ++ (tS (tx x) :: atT x.ks 1 (fun j => h j (opT (tx x) + 1)))
  else if x.kind = 20 then atT x.ks 0 (fun j => h j 7) ++ [tS [46], tN (tx x)]
  else if x.kind = 21 then atT x.ks 0 (fun j => h j 7) ++ (tS [91] :: (atT x.ks 1 e ++ [tS [93]]))
  else if x.kind = 23 then [tW [110, 101, 119], tN (tx x)]
  else if x.kind = 22 then tN (tx x) :: tS [40] :: (joinT (x.ks.map e) ++ [tS [41]])
  else tW (wordB x.kind) :: tS [40] :: (joinT (x.ks.map e) ++ [tS [41]])
theorem teX_congr {x : T5.Nd} {e e' : Int → List T3} {h h' : Int → Nat → List T3} (he : ∀ k ∈ x.ks, e k = e' k) (hh : ∀ k ∈ x.ks, ∀ t, h k t = h' k t) : teX x e h = teX x e' h' := by
  have a0 : ∀ i t, atT x.ks i (fun j => h j t) = atT x.ks i (fun j => h' j t) := fun i t => atT_congr (fun k hk => hh k hk t)
  have a1 : ∀ i, atT x.ks i e = atT x.ks i e' := fun i => atT_congr he
  have a2 : x.ks.map e = x.ks.map e' := List.map_congr_left he
  unfold teX
  simp only [a0, a1, a2]
def heldT (t least : Nat) (s : List T3) : List T3 := if t < least then tS [40] :: (s ++ [tS [41]]) else s
def teF (L : List T5.Nd) : Nat → Int → List T3
  | 0, _ => []
  | f + 1, k => match L[k.toNat]? with
    | none => []
    | some x => teX x (teF L f) (fun j t => heldT (tg L j) t (teF L f j))
theorem teF_same {L : List T5.Nd} (hK : Kids L) : ∀ (f g : Nat) (k : Int), k.toNat < f → k.toNat < g → teF L f k = teF L g k := by
  intro f
  induction f with
  | zero => intro g k h; omega
  | succ f ih =>
    intro g k h hg
    obtain _ | g := g
    · omega
    simp only [teF]
    cases hx : L[k.toNat]? with
    | none => rfl
    | some x =>
      have e : ∀ j ∈ x.ks, teF L f j = teF L g j := fun j hj => by
        obtain ⟨k0, k1⟩ := hK _ x hx j hj
        exact ih g j (by omega) (by omega)
      exact teX_congr e (fun j hj t => by rw [e j hj])
def teN (L : List T5.Nd) (k : Int) : List T3 := teF L (k.toNat + 1) k
def htN (L : List T5.Nd) (k : Int) (t : Nat) : List T3 := heldT (tg L k) t (teN L k)
theorem teN_eq {L : List T5.Nd} (hK : Kids L) {k : Int} {x : T5.Nd} (hx : L[k.toNat]? = some x) : teN L k = teX x (teN L) (htN L) := by
  unfold teN
  simp only [teF, hx]
  have e : ∀ j ∈ x.ks, teF L k.toNat j = teN L j := fun j hj => by
    obtain ⟨k0, k1⟩ := hK _ x hx j hj
    exact teF_same hK _ _ j (by omega) (by omega)
  exact teX_congr e (fun j hj t => by rw [e j hj]; rfl)

/-- Texts as they are read. -/
structure Wrd (L : List T5.Nd) : Prop where
  dec : ∀ (i : Nat) (x : T5.Nd), L[i]? = some x → x.kind = 15 → Lib.decDigits ((numL (tx x)).getD 0) = tx x
  un : ∀ (i : Nat) (x : T5.Nd), L[i]? = some x → x.kind = 18 → isSg (tx x) = true
  bin : ∀ (i : Nat) (x : T5.Nd), L[i]? = some x → x.kind = 19 → lineL (tx x) = opT (tx x) + 1 ∧ tx x ≠ [46] ∧ tx x ≠ [91] ∧ tx x ≠ [40]
  non : ∀ (i : Nat) (x : T5.Nd), L[i]? = some x → (x.kind = 1 ∨ x.kind = 4 ∨ (6 ≤ x.kind ∧ x.kind ≤ 14) ∨ x.kind = 16 ∨ x.kind = 21 ∨ 24 ≤ x.kind) → tx x = []
section
variable {ts : List Tok} {i j : Nat} {ns ms : List PN} {r : Nat} {res : Except Nat (List Nat × Nat × List PN)}
/-- No back goes on here. -/
def NoDot (ts : List Tok) (j : Nat) : Prop := nx ts j ≠ [46] ∧ nx ts j ≠ [91] ∧ nx ts j ≠ [40]
theorem back_stop (h : NoDot ts j) : Ev ts (.backL r) j ms (OkR [r] j ms) := Ev.now (fun f => by simp only [P]; rw [if_neg h.1, if_neg h.2.1])
/-- A back is read up to j, and may go on. -/
def Bk (ts : List Tok) (i : Nat) (ns : List PN) (j : Nat) (ms : List PN) (r : Nat) : Prop := ∀ res, Ev ts (.backL r) j ms res → Ev ts .back i ns res
theorem Bk.of_first (h : Ev ts .first i ns (OkR [r] j ms)) : Bk ts i ns j ms r := fun res k => Ev.bind1 (k := fun v j ms => (.backL (hd v), j, ms)) (fun f => by simp only [P]) h k
theorem Bk.sign (h : Bk ts i ns j ms r) (hd' : NoDot ts j) (hs : isSg (nx ts i) = false) (acc : List Tok) : Ev ts (.signedL acc) i ns (OkR [(laySg acc.reverse r ms).1] j (laySg acc.reverse r ms).2) := by
  have h1 := h _ (back_stop hd')
  exact Ev.bind1 (k := fun v j ms => (.laySigns acc.reverse (hd v), j, ms)) (fun f => by simp only [P]; rw [hs]; rfl) h1 (Ev.now (fun f => by simp only [P]; rfl))
theorem full7 (h : Ev ts (.signedL []) i ns (OkR [(laySg [] r ms).1] j (laySg [] r ms).2)) : Ev ts (.chain 7) i ns (OkR [r] j ms) := Ev.step (fun f => by simp only [P]; rfl) (Ev.step (nt' := .signedL []) (fun f => by simp only [P]) h)
theorem chain_of {l : Nat} (hl : l ≠ 7) (h : Ev ts (.chain (l + 1)) i ns (OkR [r] j ms)) (k : Ev ts (.chainL l r) j ms res) : Ev ts (.chain l) i ns res := Ev.bind1 (k := fun v j ms => (.chainL l (hd v), j, ms)) (fun f => by simp only [P]; rw [if_neg hl]) h k
theorem chain_stop {l : Nat} (h : lineL (nx ts j) ≠ l) : Ev ts (.chainL l r) j ms (OkR [r] j ms) := Ev.now (fun f => by simp only [P]; rw [if_neg h])
theorem full_down {l : Nat} (hl : l ≠ 7) (hn : lineL (nx ts j) ≠ l) (h : Ev ts (.chain (l + 1)) i ns (OkR [r] j ms)) : Ev ts (.chain l) i ns (OkR [r] j ms) := chain_of hl h (chain_stop hn)
theorem full_to {l : Nat} (hl : lineL (nx ts j) < l) : ∀ d, l + d ≤ 7 → Ev ts (.chain (l + d)) i ns (OkR [r] j ms) → Ev ts (.chain l) i ns (OkR [r] j ms)
  | 0, _, h => h
  | d + 1, hd, h => full_to hl d (by omega) (full_down (by omega) (by omega) h)
theorem expr_of (h : Ev ts (.chain 2) i ns (OkR [r] j ms)) (hn : lineL (nx ts j) = 0) : Ev ts .expr i ns (OkR [r] j ms) := by
  obtain ⟨f, h⟩ := h
  refine ⟨f + 1, ?_⟩
  simp only [P]
  rw [h]
  show (if lineL (nx ts j) = 1 then _ else _) = _
  rw [if_neg (by omega)]
end
/-- How tightly, by the grammar's lines. -/
def lnN (x : T5.Nd) : Nat := if tightN x < 6 then tightN x + 1 else 7
/-- How an expression is read. -/
structure RdE (L : List T5.Nd) (ts : List Tok) (k : Int) (x : T5.Nd) : Prop where
  head : ∀ i, Seg ts i (teN L k) → firstNT (nx ts i) ≠ none ∨ isSg (nx ts i) = true
  plain : tightN x = 7 → ∀ i, Seg ts i (teN L k) → isSg (nx ts i) = false
  back : tightN x = 7 → ∀ i ns, Seg ts i (teN L k) → nx ts (i + (teN L k).length) ≠ [40] → ∃ ms r, Iso L ms k r ∧ Onto ns ms ∧ Bk ts i ns (i + (teN L k).length) ms r
  sign : 6 ≤ tightN x → ∀ acc i ns, Seg ts i (teN L k) → NoDot ts (i + (teN L k).length) → ∃ ms r, Iso L ms k r ∧ Onto ns ms ∧ Ev ts (.signedL acc) i ns (OkR [(laySg acc.reverse r ms).1] (i + (teN L k).length) (laySg acc.reverse r ms).2)
  chain : ∀ l, 2 ≤ l → l ≤ 6 → l ≤ lnN x → ∀ i ns, Seg ts i (teN L k) → NoDot ts (i + (teN L k).length) → lineL (nx ts (i + (teN L k).length)) ≤ l → ∃ ms r, Iso L ms k r ∧ Onto ns ms ∧ ∀ res, Ev ts (.chainL l r) (i + (teN L k).length) ms res → Ev ts (.chain l) i ns res
  expr : ∀ i ns, Seg ts i (teN L k) → NoDot ts (i + (teN L k).length) → lineL (nx ts (i + (teN L k).length)) = 0 → ∃ ms r, Iso L ms k r ∧ Onto ns ms ∧ Ev ts .expr i ns (OkR [r] (i + (teN L k).length) ms)
theorem RdE.full {L : List T5.Nd} {ts : List Tok} {k : Int} {x : T5.Nd} (R : RdE L ts k x) {l : Nat} (h2 : 2 ≤ l) (h7 : l ≤ 7) (hl : l ≤ lnN x) {i : Nat} {ns : List PN} (hs : Seg ts i (teN L k)) (hd : NoDot ts (i + (teN L k).length)) (hn : lineL (nx ts (i + (teN L k).length)) < l) : ∃ ms r, Iso L ms k r ∧ Onto ns ms ∧ Ev ts (.chain l) i ns (OkR [r] (i + (teN L k).length) ms) := by
  by_cases e : l = 7
  · subst e
    have ht : 6 ≤ tightN x := by unfold lnN at hl; split at hl <;> omega
    obtain ⟨ms, r, h1, h3, h4⟩ := R.sign ht [] i ns hs hd
    exact ⟨ms, r, h1, h3, full7 h4⟩
  · obtain ⟨ms, r, h1, h3, h4⟩ := R.chain l h2 (by omega) hl i ns hs hd (by omega)
    exact ⟨ms, r, h1, h3, h4 _ (chain_stop (by omega))⟩
section
variable {L : List T5.Nd} {ts : List Tok} {k : Int} {x : T5.Nd}
/-- An expression in parentheses. -/
theorem paren_first (R : RdE L ts k x) {i : Nat} {ns : List PN} (hs : Seg ts i (tS [40] :: (teN L k ++ [tS [41]]))) : ∃ ms r, Iso L ms k r ∧ Onto ns ms ∧ Ev ts .first i ns (OkR [r] (i + (tS [40] :: (teN L k ++ [tS [41]])).length) ms) := by
  have e0 := nx_of hs.head
  have s1 := hs.tail.left
  have s2 := hs.tail.right.head
  have e1 := nx_of s2
  have e0' : nx ts i = [40] := e0
  have e1' : nx ts (i + 1 + (teN L k).length) = [41] := e1
  obtain ⟨ms, r, h1, h2, h3⟩ := R.expr (i + 1) ns s1 (by unfold NoDot; rw [e1']; decide) (by rw [e1']; decide)
  refine ⟨ms, r, h1, h2, ?_⟩
  have hj : i + (tS [40] :: (teN L k ++ [tS [41]])).length = i + 1 + (teN L k).length + 1 := by simp; omega
  rw [hj]
  refine Ev.step (nt' := .brack) (fun f => by simp only [P]; rw [e0']; rfl) ?_
  refine Ev.bind0 (k := fun v j ms => wantR ts [41] j (some (.ok (v, j + 1, ms)))) (fun f => by simp only [P]; unfold wantR; rw [if_pos e0']) h3 ?_
  unfold wantR
  rw [if_pos e1']
theorem paren_head {i : Nat} (hs : Seg ts i (tS [40] :: (teN L k ++ [tS [41]]))) : nx ts i = [40] := nx_of hs.head
theorem htN_pos (hx : L[k.toNat]? = some x) {t : Nat} (c : tightN x < t) : htN L k t = tS [40] :: (teN L k ++ [tS [41]]) := by
  unfold htN heldT tg
  rw [hx]
  exact if_pos c
theorem htN_neg (hx : L[k.toNat]? = some x) {t : Nat} (c : ¬ tightN x < t) : htN L k t = teN L k := by
  unfold htN heldT tg
  rw [hx]
  exact if_neg c
theorem held_head (R : RdE L ts k x) (hx : L[k.toNat]? = some x) {t i : Nat} (hs : Seg ts i (htN L k t)) : firstNT (nx ts i) ≠ none ∨ isSg (nx ts i) = true := by
  by_cases c : tightN x < t
  · rw [htN_pos hx c] at hs
    rw [paren_head hs]
    exact .inl (by simp [firstNT])
  · rw [htN_neg hx c] at hs
    exact R.head i hs
theorem held_plain (R : RdE L ts k x) (hx : L[k.toNat]? = some x) {i : Nat} (hs : Seg ts i (htN L k 7)) : isSg (nx ts i) = false := by
  by_cases c : tightN x < 7
  · rw [htN_pos hx c] at hs
    rw [paren_head hs]
    decide
  · rw [htN_neg hx c] at hs
    exact R.plain (by have := tightN_le x; omega) i hs
/-- A side where a back is wanted. -/
theorem held_back (R : RdE L ts k x) (hx : L[k.toNat]? = some x) {i : Nat} {ns : List PN} (hs : Seg ts i (htN L k 7)) (hn : nx ts (i + (htN L k 7).length) ≠ [40]) : ∃ ms r, Iso L ms k r ∧ Onto ns ms ∧ Bk ts i ns (i + (htN L k 7).length) ms r := by
  by_cases c : tightN x < 7
  · rw [htN_pos hx c] at hs hn ⊢
    obtain ⟨ms, r, h1, h2, h3⟩ := paren_first R (ns := ns) hs
    exact ⟨ms, r, h1, h2, Bk.of_first h3⟩
  · rw [htN_neg hx c] at hs hn ⊢
    exact R.back (by have := tightN_le x; omega) i ns hs hn
/-- A side behind a sign. -/
theorem held_sign (R : RdE L ts k x) (hx : L[k.toNat]? = some x) (acc : List Tok) {i : Nat} {ns : List PN} (hs : Seg ts i (htN L k 6)) (hd : NoDot ts (i + (htN L k 6).length)) : ∃ ms r, Iso L ms k r ∧ Onto ns ms ∧ Ev ts (.signedL acc) i ns (OkR [(laySg acc.reverse r ms).1] (i + (htN L k 6).length) (laySg acc.reverse r ms).2) := by
  by_cases c : tightN x < 6
  · rw [htN_pos hx c] at hs hd ⊢
    obtain ⟨ms, r, h1, h2, h3⟩ := paren_first R (ns := ns) hs
    exact ⟨ms, r, h1, h2, (Bk.of_first h3).sign hd (by rw [paren_head hs]; decide) acc⟩
  · rw [htN_neg hx c] at hs hd ⊢
    exact R.sign (by omega) acc i ns hs hd
/-- A side of an operator, read whole. -/
theorem held_full (R : RdE L ts k x) (hx : L[k.toNat]? = some x) {t l : Nat} (ht : t + 1 = l) (h2 : 2 ≤ l) (h7 : l ≤ 7) {i : Nat} {ns : List PN} (hs : Seg ts i (htN L k t)) (hd : NoDot ts (i + (htN L k t).length)) (hn : lineL (nx ts (i + (htN L k t).length)) < l) : ∃ ms r, Iso L ms k r ∧ Onto ns ms ∧ Ev ts (.chain l) i ns (OkR [r] (i + (htN L k t).length) ms) := by
  by_cases c : tightN x < t
  · rw [htN_pos hx c] at hs hd hn ⊢
    obtain ⟨ms, r, h1, h3, h4⟩ := paren_first R (ns := ns) hs
    refine ⟨ms, r, h1, h3, full_to hn (7 - l) (by omega) ?_⟩
    rw [show l + (7 - l) = 7 by omega]
    exact full7 ((Bk.of_first h4).sign hd (by rw [paren_head hs]; decide) [])
  · rw [htN_neg hx c] at hs hd hn ⊢
    exact R.full h2 h7 (by unfold lnN; split <;> omega) hs hd hn
/-- A side left of an operator: more may follow. -/
theorem held_chain (R : RdE L ts k x) (hx : L[k.toNat]? = some x) {t l : Nat} (ht : t + 1 = l) (h2 : 2 ≤ l) (h6 : l ≤ 6) {i : Nat} {ns : List PN} (hs : Seg ts i (htN L k t)) (hd : NoDot ts (i + (htN L k t).length)) (hn : lineL (nx ts (i + (htN L k t).length)) ≤ l) : ∃ ms r, Iso L ms k r ∧ Onto ns ms ∧ ∀ res, Ev ts (.chainL l r) (i + (htN L k t).length) ms res → Ev ts (.chain l) i ns res := by
  by_cases c : tightN x < t
  · rw [htN_pos hx c] at hs hd hn ⊢
    obtain ⟨ms, r, h1, h3, h4⟩ := paren_first R (ns := ns) hs
    refine ⟨ms, r, h1, h3, fun res hr => chain_of (by omega) (full_to (by omega) (7 - (l + 1)) (by omega) ?_) hr⟩
    rw [show l + 1 + (7 - (l + 1)) = 7 by omega]
    exact full7 ((Bk.of_first h4).sign hd (by rw [paren_head hs]; decide) [])
  · rw [htN_neg hx c] at hs hd hn ⊢
    exact R.chain l h2 h6 (by unfold lnN; split <;> omega) i ns hs hd hn
end
end Go.Proofs.YtnebhkglpggnlaaGreatDoor
namespace Go.Proofs.YtnebhkglpggnlaaGreatDoor
open Go.RowKit
set_option linter.unusedVariables false
set_option linter.unusedSimpArgs false

section
variable {L : List T5.Nd} {ts : List Tok} {k : Int} {x : T5.Nd}
/-- What binds like a sign or tighter. -/
theorem rd_of_sign (ht : 6 ≤ tightN x)
    (head : ∀ i, Seg ts i (teN L k) → firstNT (nx ts i) ≠ none ∨ isSg (nx ts i) = true)
    (plain : tightN x = 7 → ∀ i, Seg ts i (teN L k) → isSg (nx ts i) = false)
    (back : tightN x = 7 → ∀ i ns, Seg ts i (teN L k) → nx ts (i + (teN L k).length) ≠ [40] → ∃ ms r, Iso L ms k r ∧ Onto ns ms ∧ Bk ts i ns (i + (teN L k).length) ms r)
    (sign : ∀ acc i ns, Seg ts i (teN L k) → NoDot ts (i + (teN L k).length) → ∃ ms r, Iso L ms k r ∧ Onto ns ms ∧ Ev ts (.signedL acc) i ns (OkR [(laySg acc.reverse r ms).1] (i + (teN L k).length) (laySg acc.reverse r ms).2)) : RdE L ts k x := by
  have full : ∀ l, 2 ≤ l → l ≤ 7 → ∀ i ns, Seg ts i (teN L k) → NoDot ts (i + (teN L k).length) → lineL (nx ts (i + (teN L k).length)) < l → ∃ ms r, Iso L ms k r ∧ Onto ns ms ∧ Ev ts (.chain l) i ns (OkR [r] (i + (teN L k).length) ms) := fun l h2 h7 i ns hs hd hn => by
    obtain ⟨ms, r, h1, h3, h4⟩ := sign [] i ns hs hd
    refine ⟨ms, r, h1, h3, full_to hn (7 - l) (by omega) ?_⟩
    rw [show l + (7 - l) = 7 by omega]
    exact full7 h4
  refine ⟨head, plain, back, fun _ => sign, fun l h2 h6 _ i ns hs hd hn => ?_, fun i ns hs hd hn => ?_⟩
  · obtain ⟨ms, r, h1, h3, h4⟩ := full (l + 1) (by omega) (by omega) i ns hs hd (by omega)
    exact ⟨ms, r, h1, h3, fun res hr => chain_of (by omega) h4 hr⟩
  · obtain ⟨ms, r, h1, h3, h4⟩ := full 2 (by omega) (by omega) i ns hs hd (by omega)
    exact ⟨ms, r, h1, h3, expr_of h4 hn⟩
/-- What binds tightest. -/
theorem rd_of_back (ht : tightN x = 7)
    (head : ∀ i, Seg ts i (teN L k) → firstNT (nx ts i) ≠ none ∨ isSg (nx ts i) = true)
    (plain : ∀ i, Seg ts i (teN L k) → isSg (nx ts i) = false)
    (back : ∀ i ns, Seg ts i (teN L k) → nx ts (i + (teN L k).length) ≠ [40] → ∃ ms r, Iso L ms k r ∧ Onto ns ms ∧ Bk ts i ns (i + (teN L k).length) ms r) : RdE L ts k x :=
  rd_of_sign (by omega) head (fun _ => plain) (fun _ => back) (fun acc i ns hs hd => by
    obtain ⟨ms, r, h1, h2, h3⟩ := back i ns hs hd.2.2
    exact ⟨ms, r, h1, h2, h3.sign hd (plain i hs) acc⟩)
/-- What begins with a word of its own. -/
theorem rd_of_first {nt : NT} (ht : tightN x = 7) {a : T3} {A : List T3} (hT : teN L k = a :: A) (hf : firstNT (nxA a) = some nt) (hg : isSg (nxA a) = false)
    (rd : ∀ i ns, Seg ts i (teN L k) → nx ts (i + (teN L k).length) ≠ [40] → ∃ ms r, Iso L ms k r ∧ Onto ns ms ∧ Ev ts nt i ns (OkR [r] (i + (teN L k).length) ms)) : RdE L ts k x := by
  have hn : ∀ i, Seg ts i (teN L k) → nx ts i = nxA a := fun i hs => by rw [hT] at hs; exact nx_of hs.head
  refine rd_of_back ht (fun i hs => ?_) (fun i hs => ?_) (fun i ns hs hp => ?_)
  · rw [hn i hs, hf]; exact .inl (by simp)
  · rw [hn i hs]; exact hg
  · obtain ⟨ms, r, h1, h2, h3⟩ := rd i ns hs hp
    refine ⟨ms, r, h1, h2, Bk.of_first (Ev.step (nt' := nt) (fun f => ?_) h3)⟩
    simp only [P]
    rw [hn i hs, hf]
end
/-! Lists with commas between. -/
section
variable {L : List T5.Nd} {ts : List Tok} {thing : Bool} {closing : List UInt8} {te : Int → List T3}
/-- One of a list. -/
def Itm (L : List T5.Nd) (ts : List Tok) (thing : Bool) (closing : List UInt8) (te : Int → List T3) (k : Int) : Prop :=
  ∀ i ns, Seg ts i (te k) → (nx ts (i + (te k).length) = [44] ∨ nx ts (i + (te k).length) = closing) → nx ts i ≠ closing ∧ ∃ ms r, Iso L ms k r ∧ Onto ns ms ∧ Ev ts (if thing then .expr else .name) i ns (OkR [r] (i + (te k).length) ms)
def restT (te : Int → List T3) (ks : List Int) : List T3 := ((ks.map te).map (fun s => tS [44] :: s)).flatten
theorem restT_next {closing : List UInt8} {i : Nat} (ks : List Int) (hs : Seg ts i (restT te ks ++ [tS closing])) : nx ts i = [44] ∨ nx ts i = closing := by
  cases ks with
  | nil => exact .inr (nx_of hs.head)
  | cons k r => exact .inl (nx_of hs.head)
theorem list_rest (hc : closing ≠ [44]) : ∀ (ks : List Int), (∀ k ∈ ks, Itm L ts thing closing te k) → ∀ (acc : List Nat) (i : Nat) (ns : List PN), Seg ts i (restT te ks ++ [tS closing]) → ∃ ms v, All2 (Iso L ms) ks v ∧ Onto ns ms ∧ Ev ts (.listedL thing closing acc) i ns (OkR (acc ++ v) (i + (restT te ks ++ [tS closing]).length) ms) := by
  intro ks
  induction ks with
  | nil =>
    intro _ acc i ns hs
    have e : nx ts i = closing := nx_of hs.head
    refine ⟨ns, [], trivial, Onto.refl ns, Ev.now (fun f => ?_)⟩
    simp only [P]
    rw [e, if_neg hc]
    unfold wantR
    rw [if_pos e]
    simp [restT, OkR]
  | cons k r ih =>
    intro H acc i ns hs
    have e0 : restT te (k :: r) ++ [tS closing] = tS [44] :: (te k ++ (restT te r ++ [tS closing])) := by simp [restT]
    rw [e0] at hs ⊢
    have e : nx ts i = [44] := nx_of hs.head
    have s1 := hs.tail
    have hn := restT_next r s1.right
    obtain ⟨_, ms, q, h1, h2, h3⟩ := H k (by simp) (i + 1) ns s1.left hn
    obtain ⟨ms', v, g1, g2, g3⟩ := ih (fun j hj => H j (by simp [hj])) (acc ++ [q]) _ ms s1.right
    refine ⟨ms', q :: v, ⟨h1.onto g2, g1⟩, h2.trans g2, ?_⟩
    have e1 : i + (tS [44] :: (te k ++ (restT te r ++ [tS closing]))).length = i + 1 + (te k).length + (restT te r ++ [tS closing]).length := by simp; omega
    have e2 : acc ++ q :: v = acc ++ [q] ++ v := by simp
    rw [e1, e2]
    exact Ev.bind1 (k := fun v j ms => (.listedL thing closing (acc ++ [hd v]), j, ms)) (fun f => by simp only [P]; rw [if_pos e]) h3 g3
theorem list_all (hc : closing ≠ [44]) (ks : List Int) (H : ∀ k ∈ ks, Itm L ts thing closing te k) {i : Nat} {ns : List PN} (hs : Seg ts i (joinT (ks.map te) ++ [tS closing])) : ∃ ms v, All2 (Iso L ms) ks v ∧ Onto ns ms ∧ Ev ts (.listed thing closing) i ns (OkR v (i + (joinT (ks.map te) ++ [tS closing]).length) ms) := by
  cases ks with
  | nil =>
    have e : nx ts i = closing := nx_of (hs : Seg ts i ([] ++ [tS closing])).head
    refine ⟨ns, [], trivial, Onto.refl ns, Ev.now (fun f => ?_)⟩
    simp only [P]
    rw [if_pos e]
    simp [joinT, OkR]
  | cons k r =>
    have e0 : joinT ((k :: r).map te) ++ [tS closing] = te k ++ (restT te r ++ [tS closing]) := by simp [restT, joinT]
    rw [e0] at hs ⊢
    have hn := restT_next r hs.right
    obtain ⟨e, ms, q, h1, h2, h3⟩ := H k (by simp) i ns hs.left hn
    obtain ⟨ms', v, g1, g2, g3⟩ := list_rest hc r (fun j hj => H j (by simp [hj])) [q] _ ms hs.right
    refine ⟨ms', q :: v, ⟨h1.onto g2, g1⟩, h2.trans g2, ?_⟩
    have e1 : i + (te k ++ (restT te r ++ [tS closing])).length = i + (te k).length + (restT te r ++ [tS closing]).length := by simp; omega
    rw [e1]
    exact Ev.bind1 (k := fun v j ms => (.listedL thing closing [hd v], j, ms)) (fun f => by simp only [P]; rw [if_neg e]) h3 g3
/-- An expression is one. -/
theorem itm_expr {k : Int} {x : T5.Nd} (R : RdE L ts k x) (hc : closing = [41]) : Itm L ts true closing (teN L) k := fun i ns hs hn => by
  subst hc
  refine ⟨fun e => ?_, R.expr i ns hs ?_ ?_⟩
  · have := R.head i hs
    rw [e] at this
    revert this
    simp [firstNT, isSg]
  · unfold NoDot; rcases hn with hn | hn <;> rw [hn] <;> decide
  · rcases hn with hn | hn <;> rw [hn] <;> decide
end
end Go.Proofs.YtnebhkglpggnlaaGreatDoor
namespace Go.Proofs.YtnebhkglpggnlaaGreatDoor
open Go.RowKit
set_option linter.unusedVariables false
set_option linter.unusedSimpArgs false
set_option linter.unusedSectionVars false

theorem nxA_S (s : List UInt8) : nxA (tS s) = s := rfl
theorem nxA_W (s : List UInt8) : nxA (tW s) = s := rfl
theorem nxA_N (s : List UInt8) : nxA (tN s) = nmB := rfl
theorem nxA_D (s : List UInt8) : nxA (tD s) = [110, 117, 109, 98, 101, 114] := rfl
section
variable {L : List T5.Nd} {ts : List Tok} {k : Int} {x : T5.Nd} (S : Shp L) (W : Wrd L) (hx : L[k.toNat]? = some x)
include S W hx
theorem bk_num (h : x.kind = 15) : RdE L ts k x := by
  have hT : teN L k = [tD (tx x)] := by rw [teN_eq S.kids hx]; simp [teX, h]
  refine rd_of_first (nt := .number) (by simp [tightN, h]) hT (by rw [nxA_D]; rfl) (by rw [nxA_D]; rfl) (fun i ns hs _ => ?_)
  rw [hT] at hs ⊢
  have en := n_of hs.head
  refine ⟨_, ns.length, Iso.new S.kids hx (kind := 15) (text := Lib.decDigits (tk ts i).n) (kids := []) (pl := (tk ts i).frm) h ?_ ?_, Onto.one _ _, Ev.now (fun f => by simp only [P]; rfl)⟩
  · rw [en]; exact (W.dec _ x hx h).symm
  · rw [S.nil hx (by omega)]; trivial
theorem bk_name (h : x.kind = 17) : RdE L ts k x := by
  have hT : teN L k = [tN (tx x)] := by rw [teN_eq S.kids hx]; simp [teX, h]
  refine rd_of_first (nt := .nameOrCall) (by simp [tightN, h]) hT (by rw [nxA_N]; rfl) (by rw [nxA_N]; rfl) (fun i ns hs hp => ?_)
  rw [hT] at hs hp ⊢
  have en := text_of hs.head
  refine ⟨_, ns.length, Iso.new S.kids hx (kind := 17) (text := (tk ts i).text) (kids := []) (pl := (tk ts i).frm) h ?_ ?_, Onto.one _ _, Ev.now (fun f => ?_)⟩
  · rw [en]; rfl
  · rw [S.nil hx (by omega)]; trivial
  · simp only [P]
    rw [if_neg (show ¬ nx ts (i + 1) = [40] from hp)]
    rfl
theorem bk_alone {K : Nat} {w : List UInt8} (h : x.kind = (K : Int)) (hk : x.kind = 16 ∨ x.kind = 30) (hw : wordB x.kind = w) (hf : firstNT w = some (.alone K)) (hg : isSg w = false) : RdE L ts k x := by
  have hT : teN L k = [tW w] := by rw [teN_eq S.kids hx, ← hw]; rcases hk with e | e <;> simp [teX, e]
  refine rd_of_first (nt := .alone K) (by unfold tightN; rw [if_neg (by omega), if_neg (by omega)]) hT (by rw [nxA_W]; exact hf) (by rw [nxA_W]; exact hg) (fun i ns hs _ => ?_)
  rw [hT] at hs ⊢
  refine ⟨_, ns.length, Iso.new S.kids hx (kind := K) (text := []) (kids := []) (pl := (tk ts i).frm) h (W.non _ x hx (by omega)) ?_, Onto.one _ _, Ev.now (fun f => by simp only [P]; rfl)⟩
  rw [S.nil hx (by omega)]; trivial
theorem bk_empty {K : Nat} {w : List UInt8} (h : x.kind = (K : Int)) (hk : x.kind = 26 ∨ x.kind = 28) (hw : wordB x.kind = w) (hf : firstNT w = some (.empty K)) (hg : isSg w = false) : RdE L ts k x := by
  have hks : x.ks = [] := S.nil hx (by omega)
  have hT : teN L k = [tW w, tS [40], tS [41]] := by rw [teN_eq S.kids hx, ← hw]; rcases hk with e | e <;> simp [teX, e, hks, joinT]
  refine rd_of_first (nt := .empty K) (by unfold tightN; rw [if_neg (by omega), if_neg (by omega)]) hT (by rw [nxA_W]; exact hf) (by rw [nxA_W]; exact hg) (fun i ns hs _ => ?_)
  rw [hT] at hs ⊢
  have e1 : nx ts (i + 1) = [40] := nx_of hs.tail.head
  have e2 : nx ts (i + 2) = [41] := nx_of hs.tail.tail.head
  refine ⟨_, ns.length, Iso.new S.kids hx (kind := K) (text := []) (kids := []) (pl := (tk ts i).frm) h (W.non _ x hx (by omega)) ?_, Onto.one _ _, Ev.now (fun f => ?_)⟩
  · rw [hks]; trivial
  · simp only [P]
    unfold wantR
    rw [if_pos e1, if_pos e2]
    rfl
theorem bk_made (h : x.kind = 23) : RdE L ts k x := by
  have hT : teN L k = [tW [110, 101, 119], tN (tx x)] := by rw [teN_eq S.kids hx]; simp [teX, h]
  refine rd_of_first (nt := .made) (by simp [tightN, h]) hT (by rw [nxA_W]; rfl) (by rw [nxA_W]; rfl) (fun i ns hs _ => ?_)
  rw [hT] at hs ⊢
  have e1 : nx ts (i + 1) = nmB := nx_of hs.tail.head
  have en := text_of hs.tail.head
  refine ⟨_, ns.length, Iso.new S.kids hx (kind := 23) (text := (tk ts (i + 1)).text) (kids := []) (pl := (tk ts (i + 1)).frm) h ?_ ?_, Onto.one _ _, Ev.now (fun f => ?_)⟩
  · rw [en]; rfl
  · rw [S.nil hx (by omega)]; trivial
  · simp only [P]
    unfold wantR
    rw [if_pos e1]
    rfl
theorem bk_about {K : Nat} {w : List UInt8} (h : x.kind = (K : Int)) (hk : x.kind = 24 ∨ x.kind = 25 ∨ x.kind = 27 ∨ x.kind = 29) (hw : wordB x.kind = w) (hf : firstNT w = some (.about K)) (hg : isSg w = false) {a : Int} (hks : x.ks = [a]) {y : T5.Nd} (R : RdE L ts a y) : RdE L ts k x := by
  have hT : teN L k = tW w :: (tS [40] :: (teN L a ++ [tS [41]])) := by rw [teN_eq S.kids hx, ← hw]; rcases hk with e | e | e | e <;> simp [teX, e, hks, joinT]
  refine rd_of_first (nt := .about K) (by unfold tightN; rw [if_neg (by omega), if_neg (by omega)]) hT (by rw [nxA_W]; exact hf) (by rw [nxA_W]; exact hg) (fun i ns hs _ => ?_)
  rw [hT] at hs ⊢
  have s1 := hs.tail
  have e1 : nx ts (i + 1) = [40] := nx_of s1.head
  have e2 : nx ts (i + 1 + 1 + (teN L a).length) = [41] := nx_of s1.tail.right.head
  obtain ⟨ms, r, h1, h2, h3⟩ := R.expr (i + 1 + 1) ns s1.tail.left (by unfold NoDot; rw [e2]; decide) (by rw [e2]; decide)
  refine ⟨_, ms.length, Iso.new S.kids hx (kind := K) (text := []) (kids := [r]) (pl := (tk ts i).frm) h (W.non _ x hx (by omega)) ?_, h2.trans (Onto.one _ _), ?_⟩
  · rw [hks]; exact ⟨h1, trivial⟩
  · have hj : i + (tW w :: (tS [40] :: (teN L a ++ [tS [41]]))).length = i + 1 + 1 + (teN L a).length + 1 := by simp; omega
    rw [hj]
    have hb : Ev ts .brack (i + 1) ns (OkR [r] (i + 1 + 1 + (teN L a).length + 1) ms) := by
      refine Ev.bind0 (k := fun v j ms => wantR ts [41] j (some (.ok (v, j + 1, ms)))) (fun f => by simp only [P]; unfold wantR; rw [if_pos e1]) h3 ?_
      unfold wantR
      rw [if_pos e2]
    exact Ev.bind0 (k := fun v j ns => layR K [] (tk ts i).frm [hd v] j ns) (fun f => by simp only [P]) hb rfl
theorem bk_call (h : x.kind = 22) (H : ∀ a ∈ x.ks, ∃ y, RdE L ts a y) : RdE L ts k x := by
  have hT : teN L k = tN (tx x) :: (tS [40] :: (joinT (x.ks.map (teN L)) ++ [tS [41]])) := by rw [teN_eq S.kids hx]; simp [teX, h]
  refine rd_of_first (nt := .nameOrCall) (by simp [tightN, h]) hT (by rw [nxA_N]; rfl) (by rw [nxA_N]; rfl) (fun i ns hs hp => ?_)
  rw [hT] at hs ⊢
  have en := text_of hs.head
  have e1 : nx ts (i + 1) = [40] := nx_of hs.tail.head
  obtain ⟨ms, v, h1, h2, h3⟩ := list_all (L := L) (ts := ts) (thing := true) (closing := [41]) (te := teN L) (by decide) x.ks (fun a ha => by obtain ⟨y, R⟩ := H a ha; exact itm_expr R rfl) (ns := ns) hs.tail.tail
  refine ⟨_, ms.length, Iso.new S.kids hx (kind := 22) (text := (tk ts i).text) (kids := v) (pl := (tk ts i).frm) h ?_ h1, h2.trans (Onto.one _ _), ?_⟩
  · rw [en]; rfl
  · have hj : i + (tN (tx x) :: (tS [40] :: (joinT (x.ks.map (teN L)) ++ [tS [41]]))).length = i + 1 + 1 + (joinT (x.ks.map (teN L)) ++ [tS [41]]).length := by simp; omega
    rw [hj]
    exact Ev.bind0 (k := fun v j ns => layR 22 (tk ts i).text (tk ts i).frm v j ns) (fun f => by simp only [P]; rw [if_pos e1]) h3 rfl
theorem bk_sign (h : x.kind = 18) {a : Int} (hks : x.ks = [a]) {y : T5.Nd} (hy : L[a.toNat]? = some y) (R : RdE L ts a y) : RdE L ts k x := by
  have hT : teN L k = tS (tx x) :: htN L a 6 := by rw [teN_eq S.kids hx]; simp [teX, h, hks, atT]
  have hg := W.un _ x hx h
  have hn : ∀ i, Seg ts i (teN L k) → nx ts i = tx x := fun i hs => by rw [hT] at hs; exact nx_of hs.head
  have ht : tightN x = 6 := by simp [tightN, h]
  refine rd_of_sign (by omega) (fun i hs => ?_) (fun e => by omega) (fun e => by omega) (fun acc i ns hs hd' => ?_)
  · rw [hn i hs]; exact .inr hg
  · have e0 := hn i hs
    rw [hT] at hs hd' ⊢
    have en := text_of hs.head
    have hj : i + (tS (tx x) :: htN L a 6).length = i + 1 + (htN L a 6).length := by simp; omega
    rw [hj] at hd' ⊢
    obtain ⟨ms, r, h1, h2, h3⟩ := held_sign R hy (acc ++ [tk ts i]) (ns := ns) hs.tail hd'
    refine ⟨_, ms.length, Iso.new S.kids hx (kind := 18) (text := (tk ts i).text) (kids := [r]) (pl := (tk ts i).frm) h ?_ ?_, h2.trans (Onto.one _ _), ?_⟩
    · rw [en]; rfl
    · rw [hks]; exact ⟨h1, trivial⟩
    · rw [List.reverse_append] at h3
      exact Ev.step (nt' := .signedL (acc ++ [tk ts i])) (fun f => by simp only [P]; rw [e0, if_pos hg]) h3
theorem bk_field (h : x.kind = 20) {a : Int} (hks : x.ks = [a]) {y : T5.Nd} (hy : L[a.toNat]? = some y) (R : RdE L ts a y) : RdE L ts k x := by
  have hT : teN L k = htN L a 7 ++ [tS [46], tN (tx x)] := by rw [teN_eq S.kids hx]; simp [teX, h, hks, atT]
  refine rd_of_back (by simp [tightN, h]) (fun i hs => ?_) (fun i hs => ?_) (fun i ns hs _ => ?_)
  · rw [hT] at hs; exact held_head R hy hs.left
  · rw [hT] at hs; exact held_plain R hy hs.left
  · rw [hT] at hs ⊢
    have e1 : nx ts (i + (htN L a 7).length) = [46] := nx_of hs.right.head
    have e2 : nx ts (i + (htN L a 7).length + 1) = nmB := nx_of hs.right.tail.head
    have en := text_of hs.right.tail.head
    have hj : i + (htN L a 7 ++ [tS [46], tN (tx x)]).length = i + (htN L a 7).length + 2 := by simp; omega
    rw [hj]
    obtain ⟨ms, r, h1, h2, h3⟩ := held_back R hy (ns := ns) hs.left (by rw [e1]; decide)
    refine ⟨_, ms.length, Iso.new S.kids hx (kind := 20) (text := (tk ts (i + (htN L a 7).length + 1)).text) (kids := [r]) (pl := (tk ts (i + (htN L a 7).length)).frm) h ?_ ?_, h2.trans (Onto.one _ _), fun res hr => h3 res ?_⟩
    · rw [en]; rfl
    · rw [hks]; exact ⟨h1, trivial⟩
    · refine Ev.bind1 (nt' := .field r) (k := fun v j ms => (.backL (hd v), j, ms)) (v := [ms.length]) (fun f => by simp only [P]; rw [if_pos e1]) (Ev.now (fun f => ?_)) hr
      simp only [P]
      unfold wantR
      rw [if_pos e2]
      rfl
theorem bk_elem (h : x.kind = 21) {a b : Int} (hks : x.ks = [a, b]) {y z : T5.Nd} (hy : L[a.toNat]? = some y) (R : RdE L ts a y) (Q : RdE L ts b z) : RdE L ts k x := by
  have hT : teN L k = htN L a 7 ++ (tS [91] :: (teN L b ++ [tS [93]])) := by rw [teN_eq S.kids hx]; simp [teX, h, hks, atT]
  refine rd_of_back (by simp [tightN, h]) (fun i hs => ?_) (fun i hs => ?_) (fun i ns hs _ => ?_)
  · rw [hT] at hs; exact held_head R hy hs.left
  · rw [hT] at hs; exact held_plain R hy hs.left
  · rw [hT] at hs ⊢
    have e1 : nx ts (i + (htN L a 7).length) = [91] := nx_of hs.right.head
    have e2 : nx ts (i + (htN L a 7).length + 1 + (teN L b).length) = [93] := nx_of hs.right.tail.right.head
    have hj : i + (htN L a 7 ++ (tS [91] :: (teN L b ++ [tS [93]]))).length = i + (htN L a 7).length + 1 + (teN L b).length + 1 := by simp; omega
    rw [hj]
    obtain ⟨ms, r, h1, h2, h3⟩ := held_back R hy (ns := ns) hs.left (by rw [e1]; decide)
    obtain ⟨ms', r', g1, g2, g3⟩ := Q.expr _ ms hs.right.tail.left (by unfold NoDot; rw [e2]; decide) (by rw [e2]; decide)
    refine ⟨_, ms'.length, Iso.new S.kids hx (kind := 21) (text := []) (kids := [r, r']) (pl := (tk ts (i + (htN L a 7).length)).frm) h (W.non _ x hx (by omega)) ?_, (h2.trans g2).trans (Onto.one _ _), fun res hr => h3 res ?_⟩
    · rw [hks]; exact ⟨h1.onto g2, g1, trivial⟩
    · refine Ev.bind1 (nt' := .elem r) (v := [ms'.length]) (k := fun v j ms => (.backL (hd v), j, ms)) (fun f => by simp only [P]; rw [if_neg (by rw [e1]; decide), if_pos e1]) (Ev.bind0 (k := fun v j ns => wantR ts [93] j (layR 21 [] (tk ts (i + (htN L a 7).length)).frm [r, hd v] (j + 1) ns)) (fun f => by simp only [P]) g3 ?_) hr
      unfold wantR
      rw [if_pos e2]
      rfl
theorem bk_bin (h : x.kind = 19) {a b : Int} (hks : x.ks = [a, b]) {y z : T5.Nd} (hy : L[a.toNat]? = some y) (hz : L[b.toNat]? = some z) (R : RdE L ts a y) (Q : RdE L ts b z) : RdE L ts k x := by
  obtain ⟨wl, w1, w2, w3⟩ := W.bin _ x hx h
  have ht : tightN x = opT (tx x) := by simp [tightN, h]
  have ht5 := opT_le (tx x)
  have hln : lnN x = opT (tx x) + 1 := by unfold lnN; rw [ht, if_pos (by omega)]
  have hT : teN L k = htN L a (max (opT (tx x)) 1) ++ (tS (tx x) :: htN L b (opT (tx x) + 1)) := by rw [teN_eq S.kids hx]; simp [teX, h, hks, atT]
  have hj : ∀ i, i + (htN L a (max (opT (tx x)) 1) ++ (tS (tx x) :: htN L b (opT (tx x) + 1))).length = i + (htN L a (max (opT (tx x)) 1)).length + 1 + (htN L b (opT (tx x) + 1)).length := fun i => by simp; omega
  have top : ∀ l, l = opT (tx x) + 1 → 2 ≤ l → ∀ i ns, Seg ts i (teN L k) → NoDot ts (i + (teN L k).length) → lineL (nx ts (i + (teN L k).length)) ≤ l → ∃ ms r, Iso L ms k r ∧ Onto ns ms ∧ ∀ res, Ev ts (.chainL l r) (i + (teN L k).length) ms res → Ev ts (.chain l) i ns res := by
    intro l el l2 i ns hs hd' hn
    rw [hT] at hs hd' hn ⊢
    rw [hj] at hd' hn ⊢
    have hm : max (opT (tx x)) 1 = opT (tx x) := by omega
    rw [hm] at hs hd' hn ⊢
    have e1 : nx ts (i + (htN L a (opT (tx x))).length) = tx x := nx_of hs.right.head
    have en := text_of hs.right.head
    obtain ⟨ms, r, h1, h2, h3⟩ := held_chain R hy (t := opT (tx x)) (l := l) (by omega) l2 (by omega) (ns := ns) hs.left (by unfold NoDot; rw [e1]; exact ⟨w1, w2, w3⟩) (by rw [e1, wl]; omega)
    obtain ⟨ms', r', g1, g2, g3⟩ := held_full Q hz (t := opT (tx x) + 1) (l := l + 1) (by omega) (by omega) (by omega) (ns := ms) hs.right.tail hd' (by omega)
    refine ⟨_, ms'.length, Iso.new S.kids hx (kind := 19) (text := (tk ts (i + (htN L a (opT (tx x))).length)).text) (kids := [r, r']) (pl := (tk ts (i + (htN L a (opT (tx x))).length)).frm) h ?_ ?_, (h2.trans g2).trans (Onto.one _ _), fun res hr => h3 res ?_⟩
    · rw [en]; rfl
    · rw [hks]; exact ⟨h1.onto g2, g1, trivial⟩
    · exact Ev.bind1 (nt' := .joined r (l + 1)) (k := fun v j ms => (.chainL l (hd v), j, ms)) (fun f => by simp only [P]; rw [if_pos (by rw [e1, wl, el])]) (Ev.bind0 (k := fun v j ns => layR 19 (tk ts (i + (htN L a (opT (tx x))).length)).text (tk ts (i + (htN L a (opT (tx x))).length)).frm [r, hd v] j ns) (fun f => by simp only [P]) g3 rfl) hr
  have chain : ∀ l, 2 ≤ l → l ≤ 6 → l ≤ lnN x → ∀ i ns, Seg ts i (teN L k) → NoDot ts (i + (teN L k).length) → lineL (nx ts (i + (teN L k).length)) ≤ l → ∃ ms r, Iso L ms k r ∧ Onto ns ms ∧ ∀ res, Ev ts (.chainL l r) (i + (teN L k).length) ms res → Ev ts (.chain l) i ns res := by
    intro l l2 l6 ll i ns hs hd' hn
    by_cases e : l = opT (tx x) + 1
    · exact top l e l2 i ns hs hd' hn
    · obtain ⟨ms, r, h1, h2, h3⟩ := top (opT (tx x) + 1) rfl (by omega) i ns hs hd' (by omega)
      have h4 := h3 _ (chain_stop (by omega))
      refine ⟨ms, r, h1, h2, fun res hr => chain_of (by omega) (full_to (by omega) (opT (tx x) + 1 - (l + 1)) (by omega) ?_) hr⟩
      rw [show l + 1 + (opT (tx x) + 1 - (l + 1)) = opT (tx x) + 1 by omega]
      exact h4
  refine ⟨fun i hs => ?_, fun e => by omega, fun e => by omega, fun e => by omega, chain, fun i ns hs hd' hn => ?_⟩
  · rw [hT] at hs; exact held_head R hy hs.left
  · by_cases e : opT (tx x) = 0
    · rw [hT] at hs hd' hn ⊢
      rw [hj] at hd' hn ⊢
      simp only [e, show max 0 1 = 1 from rfl, Nat.zero_add] at hs hd' hn wl ⊢
      have e1 : nx ts (i + (htN L a 1).length) = tx x := nx_of hs.right.head
      have en := text_of hs.right.head
      obtain ⟨ms, r, h1, h2, h3⟩ := held_full R hy (t := 1) (l := 2) rfl (by omega) (by omega) (ns := ns) hs.left (by unfold NoDot; rw [e1]; exact ⟨w1, w2, w3⟩) (by rw [e1, wl]; omega)
      obtain ⟨ms', r', g1, g2, g3⟩ := held_full Q hz (t := 1) (l := 2) rfl (by omega) (by omega) (ns := ms) hs.right.tail hd' (by omega)
      refine ⟨_, ms'.length, Iso.new S.kids hx (kind := 19) (text := (tk ts (i + (htN L a 1).length)).text) (kids := [r, r']) (pl := (tk ts (i + (htN L a 1).length)).frm) h ?_ ?_, (h2.trans g2).trans (Onto.one _ _), ?_⟩
      · rw [en]; rfl
      · rw [hks]; exact ⟨h1.onto g2, g1, trivial⟩
      · have hJ : Ev ts (.joined r 2) (i + (htN L a 1).length) ms (OkR [ms'.length] (i + (htN L a 1).length + 1 + (htN L b 1).length) (ms' ++ [⟨19, (tk ts (i + (htN L a 1).length)).text, [r, r'], (tk ts (i + (htN L a 1).length)).frm⟩])) := Ev.bind0 (k := fun v j ns => layR 19 (tk ts (i + (htN L a 1).length)).text (tk ts (i + (htN L a 1).length)).frm [r, hd v] j ns) (fun f => by simp only [P]) g3 rfl
        obtain ⟨f, h3⟩ := h3
        obtain ⟨g, hJ⟩ := hJ
        refine ⟨max f g + 1, ?_⟩
        simp only [P]
        rw [P_mono (Nat.le_max_left f g) h3]
        show (if lineL (nx ts (i + (htN L a 1).length)) = 1 then _ else _) = _
        rw [e1, wl, if_pos rfl]
        exact P_mono (Nat.le_max_right f g) hJ
    · obtain ⟨ms, r, h1, h2, h3⟩ := chain 2 (by omega) (by omega) (by omega) i ns hs hd' (by omega)
      exact ⟨ms, r, h1, h2, expr_of (h3 _ (chain_stop (by omega))) hn⟩
end
/-- Every expression. -/
theorem bk_all {L : List T5.Nd} {ts : List Tok} (S : Shp L) (W : Wrd L) : ∀ (n : Nat) (k : Int) (x : T5.Nd), k.toNat < n → L[k.toNat]? = some x → T5.isEx x.kind = true → RdE L ts k x := by
  intro n
  induction n with
  | zero => intro k x h; omega
  | succ n ih =>
    intro k x hn hx he
    have ihk : ∀ a ∈ x.ks, T5.isEx (T5.kd L a) = true → ∃ y, L[a.toNat]? = some y ∧ RdE L ts a y := fun a ha hE => by
      obtain ⟨k0, k1⟩ := S.kids _ x hx a ha
      cases hy : L[a.toNat]? with
      | none => rw [T5.kd, hy] at hE; simp [T5.isEx] at hE
      | some y =>
        rw [T5.kd, hy] at hE
        exact ⟨y, rfl, ih a y (by omega) hy hE⟩
    have hk : x.kind = 15 ∨ x.kind = 16 ∨ x.kind = 17 ∨ x.kind = 18 ∨ x.kind = 19 ∨ x.kind = 20 ∨ x.kind = 21 ∨ x.kind = 22 ∨ x.kind = 23 ∨ x.kind = 24 ∨ x.kind = 25 ∨ x.kind = 26 ∨ x.kind = 27 ∨ x.kind = 28 ∨ x.kind = 29 ∨ x.kind = 30 := by
      have := of_decide_eq_true he
      omega
    rcases hk with e | e | e | e | e | e | e | e | e | e | e | e | e | e | e | e
    · exact bk_num S W hx e
    · exact bk_alone S W hx (K := 16) e (by omega) (by rw [e]) (by rfl) (by rfl)
    · exact bk_name S W hx e
    · obtain ⟨a, ha, hE⟩ := S.one hx (by omega)
      obtain ⟨y, hy, R⟩ := ihk a (by simp [ha]) hE
      exact bk_sign S W hx e ha hy R
    · obtain ⟨a, b, ha, hE, hF⟩ := S.two hx (by omega)
      obtain ⟨y, hy, R⟩ := ihk a (by simp [ha]) hE
      obtain ⟨z, hz, Q⟩ := ihk b (by simp [ha]) hF
      exact bk_bin S W hx e ha hy hz R Q
    · obtain ⟨a, ha, hE⟩ := S.one hx (by omega)
      obtain ⟨y, hy, R⟩ := ihk a (by simp [ha]) hE
      exact bk_field S W hx e ha hy R
    · obtain ⟨a, b, ha, hE, hF⟩ := S.two hx (by omega)
      obtain ⟨y, hy, R⟩ := ihk a (by simp [ha]) hE
      obtain ⟨z, hz, Q⟩ := ihk b (by simp [ha]) hF
      exact bk_elem S W hx e ha hy R Q
    · have hm := S.many hx (by omega)
      exact bk_call S W hx e (fun a ha => by obtain ⟨y, hy, R⟩ := ihk a ha (hm a ha); exact ⟨y, R⟩)
    · exact bk_made S W hx e
    all_goals first
      | exact bk_empty S W hx (K := 26) e (by omega) (by rw [e]) (by rfl) (by rfl)
      | exact bk_empty S W hx (K := 28) e (by omega) (by rw [e]) (by rfl) (by rfl)
      | exact bk_alone S W hx (K := 30) e (by omega) (by rw [e]) (by rfl) (by rfl)
      | (obtain ⟨a, ha, hE⟩ := S.one hx (by omega)
         obtain ⟨y, hy, R⟩ := ihk a (by simp [ha]) hE
         first
           | exact bk_about S W hx (K := 24) e (by omega) (by rw [e]) (by rfl) (by rfl) ha R
           | exact bk_about S W hx (K := 25) e (by omega) (by rw [e]) (by rfl) (by rfl) ha R
           | exact bk_about S W hx (K := 27) e (by omega) (by rw [e]) (by rfl) (by rfl) ha R
           | exact bk_about S W hx (K := 29) e (by omega) (by rw [e]) (by rfl) (by rfl) ha R)
end Go.Proofs.YtnebhkglpggnlaaGreatDoor
namespace Go.Proofs.YtnebhkglpggnlaaGreatDoor
open Go.RowKit
set_option linter.unusedVariables false
set_option linter.unusedSimpArgs false
set_option linter.unusedSectionVars false

def elB : List UInt8 := [101, 108, 115, 101]
/-- A statement's tokens, out of its kids'. -/
def stX (x : T5.Nd) (e b o : Int → List T3) : List T3 :=
  if x.kind = 5 then tW [108, 101, 116] :: tN (tx x) :: tS [61] :: (atT x.ks 0 e ++ [tS [59]])
  else if x.kind = 6 then atT x.ks 0 e ++ (tS [61] :: (atT x.ks 1 e ++ [tS [59]]))
  else if x.kind = 7 then tW [105, 102] :: (atT x.ks 0 e ++ ((tS [123] :: (atT x.ks 1 b ++ [tS [125]])) ++ atT x.ks 2 o))
  else if x.kind = 8 then tW [119, 104, 105, 108, 101] :: (atT x.ks 0 e ++ (tS [123] :: (atT x.ks 1 b ++ [tS [125]])))
  else if x.kind = 12 then atT x.ks 0 e ++ [tS [59]]
  else if x.kind = 13 then tW [109, 101, 114, 103, 101] :: tS [40] :: ((joinT (x.ks.map e) ++ [tS [41]]) ++ [tS [59]])
  else tW (wordB x.kind) :: (atT x.ks 0 e ++ [tS [59]])
theorem stX_congr {x : T5.Nd} {e b b' o o' : Int → List T3} (hb : ∀ k ∈ x.ks, b k = b' k) (ho : ∀ k ∈ x.ks, o k = o' k) : stX x e b o = stX x e b' o' := by
  have a1 : ∀ i, atT x.ks i b = atT x.ks i b' := fun i => atT_congr hb
  have a2 : ∀ i, atT x.ks i o = atT x.ks i o' := fun i => atT_congr ho
  unfold stX
  simp only [a1, a2]
def elT (L : List T5.Nd) (b : Int → List T3) (k : Int) : List T3 := if T5.kd L k = 4 then tW elB :: (tS [123] :: (b k ++ [tS [125]])) else []
def tsF (L : List T5.Nd) : Nat → Int → List T3
  | 0, _ => []
  | f + 1, k => match L[k.toNat]? with
    | none => []
    | some x => stX x (teN L) (fun j => match L[j.toNat]? with | none => [] | some y => (y.ks.map (tsF L f)).flatten) (elT L (fun j => match L[j.toNat]? with | none => [] | some y => (y.ks.map (tsF L f)).flatten))
theorem tsF_same {L : List T5.Nd} (hK : Kids L) : ∀ (f g : Nat) (k : Int), k.toNat < f → k.toNat < g → tsF L f k = tsF L g k := by
  intro f
  induction f with
  | zero => intro g k h; omega
  | succ f ih =>
    intro g k h hg
    obtain _ | g := g
    · omega
    simp only [tsF]
    cases hx : L[k.toNat]? with
    | none => rfl
    | some x =>
      have e : ∀ j ∈ x.ks, (match L[j.toNat]? with | none => [] | some y => (y.ks.map (tsF L f)).flatten) = (match L[j.toNat]? with | none => [] | some y => (y.ks.map (tsF L g)).flatten : List T3) := fun j hj => by
        obtain ⟨k0, k1⟩ := hK _ x hx j hj
        cases hy : L[j.toNat]? with
        | none => rfl
        | some y =>
          have e2 : y.ks.map (tsF L f) = y.ks.map (tsF L g) := List.map_congr_left (fun i hi => by
            obtain ⟨i0, i1⟩ := hK _ y hy i hi
            exact ih g i (by omega) (by omega))
          simp only [e2]
      exact stX_congr e (fun j hj => by unfold elT; simp only [e j hj])
def tsN (L : List T5.Nd) (k : Int) : List T3 := tsF L (k.toNat + 1) k
def tbN (L : List T5.Nd) (k : Int) : List T3 := match L[k.toNat]? with | none => [] | some y => (y.ks.map (tsN L)).flatten
theorem tsN_eq {L : List T5.Nd} (hK : Kids L) {k : Int} {x : T5.Nd} (hx : L[k.toNat]? = some x) : tsN L k = stX x (teN L) (tbN L) (elT L (tbN L)) := by
  unfold tsN
  simp only [tsF, hx]
  have e : ∀ j ∈ x.ks, (match L[j.toNat]? with | none => [] | some y => (y.ks.map (tsF L k.toNat)).flatten) = tbN L j := fun j hj => by
    obtain ⟨k0, k1⟩ := hK _ x hx j hj
    unfold tbN
    cases hy : L[j.toNat]? with
    | none => rfl
    | some y =>
      have e2 : y.ks.map (tsF L k.toNat) = y.ks.map (tsN L) := List.map_congr_left (fun i hi => by
        obtain ⟨i0, i1⟩ := hK _ y hy i hi
        exact tsF_same hK _ _ i (by omega) (by omega))
      simp only [e2]
  exact stX_congr e (fun j hj => by unfold elT; simp only [e j hj])
theorem first_stmt {s : List UInt8} (h : firstNT s ≠ none) : stmtNT s = none := by
  unfold stmtNT
  repeat' split
  all_goals first | rfl | (subst_vars; exact absurd rfl h)
/-- What may stand at a statement's head. -/
def HdS (s : List UInt8) : Prop := firstNT s ≠ none ∨ stmtNT s ≠ none
theorem HdS.not {s : List UInt8} (h : HdS s) : s ≠ [125] ∧ s ≠ elB := by
  constructor <;> (intro e; subst e; revert h; simp [HdS, firstNT, stmtNT, elB])
section
variable {L : List T5.Nd} {ts : List Tok} {k : Int} {x : T5.Nd}
/-- How a statement is read. -/
structure RdS (L : List T5.Nd) (ts : List Tok) (k : Int) : Prop where
  head : ∀ i, Seg ts i (tsN L k) → HdS (nx ts i)
  rd : ∀ i ns, Seg ts i (tsN L k) → nx ts (i + (tsN L k).length) ≠ elB → ∃ ms r, Iso L ms k r ∧ Onto ns ms ∧ Ev ts .stmt i ns (OkR [r] (i + (tsN L k).length) ms)
/-- What begins with a word. -/
theorem rs_word {nt : NT} {a : T3} {A : List T3} (hT : tsN L k = a :: A) (hf : stmtNT (nxA a) = some nt)
    (rd : ∀ i ns, Seg ts i (tsN L k) → nx ts (i + (tsN L k).length) ≠ elB → ∃ ms r, Iso L ms k r ∧ Onto ns ms ∧ Ev ts nt i ns (OkR [r] (i + (tsN L k).length) ms)) : RdS L ts k := by
  have hn : ∀ i, Seg ts i (tsN L k) → nx ts i = nxA a := fun i hs => by rw [hT] at hs; exact nx_of hs.head
  refine ⟨fun i hs => ?_, fun i ns hs he => ?_⟩
  · rw [hn i hs]; exact .inr (by rw [hf]; simp)
  · obtain ⟨ms, r, h1, h2, h3⟩ := rd i ns hs he
    refine ⟨ms, r, h1, h2, Ev.step (nt' := nt) (fun f => ?_) h3⟩
    simp only [P]
    rw [hn i hs, hf]
/-- A list of statements, up to its closing brace. -/
theorem rd_rows : ∀ (ks : List Int), (∀ k ∈ ks, RdS L ts k) → ∀ (pl : Nat) (acc : List Nat) (i : Nat) (ns : List PN), Seg ts i ((ks.map (tsN L)).flatten ++ [tS [125]]) → ∃ ms v, All2 (Iso L ms) ks v ∧ Onto ns ms ∧ Ev ts (.blockL pl acc) i ns (OkR [ms.length] (i + ((ks.map (tsN L)).flatten ++ [tS [125]]).length) (ms ++ [⟨4, [], acc ++ v, pl⟩])) := by
  intro ks
  induction ks with
  | nil =>
    intro _ pl acc i ns hs
    have e : nx ts i = [125] := nx_of (hs : Seg ts i ([] ++ [tS [125]])).head
    refine ⟨ns, [], trivial, Onto.refl ns, Ev.now (fun f => ?_)⟩
    simp only [P]
    rw [if_pos e]
    simp [layR, OkR]
  | cons k r ih =>
    intro H pl acc i ns hs
    have e0 : ((k :: r).map (tsN L)).flatten ++ [tS [125]] = tsN L k ++ ((r.map (tsN L)).flatten ++ [tS [125]]) := by simp
    rw [e0] at hs ⊢
    have hb := ((H k (by simp)).head i hs.left).not.1
    have he : nx ts (i + (tsN L k).length) ≠ elB := by
      cases r with
      | nil =>
        have e : nx ts (i + (tsN L k).length) = [125] := nx_of (hs.right : Seg ts _ ([] ++ [tS [125]])).head
        rw [e]; decide
      | cons j r =>
        have := hs.right
        rw [show ((j :: r).map (tsN L)).flatten ++ [tS [125]] = tsN L j ++ ((r.map (tsN L)).flatten ++ [tS [125]]) by simp] at this
        exact ((H j (by simp)).head _ this.left).not.2
    obtain ⟨ms, q, h1, h2, h3⟩ := (H k (by simp)).rd i ns hs.left he
    obtain ⟨ms', v, g1, g2, g3⟩ := ih (fun j hj => H j (by simp [hj])) pl (acc ++ [q]) _ ms hs.right
    refine ⟨ms', q :: v, ⟨h1.onto g2, g1⟩, h2.trans g2, ?_⟩
    have e1 : i + (tsN L k ++ ((r.map (tsN L)).flatten ++ [tS [125]])).length = i + (tsN L k).length + ((r.map (tsN L)).flatten ++ [tS [125]]).length := by simp; omega
    have e2 : acc ++ q :: v = acc ++ [q] ++ v := by simp
    rw [e1, e2]
    exact Ev.bind1 (k := fun v j ms => (.blockL pl (acc ++ [hd v]), j, ms)) (fun f => by simp only [P]; rw [if_neg hb]) h3 g3
theorem rd_block (S : Shp L) (W : Wrd L) (hx : L[k.toNat]? = some x) (h : x.kind = 4) (H : ∀ j ∈ x.ks, RdS L ts j) {i : Nat} {ns : List PN} (hs : Seg ts i (tS [123] :: (tbN L k ++ [tS [125]]))) : ∃ ms r, Iso L ms k r ∧ Onto ns ms ∧ Ev ts (.block 0) i ns (OkR [r] (i + (tS [123] :: (tbN L k ++ [tS [125]])).length) ms) := by
  have eb : tbN L k = (x.ks.map (tsN L)).flatten := by unfold tbN; rw [hx]
  rw [eb] at hs ⊢
  have e : nx ts i = [123] := nx_of hs.head
  obtain ⟨ms, v, h1, h2, h3⟩ := rd_rows x.ks H (tk ts i).frm [] (i + 1) ns hs.tail
  refine ⟨_, ms.length, Iso.new S.kids hx (kind := 4) (text := []) (kids := [] ++ v) (pl := (tk ts i).frm) h (W.non _ x hx (by omega)) h1, h2.trans (Onto.one _ _), ?_⟩
  have hj : i + (tS [123] :: ((x.ks.map (tsN L)).flatten ++ [tS [125]])).length = i + 1 + ((x.ks.map (tsN L)).flatten ++ [tS [125]]).length := by simp; omega
  rw [hj]
  exact Ev.step (nt' := .blockL (tk ts i).frm []) (fun f => by simp only [P]; unfold wantR; rw [if_pos e]) h3
/-- A name of a list of names. -/
theorem itm_name {closing : List UInt8} (S : Shp L) (hc : closing ≠ nmB) (hk : T5.kd L k = 17) : Itm L ts false closing (teN L) k := fun i ns hs _ => by
  cases hx : L[k.toNat]? with
  | none => rw [T5.kd, hx] at hk; cases hk
  | some x =>
    have h : x.kind = 17 := by rw [T5.kd, hx] at hk; exact hk
    have hT : teN L k = [tN (tx x)] := by rw [teN_eq S.kids hx]; simp [teX, h]
    rw [hT] at hs ⊢
    have e : nx ts i = nmB := nx_of hs.head
    have en := text_of hs.head
    refine ⟨by rw [e]; exact fun c => hc c.symm, _, ns.length, Iso.new S.kids hx (kind := 17) (text := (tk ts i).text) (kids := []) (pl := (tk ts i).frm) h ?_ ?_, Onto.one _ _, Ev.now (fun f => ?_)⟩
    · rw [en]; rfl
    · rw [S.nil hx (by omega)]; trivial
    · simp only [P]
      unfold wantR
      rw [if_pos e]
      rfl
end
end Go.Proofs.YtnebhkglpggnlaaGreatDoor
namespace Go.Proofs.YtnebhkglpggnlaaGreatDoor
open Go.RowKit
set_option linter.unusedVariables false
set_option linter.unusedSimpArgs false
set_option linter.unusedSectionVars false

theorem Shp.names {L : List T5.Nd} (S : Shp L) {i : Nat} {x : T5.Nd} (hx : L[i]? = some x) (hk : x.kind = 2 ∨ x.kind = 13) : ∀ k ∈ x.ks, T5.kd L k = 17 := by
  have h := S.sh i x hx
  rcases hk with e | e <;> rw [e] at h <;> simp [T5.shapeL] at h <;> exact h
theorem Shp.place {L : List T5.Nd} (S : Shp L) {i : Nat} {x : T5.Nd} (hx : L[i]? = some x) (hk : x.kind = 6) : ∃ a b, x.ks = [a, b] ∧ T5.isEx (T5.kd L a) = true ∧ T5.isEx (T5.kd L b) = true ∧ (T5.kd L a = 17 ∨ T5.kd L a = 20 ∨ T5.kd L a = 21 ∨ T5.kd L a = 30) := by
  have h := S.sh i x hx
  rw [hk] at h
  simp [T5.shapeL] at h
  obtain ⟨⟨h1, h2⟩, h3⟩ := h
  obtain ⟨a, b, e⟩ := len2 h2
  rw [e] at h3
  simp at h3
  exact ⟨a, b, e, h1 a (by simp [e]), h1 b (by simp [e]), by omega⟩
/-- What ends an expression. -/
def Ends (s : List UInt8) : Prop := s = [59] ∨ s = [123] ∨ s = [61]
theorem Ends.dot {ts : List Tok} {j : Nat} (h : Ends (nx ts j)) : NoDot ts j ∧ lineL (nx ts j) = 0 := by
  unfold NoDot
  rcases h with h | h | h <;> rw [h] <;> decide
section
variable {L : List T5.Nd} {ts : List Tok} {k : Int} {x : T5.Nd} (S : Shp L) (W : Wrd L) (hx : L[k.toNat]? = some x)
include S W hx
theorem rs_let (h : x.kind = 5) {a : Int} (hks : x.ks = [a]) {y : T5.Nd} (R : RdE L ts a y) : RdS L ts k := by
  have hT : tsN L k = tW [108, 101, 116] :: tN (tx x) :: tS [61] :: (teN L a ++ [tS [59]]) := by rw [tsN_eq S.kids hx]; simp [stX, h, hks, atT]
  refine rs_word (nt := .letS) hT (by rw [nxA_W]; rfl) (fun i ns hs _ => ?_)
  rw [hT] at hs ⊢
  have e1 : nx ts (i + 1) = nmB := nx_of hs.tail.head
  have en := text_of hs.tail.head
  have e2 : nx ts (i + 2) = [61] := nx_of hs.tail.tail.head
  have s3 : Seg ts (i + 3) (teN L a ++ [tS [59]]) := hs.tail.tail.tail
  have e3 : nx ts (i + 3 + (teN L a).length) = [59] := nx_of s3.right.head
  obtain ⟨d1, d2⟩ := Ends.dot (ts := ts) (j := i + 3 + (teN L a).length) (.inl e3)
  obtain ⟨ms, r, h1, h2, h3⟩ := R.expr (i + 3) ns s3.left d1 d2
  refine ⟨_, ms.length, Iso.new S.kids hx (kind := 5) (text := (tk ts (i + 1)).text) (kids := [r]) (pl := (tk ts (i + 1)).frm) h ?_ ?_, h2.trans (Onto.one _ _), ?_⟩
  · rw [en]; rfl
  · rw [hks]; exact ⟨h1, trivial⟩
  · have hj : i + (tW [108, 101, 116] :: tN (tx x) :: tS [61] :: (teN L a ++ [tS [59]])).length = i + 3 + (teN L a).length + 1 := by simp; omega
    rw [hj]
    refine Ev.bind0 (k := fun v j ns => wantR ts [59] j (layR 5 (tk ts (i + 1)).text (tk ts (i + 1)).frm [hd v] (j + 1) ns)) (fun f => by simp only [P]; unfold wantR; rw [if_pos e1, if_pos e2]) h3 ?_
    unfold wantR
    rw [if_pos e3]
    rfl
theorem rs_worded {K : Nat} {w : List UInt8} (h : x.kind = (K : Int)) (hk : x.kind = 9 ∨ x.kind = 10 ∨ x.kind = 11) (hw : wordB x.kind = w) (hf : stmtNT w = some (.worded K)) {a : Int} (hks : x.ks = [a]) {y : T5.Nd} (R : RdE L ts a y) : RdS L ts k := by
  have hT : tsN L k = tW w :: (teN L a ++ [tS [59]]) := by rw [tsN_eq S.kids hx, ← hw]; rcases hk with e | e | e <;> simp [stX, e, hks, atT]
  refine rs_word (nt := .worded K) hT (by rw [nxA_W]; exact hf) (fun i ns hs _ => ?_)
  rw [hT] at hs ⊢
  have e3 : nx ts (i + 1 + (teN L a).length) = [59] := nx_of hs.tail.right.head
  obtain ⟨d1, d2⟩ := Ends.dot (ts := ts) (j := i + 1 + (teN L a).length) (.inl e3)
  obtain ⟨ms, r, h1, h2, h3⟩ := R.expr (i + 1) ns hs.tail.left d1 d2
  refine ⟨_, ms.length, Iso.new S.kids hx (kind := K) (text := []) (kids := [r]) (pl := (tk ts i).frm) h (W.non _ x hx (by omega)) ?_, h2.trans (Onto.one _ _), ?_⟩
  · rw [hks]; exact ⟨h1, trivial⟩
  · have hj : i + (tW w :: (teN L a ++ [tS [59]])).length = i + 1 + (teN L a).length + 1 := by simp; omega
    rw [hj]
    refine Ev.bind0 (k := fun v j ns => wantR ts [59] j (layR K [] (tk ts i).frm [hd v] (j + 1) ns)) (fun f => by simp only [P]) h3 ?_
    unfold wantR
    rw [if_pos e3]
    rfl
theorem rs_merge (h : x.kind = 13) : RdS L ts k := by
  have hT : tsN L k = tW [109, 101, 114, 103, 101] :: tS [40] :: ((joinT (x.ks.map (teN L)) ++ [tS [41]]) ++ [tS [59]]) := by rw [tsN_eq S.kids hx]; simp [stX, h]
  refine rs_word (nt := .merge) hT (by rw [nxA_W]; rfl) (fun i ns hs _ => ?_)
  rw [hT] at hs ⊢
  have e1 : nx ts (i + 1) = [40] := nx_of hs.tail.head
  have s2 : Seg ts (i + 2) ((joinT (x.ks.map (teN L)) ++ [tS [41]]) ++ [tS [59]]) := hs.tail.tail
  obtain ⟨ms, v, h1, h2, h3⟩ := list_all (L := L) (ts := ts) (thing := false) (closing := [41]) (te := teN L) (by decide) x.ks (fun a ha => itm_name S (by decide) (S.names hx (by omega) a ha)) (ns := ns) s2.left
  have e3 : nx ts (i + 2 + (joinT (x.ks.map (teN L)) ++ [tS [41]]).length) = [59] := nx_of s2.right.head
  refine ⟨_, ms.length, Iso.new S.kids hx (kind := 13) (text := []) (kids := v) (pl := (tk ts i).frm) h (W.non _ x hx (by omega)) h1, h2.trans (Onto.one _ _), ?_⟩
  have hj : i + (tW [109, 101, 114, 103, 101] :: tS [40] :: ((joinT (x.ks.map (teN L)) ++ [tS [41]]) ++ [tS [59]])).length = i + 2 + (joinT (x.ks.map (teN L)) ++ [tS [41]]).length + 1 := by simp; omega
  rw [hj]
  refine Ev.bind0 (k := fun v j ns => wantR ts [59] j (layR 13 [] (tk ts i).frm v (j + 1) ns)) (fun f => by simp only [P]; unfold wantR; rw [if_pos e1]) h3 ?_
  unfold wantR
  rw [if_pos e3]
  rfl
theorem rs_while (h : x.kind = 8) {a b : Int} (hks : x.ks = [a, b]) {y z : T5.Nd} (R : RdE L ts a y) (hz : L[b.toNat]? = some z) (hz4 : z.kind = 4) (H : ∀ j ∈ z.ks, RdS L ts j) : RdS L ts k := by
  have hT : tsN L k = tW [119, 104, 105, 108, 101] :: (teN L a ++ (tS [123] :: (tbN L b ++ [tS [125]]))) := by rw [tsN_eq S.kids hx]; simp [stX, h, hks, atT]
  refine rs_word (nt := .whileS) hT (by rw [nxA_W]; rfl) (fun i ns hs _ => ?_)
  rw [hT] at hs ⊢
  have e3 : nx ts (i + 1 + (teN L a).length) = [123] := nx_of hs.tail.right.head
  obtain ⟨d1, d2⟩ := Ends.dot (ts := ts) (j := i + 1 + (teN L a).length) (.inr (.inl e3))
  obtain ⟨ms, r, h1, h2, h3⟩ := R.expr (i + 1) ns hs.tail.left d1 d2
  obtain ⟨ms', r', g1, g2, g3⟩ := rd_block S W hz hz4 H (ns := ms) hs.tail.right
  refine ⟨_, ms'.length, Iso.new S.kids hx (kind := 8) (text := []) (kids := [r, r']) (pl := (tk ts i).frm) h (W.non _ x hx (by omega)) ?_, (h2.trans g2).trans (Onto.one _ _), ?_⟩
  · rw [hks]; exact ⟨h1.onto g2, g1, trivial⟩
  · have hj : i + (tW [119, 104, 105, 108, 101] :: (teN L a ++ (tS [123] :: (tbN L b ++ [tS [125]])))).length = i + 1 + (teN L a).length + (tS [123] :: (tbN L b ++ [tS [125]])).length := by simp; omega
    rw [hj]
    obtain ⟨f, h3⟩ := h3
    obtain ⟨g, g3⟩ := g3
    refine ⟨max f g + 1, ?_⟩
    simp only [P]
    rw [P_mono (Nat.le_max_left f g) h3]
    show bindR (P ts (max f g) (.block 0) _ ms) _ = _
    rw [P_mono (Nat.le_max_right f g) g3]
    rfl
theorem rs_if (h : x.kind = 7) {a b c : Int} (hks : x.ks = [a, b, c]) {y z u : T5.Nd} (R : RdE L ts a y) (hz : L[b.toNat]? = some z) (hz4 : z.kind = 4) (H : ∀ j ∈ z.ks, RdS L ts j) (hu : L[c.toNat]? = some u) (hu4 : u.kind = 4 ∨ u.kind = 14) (G : ∀ j ∈ u.ks, u.kind = 4 → RdS L ts j) : RdS L ts k := by
  have hT : tsN L k = tW [105, 102] :: (teN L a ++ ((tS [123] :: (tbN L b ++ [tS [125]])) ++ elT L (tbN L) c)) := by rw [tsN_eq S.kids hx]; simp [stX, h, hks, atT]
  refine rs_word (nt := .choice) hT (by rw [nxA_W]; rfl) (fun i ns hs he => ?_)
  rw [hT] at hs he ⊢
  have s1 := hs.tail.right
  have e3 : nx ts (i + 1 + (teN L a).length) = [123] := nx_of s1.left.head
  obtain ⟨d1, d2⟩ := Ends.dot (ts := ts) (j := i + 1 + (teN L a).length) (.inr (.inl e3))
  obtain ⟨ms, r, h1, h2, h3⟩ := R.expr (i + 1) ns hs.tail.left d1 d2
  obtain ⟨ms', r', g1, g2, g3⟩ := rd_block S W hz hz4 H (ns := ms) s1.left
  have hj : i + (tW [105, 102] :: (teN L a ++ ((tS [123] :: (tbN L b ++ [tS [125]])) ++ elT L (tbN L) c))).length = i + 1 + (teN L a).length + (tS [123] :: (tbN L b ++ [tS [125]])).length + (elT L (tbN L) c).length := by simp; omega
  rw [hj] at he ⊢
  have hc : T5.kd L c = u.kind := by rw [T5.kd, hu]
  have ho : ∃ mo ro, Iso L mo c ro ∧ Onto ms' mo ∧ Ev ts .other (i + 1 + (teN L a).length + (tS [123] :: (tbN L b ++ [tS [125]])).length) ms' (OkR [ro] (i + 1 + (teN L a).length + (tS [123] :: (tbN L b ++ [tS [125]])).length + (elT L (tbN L) c).length) mo) := by
    have s2 := s1.right
    generalize i + 1 + (teN L a).length + (tS [123] :: (tbN L b ++ [tS [125]])).length = p at he s2 ⊢
    unfold elT at s2 he ⊢
    rw [hc] at s2 he ⊢
    by_cases c4 : u.kind = 4
    · rw [if_pos c4] at s2 he ⊢
      obtain ⟨mo, ro, o1, o2, o3⟩ := rd_block S W hu c4 (fun j hj => G j hj c4) (ns := ms') s2.tail
      refine ⟨mo, ro, o1, o2, ?_⟩
      have e4 : nx ts p = elB := nx_of s2.head
      have hj2 : p + (tW elB :: (tS [123] :: (tbN L c ++ [tS [125]]))).length = p + 1 + (tS [123] :: (tbN L c ++ [tS [125]])).length := by simp; omega
      rw [hj2]
      exact Ev.step (nt' := .block 0) (fun f => by simp only [P]; rw [if_pos (show nx ts p = [101, 108, 115, 101] from e4)]) o3
    · rw [if_neg c4] at s2 he ⊢
      have e14 : u.kind = 14 := by omega
      refine ⟨_, ms'.length, Iso.new S.kids hu (kind := 14) (text := []) (kids := []) (pl := 0) e14 (W.non _ u hu (by omega)) (by rw [S.nil hu (by omega)]; trivial), Onto.one _ _, Ev.now (fun f => ?_)⟩
      simp only [P]
      rw [if_neg (show ¬ nx ts p = [101, 108, 115, 101] from he)]
      rfl
  obtain ⟨mo, ro, o1, o2, o3⟩ := ho
  refine ⟨_, mo.length, Iso.new S.kids hx (kind := 7) (text := []) (kids := [r, r', ro]) (pl := (tk ts i).frm) h (W.non _ x hx (by omega)) ?_, ((h2.trans g2).trans o2).trans (Onto.one _ _), ?_⟩
  · rw [hks]; exact ⟨(h1.onto g2).onto o2, g1.onto o2, o1, trivial⟩
  · obtain ⟨f, h3⟩ := h3
    obtain ⟨g, g3⟩ := g3
    obtain ⟨q, o3⟩ := o3
    refine ⟨max f (max g q) + 1, ?_⟩
    simp only [P]
    rw [P_mono (by omega) h3]
    show bindR (P ts (max f (max g q)) (.block 0) _ ms) _ = _
    rw [P_mono (by omega) g3]
    show bindR (P ts (max f (max g q)) .other _ ms') _ = _
    rw [P_mono (by omega) o3]
    rfl
theorem rs_set (h : x.kind = 6) {a b : Int} (hks : x.ks = [a, b]) {y z : T5.Nd} (hy : L[a.toNat]? = some y) (hp : y.kind = 17 ∨ y.kind = 20 ∨ y.kind = 21 ∨ y.kind = 30) (R : RdE L ts a y) (Q : RdE L ts b z) : RdS L ts k := by
  have hT : tsN L k = teN L a ++ (tS [61] :: (teN L b ++ [tS [59]])) := by rw [tsN_eq S.kids hx]; simp [stX, h, hks, atT]
  have ht : tightN y = 7 := by unfold tightN; rw [if_neg (by omega), if_neg (by omega)]
  have hf : ∀ i, Seg ts i (tsN L k) → firstNT (nx ts i) ≠ none := fun i hs => by
    rw [hT] at hs
    rcases R.head i hs.left with e | e
    · exact e
    · rw [R.plain ht i hs.left] at e; cases e
  refine ⟨fun i hs => .inl (hf i hs), fun i ns hs _ => ?_⟩
  have hfi := first_stmt (hf i hs)
  rw [hT] at hs ⊢
  have e1 : nx ts (i + (teN L a).length) = [61] := nx_of hs.right.head
  have s2 := hs.right.tail
  have e3 : nx ts (i + (teN L a).length + 1 + (teN L b).length) = [59] := nx_of s2.right.head
  obtain ⟨d1, d2⟩ := Ends.dot (ts := ts) (j := i + (teN L a).length) (.inr (.inr e1))
  obtain ⟨d3, d4⟩ := Ends.dot (ts := ts) (j := i + (teN L a).length + 1 + (teN L b).length) (.inl e3)
  obtain ⟨ms, r, h1, h2, h3⟩ := R.back ht i ns hs.left d1.2.2
  obtain ⟨ms', r', g1, g2, g3⟩ := Q.expr _ ms s2.left d3 d4
  have hb := h3 _ (back_stop d1)
  have hkd : placeK (kdN ms r) = true := by
    have := h1.kd
    rw [T5.kd, hy] at this
    simp only at this
    unfold placeK
    have h17 : kdN ms r = 17 ∨ kdN ms r = 20 ∨ kdN ms r = 21 ∨ kdN ms r = 30 := by omega
    rcases h17 with e | e | e | e <;> rw [e] <;> rfl
  refine ⟨_, ms'.length, Iso.new S.kids hx (kind := 6) (text := []) (kids := [r, r']) (pl := (tk ts (i + (teN L a).length)).frm) h (W.non _ x hx (by omega)) ?_, (h2.trans g2).trans (Onto.one _ _), ?_⟩
  · rw [hks]; exact ⟨h1.onto g2, g1, trivial⟩
  · have hj : i + (teN L a ++ (tS [61] :: (teN L b ++ [tS [59]]))).length = i + (teN L a).length + 1 + (teN L b).length + 1 := by simp; omega
    rw [hj]
    have hS : Ev ts (.setS r) (i + (teN L a).length) ms (OkR [ms'.length] (i + (teN L a).length + 1 + (teN L b).length + 1) (ms' ++ [⟨6, [], [r, r'], (tk ts (i + (teN L a).length)).frm⟩])) := by
      refine Ev.bind0 (k := fun v j ns => wantR ts [59] j (layR 6 [] (tk ts (i + (teN L a).length)).frm [r, hd v] (j + 1) ns)) (fun f => by simp only [P]) g3 ?_
      unfold wantR
      rw [if_pos e3]
      rfl
    refine Ev.step (nt' := .setOrDo) (fun f => by simp only [P]; rw [hfi]) ?_
    obtain ⟨f, hb⟩ := hb
    obtain ⟨g, hS⟩ := hS
    refine ⟨max f g + 1, ?_⟩
    simp only [P]
    rw [P_mono (Nat.le_max_left f g) hb]
    show (if placeK (kdN ms r) = true ∧ nx ts (i + (teN L a).length) = [61] then P ts (max f g) (.setS r) (i + (teN L a).length) ms else _) = _
    rw [if_pos ⟨hkd, e1⟩]
    exact P_mono (Nat.le_max_right f g) hS
theorem rs_do (h : x.kind = 12) {a : Int} (hks : x.ks = [a]) {y : T5.Nd} (hy : L[a.toNat]? = some y) (hp : y.kind = 22) (R : RdE L ts a y) : RdS L ts k := by
  have hT : tsN L k = teN L a ++ [tS [59]] := by rw [tsN_eq S.kids hx]; simp [stX, h, hks, atT]
  have ht : tightN y = 7 := by unfold tightN; rw [if_neg (by omega), if_neg (by omega)]
  have hf : ∀ i, Seg ts i (tsN L k) → firstNT (nx ts i) ≠ none := fun i hs => by
    rw [hT] at hs
    rcases R.head i hs.left with e | e
    · exact e
    · rw [R.plain ht i hs.left] at e; cases e
  refine ⟨fun i hs => .inl (hf i hs), fun i ns hs _ => ?_⟩
  have hfi := first_stmt (hf i hs)
  rw [hT] at hs ⊢
  have e1 : nx ts (i + (teN L a).length) = [59] := nx_of hs.right.head
  obtain ⟨d1, d2⟩ := Ends.dot (ts := ts) (j := i + (teN L a).length) (.inl e1)
  obtain ⟨ms, r, h1, h2, h3⟩ := R.back ht i ns hs.left d1.2.2
  have hb := h3 _ (back_stop d1)
  have hkd : kdN ms r = 22 := by
    have := h1.kd
    rw [T5.kd, hy] at this
    simp only at this
    rw [hp] at this
    exact_mod_cast this.symm
  refine ⟨_, ms.length, Iso.new S.kids hx (kind := 12) (text := []) (kids := [r]) (pl := plN ms r) h (W.non _ x hx (by omega)) ?_, h2.trans (Onto.one _ _), ?_⟩
  · rw [hks]; exact ⟨h1, trivial⟩
  · have hj : i + (teN L a ++ [tS [59]]).length = i + (teN L a).length + 1 := by simp; omega
    rw [hj]
    refine Ev.step (nt' := .setOrDo) (fun f => by simp only [P]; rw [hfi]) ?_
    obtain ⟨f, hb⟩ := hb
    refine ⟨f + 1, ?_⟩
    simp only [P]
    rw [hb]
    show (if placeK (kdN ms r) = true ∧ nx ts (i + (teN L a).length) = [61] then P ts f (.setS r) (i + (teN L a).length) ms else if kdN ms r ≠ 22 then _ else wantR ts [59] (i + (teN L a).length) (layR 12 [] (plN ms r) [r] (i + (teN L a).length + 1) ms)) = _
    rw [if_neg (by rw [e1]; exact fun c => absurd c.2 (by decide)), if_neg (by rw [hkd]; simp)]
    unfold wantR
    rw [if_pos e1]
    rfl
end
/-- Every statement. -/
theorem rs_all {L : List T5.Nd} {ts : List Tok} (S : Shp L) (W : Wrd L) : ∀ (n : Nat) (k : Int) (x : T5.Nd), k.toNat < n → L[k.toNat]? = some x → T5.isSt x.kind = true → RdS L ts k := by
  intro n
  induction n with
  | zero => intro k x h; omega
  | succ n ih =>
    intro k x hn hx he
    have ex : ∀ a ∈ x.ks, T5.isEx (T5.kd L a) = true → ∃ y, L[a.toNat]? = some y ∧ RdE L ts a y := fun a ha hE => by
      cases hy : L[a.toNat]? with
      | none => rw [T5.kd, hy] at hE; simp [T5.isEx] at hE
      | some y =>
        rw [T5.kd, hy] at hE
        exact ⟨y, rfl, bk_all S W (a.toNat + 1) a y (by omega) hy hE⟩
    have blk : ∀ a ∈ x.ks, T5.kd L a = 4 → ∃ y, L[a.toNat]? = some y ∧ y.kind = 4 ∧ ∀ j ∈ y.ks, RdS L ts j := fun a ha h4 => by
      obtain ⟨k0, k1⟩ := S.kids _ x hx a ha
      cases hy : L[a.toNat]? with
      | none => rw [T5.kd, hy] at h4; simp at h4
      | some y =>
        rw [T5.kd, hy] at h4
        refine ⟨y, rfl, h4, fun j hj => ?_⟩
        obtain ⟨j0, j1⟩ := S.kids _ y hy j hj
        have hE := S.blk hy h4 j hj
        cases hu : L[j.toNat]? with
        | none => rw [T5.kd, hu] at hE; simp [T5.isSt] at hE
        | some u =>
          rw [T5.kd, hu] at hE
          exact ih j u (by omega) hu hE
    have hk : x.kind = 5 ∨ x.kind = 6 ∨ x.kind = 7 ∨ x.kind = 8 ∨ x.kind = 9 ∨ x.kind = 10 ∨ x.kind = 11 ∨ x.kind = 12 ∨ x.kind = 13 := by
      have := of_decide_eq_true he
      omega
    rcases hk with e | e | e | e | e | e | e | e | e
    · obtain ⟨a, ha, hE⟩ := S.one hx (by omega)
      obtain ⟨y, hy, R⟩ := ex a (by simp [ha]) hE
      exact rs_let S W hx e ha R
    · obtain ⟨a, b, ha, hE, hF, hp⟩ := S.place hx e
      obtain ⟨y, hy, R⟩ := ex a (by simp [ha]) hE
      obtain ⟨z, hz, Q⟩ := ex b (by simp [ha]) hF
      rw [T5.kd, hy] at hp
      exact rs_set S W hx e ha hy hp R Q
    · obtain ⟨a, b, c, ha, hE, hb, hc⟩ := S.iff_ hx e
      obtain ⟨y, hy, R⟩ := ex a (by simp [ha]) hE
      obtain ⟨z, hz, hz4, H⟩ := blk b (by simp [ha]) hb
      cases hu : L[c.toNat]? with
      | none => rw [T5.kd, hu] at hc; simp at hc
      | some u =>
        have hc' := hc
        rw [T5.kd, hu] at hc'
        refine rs_if S W hx e ha R hz hz4 H hu hc' (fun j hj h4 => ?_)
        obtain ⟨u', hu', _, G⟩ := blk c (by simp [ha]) (by rw [T5.kd, hu]; exact h4)
        rw [hu] at hu'
        cases hu'
        exact G j hj
    · obtain ⟨a, b, ha, hE, hb⟩ := S.whl hx e
      obtain ⟨y, hy, R⟩ := ex a (by simp [ha]) hE
      obtain ⟨z, hz, hz4, H⟩ := blk b (by simp [ha]) hb
      exact rs_while S W hx e ha R hz hz4 H
    · obtain ⟨a, ha, hE⟩ := S.one hx (by omega)
      obtain ⟨y, hy, R⟩ := ex a (by simp [ha]) hE
      exact rs_worded S W hx (K := 9) e (by omega) (by rw [e]) (by rfl) ha R
    · obtain ⟨a, ha, hE⟩ := S.one hx (by omega)
      obtain ⟨y, hy, R⟩ := ex a (by simp [ha]) hE
      exact rs_worded S W hx (K := 10) e (by omega) (by rw [e]) (by rfl) ha R
    · obtain ⟨a, ha, hE⟩ := S.one hx (by omega)
      obtain ⟨y, hy, R⟩ := ex a (by simp [ha]) hE
      exact rs_worded S W hx (K := 11) e (by omega) (by rw [e]) (by rfl) ha R
    · obtain ⟨a, ha, hp⟩ := S.do_ hx e
      obtain ⟨y, hy, R⟩ := ex a (by simp [ha]) (by rw [hp]; rfl)
      rw [T5.kd, hy] at hp
      exact rs_do S W hx e ha hy hp R
    · exact rs_merge S W hx e
end Go.Proofs.YtnebhkglpggnlaaGreatDoor
namespace Go.Proofs.YtnebhkglpggnlaaGreatDoor
open Go.RowKit
set_option linter.unusedVariables false
set_option linter.unusedSimpArgs false
set_option linter.unusedSectionVars false

/-- A declaration's tokens, and a program's. -/
def tdX (L : List T5.Nd) (x : T5.Nd) : List T3 :=
  if x.kind = 2 then tW [114, 101, 99] :: tN (tx x) :: tS [123] :: (joinT (x.ks.map (teN L)) ++ [tS [125]])
  else tW [102, 110] :: tN (tx x) :: tS [40] :: ((joinT ((x.ks.take (x.ks.length - 1)).map (teN L)) ++ [tS [41]]) ++ (tS [123] :: (atT x.ks (x.ks.length - 1) (tbN L) ++ [tS [125]])))
def tdN (L : List T5.Nd) (k : Int) : List T3 := match L[k.toNat]? with | none => [] | some x => tdX L x
def tpN (L : List T5.Nd) (k : Int) : List T3 := match L[k.toNat]? with | none => [] | some x => (x.ks.map (tdN L)).flatten
theorem All2.app {R : Int → Nat → Prop} {l : List Int} {m : List Nat} (h : All2 R l m) {a : Int} {b : Nat} (hab : R a b) : All2 R (l ++ [a]) (m ++ [b]) := h.snoc hab
section
variable {L : List T5.Nd} {ts : List Tok} {k : Int} {x : T5.Nd}
structure RdD (L : List T5.Nd) (ts : List Tok) (k : Int) : Prop where
  head : ∀ i, Seg ts i (tdN L k) → nx ts i ≠ []
  rd : ∀ i ns, Seg ts i (tdN L k) → ∃ ms r, Iso L ms k r ∧ Onto ns ms ∧ Ev ts .decl i ns (OkR [r] (i + (tdN L k).length) ms)
theorem rdD_word {nt : NT} {a : T3} {A : List T3} (hT : tdN L k = a :: A) (hf : declNT (nxA a) = some nt) (rd : ∀ i ns, Seg ts i (tdN L k) → ∃ ms r, Iso L ms k r ∧ Onto ns ms ∧ Ev ts nt i ns (OkR [r] (i + (tdN L k).length) ms)) : RdD L ts k := by
  have hn : ∀ i, Seg ts i (tdN L k) → nx ts i = nxA a := fun i hs => by rw [hT] at hs; exact nx_of hs.head
  refine ⟨fun i hs => ?_, fun i ns hs => ?_⟩
  · rw [hn i hs]; intro e; rw [e] at hf; simp [declNT] at hf
  · obtain ⟨ms, r, h1, h2, h3⟩ := rd i ns hs
    refine ⟨ms, r, h1, h2, Ev.step (nt' := nt) (fun f => ?_) h3⟩
    simp only [P]
    rw [hn i hs, hf]
theorem rd_rec (S : Shp L) (W : Wrd L) (hx : L[k.toNat]? = some x) (h : x.kind = 2) : RdD L ts k := by
  have hT : tdN L k = tW [114, 101, 99] :: tN (tx x) :: tS [123] :: (joinT (x.ks.map (teN L)) ++ [tS [125]]) := by simp [tdN, hx, tdX, h]
  refine rdD_word (nt := .recd) hT (by rw [nxA_W]; rfl) (fun i ns hs => ?_)
  rw [hT] at hs ⊢
  have e1 : nx ts (i + 1) = nmB := nx_of hs.tail.head
  have en := text_of hs.tail.head
  have e2 : nx ts (i + 2) = [123] := nx_of hs.tail.tail.head
  have s3 : Seg ts (i + 3) (joinT (x.ks.map (teN L)) ++ [tS [125]]) := hs.tail.tail.tail
  obtain ⟨ms, v, h1, h2, h3⟩ := list_all (L := L) (ts := ts) (thing := false) (closing := [125]) (te := teN L) (by decide) x.ks (fun a ha => itm_name S (by decide) (S.names hx (by omega) a ha)) (ns := ns) s3
  refine ⟨_, ms.length, Iso.new S.kids hx (kind := 2) (text := (tk ts (i + 1)).text) (kids := v) (pl := (tk ts (i + 1)).frm) h ?_ h1, h2.trans (Onto.one _ _), ?_⟩
  · rw [en]; rfl
  · have hj : i + (tW [114, 101, 99] :: tN (tx x) :: tS [123] :: (joinT (x.ks.map (teN L)) ++ [tS [125]])).length = i + 3 + (joinT (x.ks.map (teN L)) ++ [tS [125]]).length := by simp; omega
    rw [hj]
    exact Ev.bind0 (k := fun v j ns => layR 2 (tk ts (i + 1)).text (tk ts (i + 1)).frm v j ns) (fun f => by simp only [P]; unfold wantR; rw [if_pos e1, if_pos e2]) h3 rfl
theorem rd_fn (S : Shp L) (W : Wrd L) (hx : L[k.toNat]? = some x) (h : x.kind = 3) : RdD L ts k := by
  obtain ⟨ps, b, hks, hps, hb⟩ := S.fn hx h
  have hT : tdN L k = tW [102, 110] :: tN (tx x) :: tS [40] :: ((joinT (ps.map (teN L)) ++ [tS [41]]) ++ (tS [123] :: (tbN L b ++ [tS [125]]))) := by simp [tdN, hx, tdX, h, hks, atT]
  have hB : ∃ z, L[b.toNat]? = some z ∧ z.kind = 4 ∧ ∀ j ∈ z.ks, RdS L ts j := by
    cases hz : L[b.toNat]? with
    | none => rw [T5.kd, hz] at hb; simp at hb
    | some z =>
      rw [T5.kd, hz] at hb
      refine ⟨z, rfl, hb, fun j hj => ?_⟩
      have hE := S.blk hz hb j hj
      cases hu : L[j.toNat]? with
      | none => rw [T5.kd, hu] at hE; simp [T5.isSt] at hE
      | some u =>
        rw [T5.kd, hu] at hE
        exact rs_all S W (j.toNat + 1) j u (by omega) hu hE
  obtain ⟨z, hz, hz4, H⟩ := hB
  refine rdD_word (nt := .func) hT (by rw [nxA_W]; rfl) (fun i ns hs => ?_)
  rw [hT] at hs ⊢
  have e1 : nx ts (i + 1) = nmB := nx_of hs.tail.head
  have en := text_of hs.tail.head
  have e2 : nx ts (i + 2) = [40] := nx_of hs.tail.tail.head
  have s3 : Seg ts (i + 3) ((joinT (ps.map (teN L)) ++ [tS [41]]) ++ (tS [123] :: (tbN L b ++ [tS [125]]))) := hs.tail.tail.tail
  obtain ⟨ms, v, h1, h2, h3⟩ := list_all (L := L) (ts := ts) (thing := false) (closing := [41]) (te := teN L) (by decide) ps (fun a ha => itm_name S (by decide) (hps a ha)) (ns := ns) s3.left
  obtain ⟨ms', r', g1, g2, g3⟩ := rd_block S W hz hz4 H (ns := ms) s3.right
  refine ⟨_, ms'.length, Iso.new S.kids hx (kind := 3) (text := (tk ts (i + 1)).text) (kids := v ++ [r']) (pl := (tk ts (i + 1)).frm) h ?_ ?_, (h2.trans g2).trans (Onto.one _ _), ?_⟩
  · rw [en]; rfl
  · rw [hks]; exact (h1.onto g2).app g1
  · have hj : i + (tW [102, 110] :: tN (tx x) :: tS [40] :: ((joinT (ps.map (teN L)) ++ [tS [41]]) ++ (tS [123] :: (tbN L b ++ [tS [125]])))).length = i + 3 + (joinT (ps.map (teN L)) ++ [tS [41]]).length + (tS [123] :: (tbN L b ++ [tS [125]])).length := by simp; omega
    rw [hj]
    obtain ⟨f, h3⟩ := h3
    obtain ⟨g, g3⟩ := g3
    refine ⟨max f g + 1, ?_⟩
    simp only [P]
    unfold wantR
    rw [if_pos e1, if_pos e2, P_mono (Nat.le_max_left f g) h3]
    show bindR (P ts (max f g) (.block 0) _ ms) _ = _
    rw [P_mono (Nat.le_max_right f g) g3]
    rfl
/-- A list of declarations, up to the end. -/
theorem rd_decls : ∀ (ks : List Int), (∀ k ∈ ks, RdD L ts k) → ∀ (acc : List Nat) (i : Nat) (ns : List PN), Seg ts i (ks.map (tdN L)).flatten → nx ts (i + (ks.map (tdN L)).flatten.length) = [] → ∃ ms v, All2 (Iso L ms) ks v ∧ Onto ns ms ∧ Ev ts (.progL acc) i ns (OkR [ms.length] (i + (ks.map (tdN L)).flatten.length) (ms ++ [⟨1, [], acc ++ v, 0⟩])) := by
  intro ks
  induction ks with
  | nil =>
    intro _ acc i ns hs he
    refine ⟨ns, [], trivial, Onto.refl ns, Ev.now (fun f => ?_)⟩
    simp only [P]
    rw [if_pos (show nx ts i = [] from he)]
    simp [layR, OkR]
  | cons k r ih =>
    intro H acc i ns hs he
    have e0 : ((k :: r).map (tdN L)).flatten = tdN L k ++ (r.map (tdN L)).flatten := by simp
    rw [e0] at hs he ⊢
    have e1 : i + (tdN L k ++ (r.map (tdN L)).flatten).length = i + (tdN L k).length + (r.map (tdN L)).flatten.length := by simp; omega
    rw [e1] at he ⊢
    obtain ⟨ms, q, h1, h2, h3⟩ := (H k (by simp)).rd i ns hs.left
    obtain ⟨ms', v, g1, g2, g3⟩ := ih (fun j hj => H j (by simp [hj])) (acc ++ [q]) _ ms hs.right he
    refine ⟨ms', q :: v, ⟨h1.onto g2, g1⟩, h2.trans g2, ?_⟩
    have e2 : acc ++ q :: v = acc ++ [q] ++ v := by simp
    rw [e2]
    exact Ev.bind1 (k := fun v j ms => (.progL (acc ++ [hd v]), j, ms)) (fun f => by simp only [P]; rw [if_neg ((H k (by simp)).head i hs.left)]) h3 g3
/-- What is written of a tree is read as that tree. -/
theorem rd_prog (S : Shp L) (W : Wrd L) (hx : L[k.toNat]? = some x) (h : x.kind = 1) (hs : Seg ts 0 (tpN L k)) (he : nx ts (tpN L k).length = []) : ∃ ms r, Iso L ms k r ∧ ms.length = r + 1 ∧ Ev ts .prog 0 [] (OkR [r] (tpN L k).length ms) := by
  have eb : tpN L k = (x.ks.map (tdN L)).flatten := by unfold tpN; rw [hx]
  rw [eb] at hs he ⊢
  have H : ∀ j ∈ x.ks, RdD L ts j := fun j hj => by
    have hE := S.prg hx h j hj
    cases hu : L[j.toNat]? with
    | none => rw [T5.kd, hu] at hE; simp at hE
    | some u =>
      rw [T5.kd, hu] at hE
      rcases hE with e | e
      · exact rd_rec S W hu e
      · exact rd_fn S W hu e
  obtain ⟨ms, v, h1, h2, h3⟩ := rd_decls x.ks H [] 0 [] hs (by rw [Nat.zero_add]; exact he)
  rw [Nat.zero_add] at h3
  exact ⟨_, ms.length, Iso.new S.kids hx (kind := 1) (text := []) (kids := [] ++ v) (pl := 0) h (W.non _ x hx (by omega)) h1, by simp, Ev.step (nt' := .progL []) (fun f => by simp only [P]) h3⟩
end
end Go.Proofs.YtnebhkglpggnlaaGreatDoor
namespace Go.Proofs.YtnebhkglpggnlaaGreatDoor
open Go.RowKit
set_option linter.unusedVariables false
set_option linter.unusedSimpArgs false
set_option linter.unusedSectionVars false

/-- These are its tokens. -/
def Scn (l : List UInt8) (A : List T3) : Prop := ∀ f p, l.length < f → (scanL f p l).2 = none ∧ (scanL f p l).1.map strip = A
theorem Scn.nil : Scn [] [] := fun f p hf => by
  obtain _ | f := f
  · simp at hf
  simp [scanL, skipL]
theorem scan_blank {c : UInt8} {l : List UInt8} {f p : Nat} (hb : isBl c.toNat = true) : scanL (f + 1) p (c :: l) = scanL (f + 1) (p + 1) l := by
  have s : skipL false (c :: l) = skipL false l + 1 := by simp [skipL, hb]
  simp only [scanL, s, List.length_cons, List.drop_succ_cons]
  by_cases e : skipL false l = l.length
  · rw [if_pos (by omega), if_pos e]
  · rw [if_neg (by omega), if_neg e, show p + (skipL false l + 1) = p + 1 + skipL false l by omega]
    cases hr : readL (p + 1 + skipL false l) (l.drop (skipL false l)) with
    | error e => rfl
    | ok t =>
      have hle := skipL_le false l
      have := (readL_to (fun e => by have e2 := congrArg List.length e; simp at e2; omega) hr).1
      simp only
      rw [show t.to - p = t.to - (p + 1) + 1 by omega, List.drop_succ_cons]
theorem Scn.blank {c : UInt8} {l : List UInt8} {A : List T3} (hb : isBl c.toNat = true) (h : Scn l A) : Scn (c :: l) A := fun f p hf => by
  obtain _ | f := f
  · simp at hf
  rw [scan_blank hb]
  exact h (f + 1) (p + 1) (by simp at hf; omega)
theorem Scn.sp {l : List UInt8} {A : List T3} (h : Scn l A) : Scn (32 :: l) A := h.blank (by decide)
theorem Scn.nl {l : List UInt8} {A : List T3} (h : Scn l A) : Scn (10 :: l) A := h.blank (by decide)
theorem Scn.ind {l : List UInt8} {A : List T3} (h : Scn l A) (ab : Nat) : Scn (ind ab ++ l) A := by
  unfold Go.Proofs.YtnebhkglpggnlaaGreatDoor.ind
  generalize 4 * ab = n
  induction n with
  | zero => simpa using h
  | succ n ih => rw [List.replicate_succ]; exact ih.sp
theorem Scn.tok {w l : List UInt8} {t : T3} {A : List T3} (hw : w ≠ []) (hs : skipL false (w ++ l) = 0) (hr : ∀ p, ∃ u, readL p (w ++ l) = .ok u ∧ u.to = p + w.length ∧ strip u = t) (h : Scn l A) : Scn (w ++ l) (t :: A) := fun f p hf => by
  obtain _ | f := f
  · simp at hf
  obtain ⟨u, h1, h2, h3⟩ := hr p
  have hn : 0 < w.length := List.length_pos_iff.2 hw
  have hl : (w ++ l).length = w.length + l.length := by simp
  simp only [scanL]
  rw [hs, if_neg (by omega), Nat.add_zero, List.drop_zero, h1]
  simp only
  rw [show u.to - p = w.length by omega, List.drop_left]
  have h4 := h f u.to (by omega)
  exact ⟨h4.1, by simp [h3, h4.2]⟩
/-- No sign goes on here; nor a word. -/
def Sf (l : List UInt8) : Prop := ∀ c, l.head? = some c → c ≠ 60 ∧ c ≠ 61 ∧ c ≠ 62 ∧ c ≠ 47
def Nw (l : List UInt8) : Prop := ∀ c, l.head? = some c → isWd c.toNat = false
theorem run_app : ∀ (w l : List UInt8), runL w = w.length → Nw l → runL (w ++ l) = w.length
  | [], l, _, h => by
    cases l with
    | nil => rfl
    | cons c l => simp [runL, h c rfl]
  | c :: w, l, h, hl => by
    simp only [runL, List.cons_append, List.length_cons] at h ⊢
    split at h
    · rename_i hc
      rw [if_pos hc, run_app w l (by omega) hl]
    · omega
theorem let_kind {n : Nat} (h : isLet n = true) : kindN n = 2 ∧ isBl n = false ∧ n ≠ 47 := by
  unfold kindN
  unfold isLet at h
  have h := of_decide_eq_true h
  have hb : isBl n = false := by simp [isBl]; omega
  rw [hb, if_neg (by simp), if_pos (by unfold isLet; exact decide_eq_true h)]
  exact ⟨rfl, rfl, by omega⟩
theorem dig_kind {n : Nat} (h : isDig n = true) : kindN n = 3 ∧ isBl n = false ∧ n ≠ 47 := by
  unfold kindN
  have h' := of_decide_eq_true h
  have hb : isBl n = false := by simp [isBl]; omega
  have hl : isLet n = false := by simp [isLet]; omega
  rw [hb, hl, h]
  exact ⟨rfl, rfl, by omega⟩
theorem Scn.word {c : UInt8} {w l : List UInt8} {A : List T3} (hc : isLet c.toNat = true) (hr : runL (c :: w) = (c :: w).length) (hl : Nw l) (h : Scn l A) : Scn ((c :: w) ++ l) ((if wordL (c :: w) then 2 else 1, c :: w, 0) :: A) := by
  obtain ⟨k1, k2, k3⟩ := let_kind hc
  refine Scn.tok (by simp) ?_ (fun p => ?_) h
  · simp [skipL, k2, k3]
  · refine ⟨⟨if wordL (c :: w) then 2 else 1, c :: w, p, p + (c :: w).length, 0⟩, ?_, rfl, rfl⟩
    unfold readL
    rw [run_app _ l hr hl, if_pos (by simpa using k1), List.take_left]
theorem Scn.nm {s l : List UInt8} {A : List T3} (hn : nameL s = true) (hl : Nw l) (h : Scn l A) : Scn (s ++ l) (tN s :: A) := by
  cases s with
  | nil => simp [nameL] at hn
  | cons c w =>
    simp only [nameL, Bool.and_eq_true, decide_eq_true_eq, Bool.not_eq_true'] at hn
    have := Scn.word hn.1.1 hn.1.2 hl h
    rw [hn.2] at this
    exact this
theorem Scn.wd {s l : List UInt8} {A : List T3} (hn : s ∈ words) (hl : Nw l) (h : Scn l A) : Scn (s ++ l) (tW s :: A) := by
  have hw : wordL s = true := by simpa [wordL] using hn
  have h0 : ∀ s ∈ words, (∃ c w, s = c :: w ∧ isLet c.toNat = true) ∧ runL s = s.length := by
    intro s hs
    simp only [words, List.mem_cons, List.not_mem_nil, or_false] at hs
    rcases hs with rfl | rfl | rfl | rfl | rfl | rfl | rfl | rfl | rfl | rfl | rfl | rfl | rfl | rfl | rfl | rfl | rfl | rfl | rfl <;> exact ⟨⟨_, _, rfl, by decide⟩, by decide⟩
  obtain ⟨⟨c, w, rfl, h1⟩, h2⟩ := h0 s hn
  have := Scn.word h1 h2 hl h
  rw [hw] at this
  exact this
theorem Scn.dg {c : UInt8} {w l : List UInt8} {A : List T3} (hc : isDig c.toNat = true) (hr : runL (c :: w) = (c :: w).length) {n : Nat} (hn : numL (c :: w) = some n) (hl : Nw l) (h : Scn l A) : Scn ((c :: w) ++ l) (tD (c :: w) :: A) := by
  obtain ⟨k1, k2, k3⟩ := dig_kind hc
  refine Scn.tok (by simp) ?_ (fun p => ?_) h
  · simp [skipL, k2, k3]
  · refine ⟨⟨4, c :: w, p, p + (c :: w).length, n⟩, ?_, rfl, by unfold strip tD; rw [hn]; rfl⟩
    unfold readL
    rw [run_app _ l hr hl, if_neg (by simp [k1]), if_pos (by simpa using k1), List.take_left, hn]
theorem sign_len {g l : List UInt8} (hg : g ∈ signs) (hl : Sf l) : signL (g ++ l) = g.length := by
  have h0 : ∀ (a : UInt8), a = 60 ∨ a = 61 ∨ a = 62 → l.head? ≠ some a := fun a ha e => by
    obtain ⟨h1, h2, h3, _⟩ := hl a e
    rcases ha with rfl | rfl | rfl <;> contradiction
  cases l with
  | nil =>
    have : ∀ g ∈ signs, signL (g ++ []) = g.length := by decide
    exact this g hg
  | cons c l =>
    have e60 : ((60 : UInt8) == c) = false := beq_eq_false_iff_ne.2 (fun e => h0 60 (by simp) (by rw [e]; rfl))
    have e61 : ((61 : UInt8) == c) = false := beq_eq_false_iff_ne.2 (fun e => h0 61 (by simp) (by rw [e]; rfl))
    have e62 : ((62 : UInt8) == c) = false := beq_eq_false_iff_ne.2 (fun e => h0 62 (by simp) (by rw [e]; rfl))
    simp only [signs, List.mem_cons, List.not_mem_nil, or_false] at hg
    rcases hg with rfl | rfl | rfl | rfl | rfl | rfl | rfl | rfl | rfl | rfl | rfl | rfl | rfl | rfl | rfl | rfl | rfl | rfl | rfl | rfl | rfl | rfl | rfl | rfl | rfl | rfl <;> simp [signL, signs, List.find?, List.isPrefixOf, e60, e61, e62]
theorem Scn.sg {g l : List UInt8} {A : List T3} (hg : g ∈ signs) (hl : Sf l) (h : Scn l A) : Scn (g ++ l) (tS g :: A) := by
  have hp : ∀ g ∈ signs, g ≠ [] ∧ kindN (g.getD 0 0).toNat = 0 ∧ 0 < g.length := by decide
  obtain ⟨h1, h2, h3⟩ := hp g hg
  have hs := sign_len hg hl
  have e0 : (g ++ l).getD 0 0 = g.getD 0 0 := by
    cases g with
    | nil => exact absurd rfl h1
    | cons c g => rfl
  refine Scn.tok h1 ?_ (fun p => ?_) h
  · have hq : ∀ g ∈ signs, (∃ c r, g = c :: r ∧ isBl c.toNat = false ∧ (c.toNat ≠ 47 ∨ r = [])) := by
      intro g hg
      simp only [signs, List.mem_cons, List.not_mem_nil, or_false] at hg
      rcases hg with rfl | rfl | rfl | rfl | rfl | rfl | rfl | rfl | rfl | rfl | rfl | rfl | rfl | rfl | rfl | rfl | rfl | rfl | rfl | rfl | rfl | rfl | rfl | rfl | rfl | rfl <;> exact ⟨_, _, rfl, by decide, by decide⟩
    obtain ⟨c, r, rfl, hb, hc⟩ := hq g hg
    simp only [List.cons_append, skipL, hb]
    rw [if_neg (by simp), if_neg]
    rintro ⟨e1, e2⟩
    rcases hc with hc | rfl
    · exact hc e1
    · exact (hl 47 (by simpa using e2)).2.2.2 rfl
  · refine ⟨⟨3, g, p, p + g.length, 0⟩, ?_, rfl, rfl⟩
    unfold readL
    rw [e0, h2, if_neg (by decide), if_neg (by decide), if_neg (by decide), hs, if_neg (by omega), List.take_left]
end Go.Proofs.YtnebhkglpggnlaaGreatDoor
namespace Go.Proofs.YtnebhkglpggnlaaGreatDoor
open Go.RowKit
set_option linter.unusedVariables false
set_option linter.unusedSimpArgs false
set_option linter.unusedSectionVars false

/-- Texts as a tree has them. -/
structure Txt (L : List T5.Nd) : Prop where
  nm : ∀ (i : Nat) (x : T5.Nd), L[i]? = some x → (x.kind = 2 ∨ x.kind = 3 ∨ x.kind = 5 ∨ x.kind = 17 ∨ x.kind = 20 ∨ x.kind = 22 ∨ x.kind = 23) → nameL (tx x) = true
  dg : ∀ (i : Nat) (x : T5.Nd), L[i]? = some x → x.kind = 15 → ∃ c w n, tx x = c :: w ∧ isDig c.toNat = true ∧ runL (c :: w) = (c :: w).length ∧ numL (c :: w) = some n
  un : ∀ (i : Nat) (x : T5.Nd), L[i]? = some x → x.kind = 18 → tx x ∈ T5.unaries
  bin : ∀ (i : Nat) (x : T5.Nd), L[i]? = some x → x.kind = 19 → tx x ∈ T5.binaries
def OkC (c : UInt8) : Prop := c ≠ 60 ∧ c ≠ 61 ∧ c ≠ 62 ∧ c ≠ 47
instance (c : UInt8) : Decidable (OkC c) := by unfold OkC; infer_instance
theorem Sf.one {c : UInt8} {l : List UInt8} (h : OkC c) : Sf (c :: l) := fun d hd => by cases hd; exact h
theorem Nw.one {c : UInt8} {l : List UInt8} (h : isWd c.toNat = false) : Nw (c :: l) := fun d hd => by cases hd; exact h
def HdE (s : List UInt8) : Prop := ∃ c r, s = c :: r ∧ OkC c
theorem HdE.sf {s : List UInt8} (h : HdE s) (l : List UInt8) : Sf (s ++ l) := by
  obtain ⟨c, r, rfl, hc⟩ := h
  exact Sf.one hc
theorem HdE.app {s : List UInt8} (h : HdE s) (l : List UInt8) : HdE (s ++ l) := by
  obtain ⟨c, r, rfl, hc⟩ := h
  exact ⟨c, r ++ l, rfl, hc⟩
theorem wd_ok {c : UInt8} (h : isWd c.toNat = true) : OkC c := by
  refine ⟨?_, ?_, ?_, ?_⟩ <;> (rintro rfl; revert h; decide)
theorem nm_hd {s : List UInt8} (hn : nameL s = true) : HdE s := by
  cases s with
  | nil => simp [nameL] at hn
  | cons c w =>
    simp only [nameL, Bool.and_eq_true, decide_eq_true_eq, Bool.not_eq_true'] at hn
    exact ⟨c, w, rfl, wd_ok (by simp [isWd, hn.1.1])⟩
theorem wd_hd {s : List UInt8} (hn : s ∈ words) : HdE s := by
  simp only [words, List.mem_cons, List.not_mem_nil, or_false] at hn
  rcases hn with rfl | rfl | rfl | rfl | rfl | rfl | rfl | rfl | rfl | rfl | rfl | rfl | rfl | rfl | rfl | rfl | rfl | rfl | rfl <;> exact ⟨_, _, rfl, by decide⟩
theorem Scn.s1 {c : UInt8} {l : List UInt8} {A : List T3} (hg : [c] ∈ signs) (hl : Sf l) (h : Scn l A) : Scn (c :: l) (tS [c] :: A) := Scn.sg hg hl h
theorem Scn.rep {l l' : List UInt8} {A A' : List T3} (h : Scn l A) (e : l' = l) (e' : A' = A) : Scn l' A' := by rw [e, e']; exact h
/-- So an expression is read. -/
structure LxE (s : List UInt8) (T : List T3) : Prop where
  hd : HdE s
  sc : ∀ l A, Sf l → Nw l → Scn l A → Scn (s ++ l) (T ++ A)
theorem LxE.held {s : List UInt8} {T : List T3} (h : LxE s T) (t n : Nat) : LxE (heldB t n s) (heldT t n T) := by
  unfold heldB heldT
  split
  · refine ⟨⟨40, _, rfl, by decide⟩, fun l A hs hw hl => ?_⟩
    have h1 : Scn ([41] ++ l) (tS [41] :: A) := Scn.sg (by decide) hs hl
    have h2 := h.sc _ _ (Sf.one (l := l) (by decide)) (Nw.one (l := l) (by decide)) h1
    exact (Scn.s1 (c := 40) (by decide) (h.hd.sf _) h2).rep (by simp) (by simp)
  · exact h
section
variable {f : Int → List UInt8} {g : Int → List T3}
def restC (f : Int → List UInt8) (ks : List Int) : List UInt8 := ((ks.map f).map (fun s => (44 : UInt8) :: 32 :: s)).flatten
theorem lx_rest {l : List UInt8} {B : List T3} (hs : Sf l) (hw : Nw l) (h : Scn l B) : ∀ (ks : List Int), (∀ k ∈ ks, LxE (f k) (g k)) → Scn (restC f ks ++ l) (restT g ks ++ B) ∧ Sf (restC f ks ++ l) ∧ Nw (restC f ks ++ l)
  | [], _ => ⟨h, hs, hw⟩
  | k :: r, H => by
    obtain ⟨h1, h2, h3⟩ := lx_rest hs hw h r (fun j hj => H j (by simp [hj]))
    have e : restC f (k :: r) ++ l = 44 :: 32 :: (f k ++ (restC f r ++ l)) := by simp [restC]
    have e' : restT g (k :: r) ++ B = tS [44] :: (g k ++ (restT g r ++ B)) := by simp [restT]
    rw [e, e']
    exact ⟨Scn.s1 (by decide) (Sf.one (by decide)) ((H k (by simp)).sc _ _ h2 h3 h1).sp, Sf.one (by decide), Nw.one (by decide)⟩
theorem lx_list {l : List UInt8} {B : List T3} (hs : Sf l) (hw : Nw l) (h : Scn l B) (ks : List Int) (H : ∀ k ∈ ks, LxE (f k) (g k)) : Scn (joinC (ks.map f) ++ l) (joinT (ks.map g) ++ B) ∧ Sf (joinC (ks.map f) ++ l) := by
  cases ks with
  | nil => exact ⟨h, hs⟩
  | cons k r =>
    obtain ⟨h1, h2, h3⟩ := lx_rest hs hw h r (fun j hj => H j (by simp [hj]))
    have e : joinC ((k :: r).map f) ++ l = f k ++ (restC f r ++ l) := by simp [restC, joinC]
    have e' : joinT ((k :: r).map g) ++ B = g k ++ (restT g r ++ B) := by simp [restT, joinT]
    rw [e, e']
    exact ⟨(H k (by simp)).sc _ _ h2 h3 h1, (H k (by simp)).hd.sf _⟩
end
section
variable {L : List T5.Nd} {k : Int} {x : T5.Nd} (S : Shp L) (T : Txt L) (hx : L[k.toNat]? = some x)
include S T hx
theorem lx_num (h : x.kind = 15) : LxE (eN L k) (teN L k) := by
  obtain ⟨c, w, n, e1, e2, e3, e4⟩ := T.dg _ x hx h
  have hE : eN L k = c :: w := by rw [eN_eq S.kids hx]; simp [exprX, h, e1]
  have hT : teN L k = [tD (c :: w)] := by rw [teN_eq S.kids hx]; simp [teX, h, e1]
  rw [hE, hT]
  exact ⟨⟨c, w, rfl, wd_ok (by simp [isWd, e2])⟩, fun l A hs hw hl => Scn.dg e2 e3 e4 hw hl⟩
theorem lx_name (h : x.kind = 17) : LxE (eN L k) (teN L k) := by
  have hn := T.nm _ x hx (by omega)
  have hE : eN L k = tx x := by rw [eN_eq S.kids hx]; simp [exprX, h]
  have hT : teN L k = [tN (tx x)] := by rw [teN_eq S.kids hx]; simp [teX, h]
  rw [hE, hT]
  exact ⟨nm_hd hn, fun l A hs hw hl => Scn.nm hn hw hl⟩
theorem lx_alone (h : x.kind = 16 ∨ x.kind = 30) : LxE (eN L k) (teN L k) := by
  have hn : wordB x.kind ∈ words := by rcases h with e | e <;> rw [e] <;> decide
  have hE : eN L k = wordB x.kind := by rw [eN_eq S.kids hx]; rcases h with e | e <;> simp [exprX, e]
  have hT : teN L k = [tW (wordB x.kind)] := by rw [teN_eq S.kids hx]; rcases h with e | e <;> simp [teX, e]
  rw [hE, hT]
  exact ⟨wd_hd hn, fun l A hs hw hl => Scn.wd hn hw hl⟩
theorem lx_made (h : x.kind = 23) : LxE (eN L k) (teN L k) := by
  have hn := T.nm _ x hx (by omega)
  have hE : eN L k = [110, 101, 119] ++ (32 :: tx x) := by rw [eN_eq S.kids hx]; simp [exprX, h]
  have hT : teN L k = [tW [110, 101, 119], tN (tx x)] := by rw [teN_eq S.kids hx]; simp [teX, h]
  rw [hE, hT]
  refine ⟨⟨110, _, rfl, by decide⟩, fun l A hs hw hl => ?_⟩
  exact (Scn.wd (s := [110, 101, 119]) (by decide) (Nw.one (by decide)) (Scn.nm hn hw hl).sp).rep (by simp) (by simp)
theorem lx_args {w : List UInt8} {t : T3} (hh : HdE w) (hs' : ∀ l A, Nw l → Scn l A → Scn (w ++ l) (t :: A)) (hE : eN L k = w ++ (40 :: (joinC (x.ks.map (eN L)) ++ [41]))) (hT : teN L k = t :: tS [40] :: (joinT (x.ks.map (teN L)) ++ [tS [41]])) (H : ∀ a ∈ x.ks, LxE (eN L a) (teN L a)) : LxE (eN L k) (teN L k) := by
  rw [hE, hT]
  refine ⟨hh.app _, fun l A hs hw hl => ?_⟩
  have h1 : Scn (41 :: l) (tS [41] :: A) := Scn.s1 (by decide) hs hl
  obtain ⟨h2, h3⟩ := lx_list (Sf.one (l := l) (by decide)) (Nw.one (l := l) (by decide)) h1 x.ks H
  exact (hs' _ _ (Nw.one (by decide)) (Scn.s1 (c := 40) (by decide) h3 h2)).rep (by simp) (by simp)
theorem lx_call (h : x.kind = 22) (H : ∀ a ∈ x.ks, LxE (eN L a) (teN L a)) : LxE (eN L k) (teN L k) := by
  have hn := T.nm _ x hx (by omega)
  exact lx_args S T hx (nm_hd hn) (fun l A hw hl => Scn.nm hn hw hl) (by rw [eN_eq S.kids hx]; simp [exprX, h]) (by rw [teN_eq S.kids hx]; simp [teX, h]) H
theorem lx_about (h : 24 ≤ x.kind ∧ x.kind ≤ 29) (H : ∀ a ∈ x.ks, LxE (eN L a) (teN L a)) : LxE (eN L k) (teN L k) := by
  have hk : x.kind = 24 ∨ x.kind = 25 ∨ x.kind = 26 ∨ x.kind = 27 ∨ x.kind = 28 ∨ x.kind = 29 := by omega
  have hn : wordB x.kind ∈ words := by rcases hk with e | e | e | e | e | e <;> rw [e] <;> decide
  exact lx_args S T hx (wd_hd hn) (fun l A hw hl => Scn.wd hn hw hl) (by rw [eN_eq S.kids hx]; rcases hk with e | e | e | e | e | e <;> simp [exprX, e]) (by rw [teN_eq S.kids hx]; rcases hk with e | e | e | e | e | e <;> simp [teX, e]) H
theorem lx_sign (h : x.kind = 18) {a : Int} (hks : x.ks = [a]) (R : LxE (eN L a) (teN L a)) : LxE (eN L k) (teN L k) := by
  have hn := T.un _ x hx h
  have hg : tx x ∈ signs ∧ HdE (tx x) := by
    simp only [T5.unaries, List.mem_cons, List.not_mem_nil, or_false] at hn
    rcases hn with e | e | e <;> rw [e] <;> exact ⟨by decide, _, _, rfl, by decide⟩
  have hE : eN L k = tx x ++ hN L a 6 := by rw [eN_eq S.kids hx]; simp [exprX, h, hks, atK]
  have hT : teN L k = tS (tx x) :: htN L a 6 := by rw [teN_eq S.kids hx]; simp [teX, h, hks, atT]
  have Q : LxE (hN L a 6) (htN L a 6) := R.held _ _
  rw [hE, hT]
  refine ⟨hg.2.app _, fun l A hs hw hl => ?_⟩
  exact (Scn.sg hg.1 (Q.hd.sf _) (Q.sc l A hs hw hl)).rep (by simp) (by simp)
theorem lx_bin (h : x.kind = 19) {a b : Int} (hks : x.ks = [a, b]) (R : LxE (eN L a) (teN L a)) (R' : LxE (eN L b) (teN L b)) : LxE (eN L k) (teN L k) := by
  have hn := T.bin _ x hx h
  have hg : tx x ∈ signs := by
    have : ∀ s ∈ T5.binaries, s ∈ signs := by decide
    exact this _ hn
  have hE : eN L k = hN L a (max (opT (tx x)) 1) ++ (32 :: (tx x ++ (32 :: hN L b (opT (tx x) + 1)))) := by rw [eN_eq S.kids hx]; simp [exprX, h, hks, atK]
  have hT : teN L k = htN L a (max (opT (tx x)) 1) ++ (tS (tx x) :: htN L b (opT (tx x) + 1)) := by rw [teN_eq S.kids hx]; simp [teX, h, hks, atT]
  have Q : LxE (hN L a (max (opT (tx x)) 1)) (htN L a (max (opT (tx x)) 1)) := R.held _ _
  have Q' : LxE (hN L b (opT (tx x) + 1)) (htN L b (opT (tx x) + 1)) := R'.held _ _
  rw [hE, hT]
  refine ⟨Q.hd.app _, fun l A hs hw hl => ?_⟩
  have h1 := (Scn.sg hg (Sf.one (by decide)) (Q'.sc l A hs hw hl).sp).sp
  exact (Q.sc _ _ (Sf.one (by decide)) (Nw.one (by decide)) h1).rep (by simp) (by simp)
theorem lx_field (h : x.kind = 20) {a : Int} (hks : x.ks = [a]) (R : LxE (eN L a) (teN L a)) : LxE (eN L k) (teN L k) := by
  have hn := T.nm _ x hx (by omega)
  have hE : eN L k = hN L a 7 ++ (46 :: tx x) := by rw [eN_eq S.kids hx]; simp [exprX, h, hks, atK]
  have hT : teN L k = htN L a 7 ++ [tS [46], tN (tx x)] := by rw [teN_eq S.kids hx]; simp [teX, h, hks, atT]
  have Q : LxE (hN L a 7) (htN L a 7) := R.held _ _
  rw [hE, hT]
  refine ⟨Q.hd.app _, fun l A hs hw hl => ?_⟩
  have h1 := Scn.s1 (c := 46) (by decide) ((nm_hd hn).sf l) (Scn.nm hn hw hl)
  exact (Q.sc _ _ (Sf.one (by decide)) (Nw.one (by decide)) h1).rep (by simp) (by simp)
theorem lx_elem (h : x.kind = 21) {a b : Int} (hks : x.ks = [a, b]) (R : LxE (eN L a) (teN L a)) (R' : LxE (eN L b) (teN L b)) : LxE (eN L k) (teN L k) := by
  have hE : eN L k = hN L a 7 ++ (91 :: (eN L b ++ [93])) := by rw [eN_eq S.kids hx]; simp [exprX, h, hks, atK]
  have hT : teN L k = htN L a 7 ++ (tS [91] :: (teN L b ++ [tS [93]])) := by rw [teN_eq S.kids hx]; simp [teX, h, hks, atT]
  have Q : LxE (hN L a 7) (htN L a 7) := R.held _ _
  rw [hE, hT]
  refine ⟨Q.hd.app _, fun l A hs hw hl => ?_⟩
  have h0 : Scn (93 :: l) (tS [93] :: A) := Scn.s1 (by decide) hs hl
  have h1 := Scn.s1 (c := 91) (by decide) (R'.hd.sf _) (R'.sc _ _ (Sf.one (l := l) (by decide)) (Nw.one (l := l) (by decide)) h0)
  exact (Q.sc _ _ (Sf.one (by decide)) (Nw.one (by decide)) h1).rep (by simp) (by simp)
end
/-- Every expression. -/
theorem lx_all {L : List T5.Nd} (S : Shp L) (T : Txt L) : ∀ (n : Nat) (k : Int) (x : T5.Nd), k.toNat < n → L[k.toNat]? = some x → T5.isEx x.kind = true → LxE (eN L k) (teN L k) := by
  intro n
  induction n with
  | zero => intro k x h; omega
  | succ n ih =>
    intro k x hn hx he
    have ihk : ∀ a ∈ x.ks, T5.isEx (T5.kd L a) = true → LxE (eN L a) (teN L a) := fun a ha hE => by
      obtain ⟨k0, k1⟩ := S.kids _ x hx a ha
      cases hy : L[a.toNat]? with
      | none => rw [T5.kd, hy] at hE; simp [T5.isEx] at hE
      | some y =>
        rw [T5.kd, hy] at hE
        exact ih a y (by omega) hy hE
    have hk : x.kind = 15 ∨ (x.kind = 16 ∨ x.kind = 30) ∨ x.kind = 17 ∨ x.kind = 18 ∨ x.kind = 19 ∨ x.kind = 20 ∨ x.kind = 21 ∨ x.kind = 22 ∨ x.kind = 23 ∨ (24 ≤ x.kind ∧ x.kind ≤ 29) := by
      have := of_decide_eq_true he
      omega
    rcases hk with e | e | e | e | e | e | e | e | e | e
    · exact lx_num S T hx e
    · exact lx_alone S T hx e
    · exact lx_name S T hx e
    · obtain ⟨a, ha, hE⟩ := S.one hx (by omega)
      exact lx_sign S T hx e ha (ihk a (by simp [ha]) hE)
    · obtain ⟨a, b, ha, hE, hF⟩ := S.two hx (by omega)
      exact lx_bin S T hx e ha (ihk a (by simp [ha]) hE) (ihk b (by simp [ha]) hF)
    · obtain ⟨a, ha, hE⟩ := S.one hx (by omega)
      exact lx_field S T hx e ha (ihk a (by simp [ha]) hE)
    · obtain ⟨a, b, ha, hE, hF⟩ := S.two hx (by omega)
      exact lx_elem S T hx e ha (ihk a (by simp [ha]) hE) (ihk b (by simp [ha]) hF)
    · exact lx_call S T hx e (fun a ha => ihk a ha (S.many hx (by omega) a ha))
    · exact lx_made S T hx e
    · refine lx_about S T hx e (fun a ha => ?_)
      by_cases c : x.kind = 26 ∨ x.kind = 28
      · rw [S.nil hx (by omega)] at ha; cases ha
      · obtain ⟨b, hb, hE⟩ := S.one hx (by omega)
        rw [hb] at ha
        simp at ha
        subst ha
        exact ihk a (by simp [hb]) hE
end Go.Proofs.YtnebhkglpggnlaaGreatDoor
namespace Go.Proofs.YtnebhkglpggnlaaGreatDoor
open Go.RowKit
set_option linter.unusedVariables false
set_option linter.unusedSimpArgs false
set_option linter.unusedSectionVars false

/-- So a statement is read. -/
def LxS (L : List T5.Nd) (k : Int) : Prop := ∀ ab l A, Scn l A → Scn (sN L ab k ++ l) (tsN L k ++ A)
section
variable {L : List T5.Nd} {k : Int} {x : T5.Nd} (S : Shp L) (T : Txt L)
theorem lx_rows (ab : Nat) {l : List UInt8} {A : List T3} (h : Scn l A) : ∀ (ks : List Int), (∀ k ∈ ks, LxS L k) → Scn ((ks.map (sN L ab)).flatten ++ l) ((ks.map (tsN L)).flatten ++ A)
  | [], _ => h
  | k :: r, H => ((H k (by simp)) ab _ _ (lx_rows ab h r (fun j hj => H j (by simp [hj])))).rep (by simp) (by simp)
theorem lx_body {z : T5.Nd} (hz : L[k.toNat]? = some z) (H : ∀ j ∈ z.ks, LxS L j) (ab : Nat) {l : List UInt8} {A : List T3} (h : Scn l A) : Scn (bN L ab k ++ l) (tbN L k ++ A) := by
  have := lx_rows ab h z.ks H
  unfold bN tbN
  rw [hz]
  exact this
/-- The end of a statement. -/
theorem Scn.semi {l : List UInt8} {A : List T3} (h : Scn l A) : Scn (59 :: 10 :: l) (tS [59] :: A) := Scn.s1 (by decide) (Sf.one (by decide)) h.nl
theorem LxE.semi {s : List UInt8} {B : List T3} (R : LxE s B) {l : List UInt8} {A : List T3} (h : Scn l A) : Scn (s ++ (59 :: 10 :: l)) (B ++ (tS [59] :: A)) := R.sc _ _ (Sf.one (by decide)) (Nw.one (by decide)) h.semi
theorem Scn.is {l : List UInt8} {A : List T3} (h : Scn l A) : Scn (32 :: 61 :: 32 :: l) (tS [61] :: A) := (Scn.s1 (by decide) (Sf.one (by decide)) h.sp).sp
theorem Scn.open {l : List UInt8} {A : List T3} (h : Scn l A) : Scn (32 :: 123 :: 10 :: l) (tS [123] :: A) := (Scn.s1 (by decide) (Sf.one (by decide)) h.nl).sp
variable (hx : L[k.toNat]? = some x)
include S T hx
theorem ls_let (h : x.kind = 5) {a : Int} (hks : x.ks = [a]) (R : LxE (eN L a) (teN L a)) : LxS L k := fun ab l A hl => by
  have hn := T.nm _ x hx (by omega)
  have h1 := Scn.wd (s := [108, 101, 116]) (by decide) (Nw.one (by decide)) (Scn.nm hn (Nw.one (by decide)) (R.semi hl).is).sp
  exact (h1.ind ab).rep (by rw [sN_eq S.kids hx]; simp [stmtX, h, hks, atK]) (by rw [tsN_eq S.kids hx]; simp [stX, h, hks, atT])
theorem ls_set (h : x.kind = 6) {a b : Int} (hks : x.ks = [a, b]) (R : LxE (eN L a) (teN L a)) (R' : LxE (eN L b) (teN L b)) : LxS L k := fun ab l A hl => by
  have h1 := R.sc _ _ (Sf.one (by decide)) (Nw.one (by decide)) (R'.semi hl).is
  exact (h1.ind ab).rep (by rw [sN_eq S.kids hx]; simp [stmtX, h, hks, atK]) (by rw [tsN_eq S.kids hx]; simp [stX, h, hks, atT])
theorem ls_do (h : x.kind = 12) {a : Int} (hks : x.ks = [a]) (R : LxE (eN L a) (teN L a)) : LxS L k := fun ab l A hl =>
  ((R.semi hl).ind ab).rep (by rw [sN_eq S.kids hx]; simp [stmtX, h, hks, atK]) (by rw [tsN_eq S.kids hx]; simp [stX, h, hks, atT])
theorem ls_worded (hk : x.kind = 9 ∨ x.kind = 10 ∨ x.kind = 11) {a : Int} (hks : x.ks = [a]) (R : LxE (eN L a) (teN L a)) : LxS L k := fun ab l A hl => by
  have hn : wordB x.kind ∈ words := by rcases hk with e | e | e <;> rw [e] <;> decide
  have h1 := Scn.wd hn (Nw.one (by decide)) (R.semi hl).sp
  exact (h1.ind ab).rep (by rw [sN_eq S.kids hx]; rcases hk with e | e | e <;> simp [stmtX, e, hks, atK]) (by rw [tsN_eq S.kids hx]; rcases hk with e | e | e <;> simp [stX, e, hks, atT])
theorem ls_merge (h : x.kind = 13) (H : ∀ a ∈ x.ks, LxE (eN L a) (teN L a)) : LxS L k := fun ab l A hl => by
  have h0 := Scn.s1 (c := 41) (by decide) (Sf.one (by decide)) hl.semi
  obtain ⟨h2, h3⟩ := lx_list (Sf.one (by decide)) (Nw.one (by decide)) h0 x.ks H
  have h1 := Scn.wd (s := [109, 101, 114, 103, 101]) (by decide) (Nw.one (by decide)) (Scn.s1 (c := 40) (by decide) h3 h2)
  exact (h1.ind ab).rep (by rw [sN_eq S.kids hx]; simp [stmtX, h]) (by rw [tsN_eq S.kids hx]; simp [stX, h])
theorem ls_while (h : x.kind = 8) {a b : Int} (hks : x.ks = [a, b]) (R : LxE (eN L a) (teN L a)) {z : T5.Nd} (hz : L[b.toNat]? = some z) (H : ∀ j ∈ z.ks, LxS L j) : LxS L k := fun ab l A hl => by
  have h0 := (Scn.s1 (c := 125) (by decide) (Sf.one (by decide)) hl.nl).ind ab
  have h1 := (lx_body hz H (ab + 1) h0).open
  have h2 := Scn.wd (s := [119, 104, 105, 108, 101]) (by decide) (Nw.one (by decide)) (R.sc _ _ (Sf.one (by decide)) (Nw.one (by decide)) h1).sp
  exact (h2.ind ab).rep (by rw [sN_eq S.kids hx]; simp [stmtX, h, hks, atK]) (by rw [tsN_eq S.kids hx]; simp [stX, h, hks, atT])
theorem ls_if (h : x.kind = 7) {a b c : Int} (hks : x.ks = [a, b, c]) (R : LxE (eN L a) (teN L a)) {z u : T5.Nd} (hz : L[b.toNat]? = some z) (H : ∀ j ∈ z.ks, LxS L j) (hu : L[c.toNat]? = some u) (G : u.kind = 4 → ∀ j ∈ u.ks, LxS L j) : LxS L k := fun ab l A hl => by
  have ho : Scn (elseB L ab (bN L (ab + 1)) c ++ (10 :: l)) (elT L (tbN L) c ++ A) ∧ Sf (elseB L ab (bN L (ab + 1)) c ++ (10 :: l)) := by
    unfold elseB elT
    have hc : T5.kd L c = u.kind := by rw [T5.kd, hu]
    rw [hc]
    by_cases c4 : u.kind = 4
    · rw [if_pos c4, if_pos c4]
      have h0 := (Scn.s1 (c := 125) (by decide) (Sf.one (by decide)) hl.nl).ind ab
      have h1 := (lx_body hu (G c4) (ab + 1) h0).open
      have h2 := (Scn.wd (s := elB) (by decide) (Nw.one (by decide)) h1).sp
      exact ⟨h2.rep (by simp [elB]) (by simp), Sf.one (by decide)⟩
    · rw [if_neg c4, if_neg c4]
      exact ⟨hl.nl, Sf.one (by decide)⟩
  have h0 := (Scn.s1 (c := 125) (by decide) ho.2 ho.1).ind ab
  have h1 := (lx_body hz H (ab + 1) h0).open
  have h2 := Scn.wd (s := [105, 102]) (by decide) (Nw.one (by decide)) (R.sc _ _ (Sf.one (by decide)) (Nw.one (by decide)) h1).sp
  exact (h2.ind ab).rep (by rw [sN_eq S.kids hx]; simp [stmtX, h, hks, atK]) (by rw [tsN_eq S.kids hx]; simp [stX, h, hks, atT])
end
/-- Every statement. -/
theorem ls_all {L : List T5.Nd} (S : Shp L) (T : Txt L) : ∀ (n : Nat) (k : Int) (x : T5.Nd), k.toNat < n → L[k.toNat]? = some x → T5.isSt x.kind = true → LxS L k := by
  intro n
  induction n with
  | zero => intro k x h; omega
  | succ n ih =>
    intro k x hn hx he
    have ex : ∀ a ∈ x.ks, T5.isEx (T5.kd L a) = true → LxE (eN L a) (teN L a) := fun a ha hE => by
      cases hy : L[a.toNat]? with
      | none => rw [T5.kd, hy] at hE; simp [T5.isEx] at hE
      | some y =>
        rw [T5.kd, hy] at hE
        exact lx_all S T (a.toNat + 1) a y (by omega) hy hE
    have blk : ∀ a ∈ x.ks, ∀ y, L[a.toNat]? = some y → y.kind = 4 → ∀ j ∈ y.ks, LxS L j := fun a ha y hy h4 j hj => by
      obtain ⟨k0, k1⟩ := S.kids _ x hx a ha
      obtain ⟨j0, j1⟩ := S.kids _ y hy j hj
      have hE := S.blk hy h4 j hj
      cases hu : L[j.toNat]? with
      | none => rw [T5.kd, hu] at hE; simp [T5.isSt] at hE
      | some u =>
        rw [T5.kd, hu] at hE
        exact ih j u (by omega) hu hE
    have four : ∀ a, T5.kd L a = 4 ∨ T5.kd L a = 14 → ∃ y, L[a.toNat]? = some y ∧ T5.kd L a = y.kind := fun a h => by
      cases hy : L[a.toNat]? with
      | none => rw [T5.kd, hy] at h; simp at h
      | some y => exact ⟨y, rfl, by rw [T5.kd, hy]⟩
    have hk : x.kind = 5 ∨ x.kind = 6 ∨ x.kind = 7 ∨ x.kind = 8 ∨ (x.kind = 9 ∨ x.kind = 10 ∨ x.kind = 11) ∨ x.kind = 12 ∨ x.kind = 13 := by
      have := of_decide_eq_true he
      omega
    rcases hk with e | e | e | e | e | e | e
    · obtain ⟨a, ha, hE⟩ := S.one hx (by omega)
      exact ls_let S T hx e ha (ex a (by simp [ha]) hE)
    · obtain ⟨a, b, ha, hE, hF⟩ := S.two hx (by omega)
      exact ls_set S T hx e ha (ex a (by simp [ha]) hE) (ex b (by simp [ha]) hF)
    · obtain ⟨a, b, c, ha, hE, hb, hc⟩ := S.iff_ hx e
      obtain ⟨z, hz, hz4⟩ := four b (.inl hb)
      obtain ⟨u, hu, hu4⟩ := four c hc
      exact ls_if S T hx e ha (ex a (by simp [ha]) hE) hz (blk b (by simp [ha]) z hz (by omega)) hu (fun h4 => blk c (by simp [ha]) u hu h4)
    · obtain ⟨a, b, ha, hE, hb⟩ := S.whl hx e
      obtain ⟨z, hz, hz4⟩ := four b (.inl hb)
      exact ls_while S T hx e ha (ex a (by simp [ha]) hE) hz (blk b (by simp [ha]) z hz (by omega))
    · obtain ⟨a, ha, hE⟩ := S.one hx (by omega)
      exact ls_worded S T hx e ha (ex a (by simp [ha]) hE)
    · obtain ⟨a, ha, hp⟩ := S.do_ hx e
      exact ls_do S T hx e ha (ex a (by simp [ha]) (by rw [hp]; rfl))
    · exact ls_merge S T hx e (fun a ha => ex a ha (by rw [S.names hx (by omega) a ha]; rfl))
section
variable {L : List T5.Nd} {k : Int} {x : T5.Nd} (S : Shp L) (T : Txt L)
include S T
theorem lx_nm {a : Int} (h : T5.kd L a = 17) : LxE (eN L a) (teN L a) := by
  cases hy : L[a.toNat]? with
  | none => rw [T5.kd, hy] at h; simp at h
  | some y =>
    rw [T5.kd, hy] at h
    exact lx_name S T hy h
theorem ld_one (hx : L[k.toNat]? = some x) (h : x.kind = 2 ∨ x.kind = 3) {l : List UInt8} {A : List T3} (hl : Scn l A) : Scn (dN L k ++ l) (tdN L k ++ A) := by
  have hn := T.nm _ x hx (by omega)
  have h0 := Scn.s1 (c := 125) (by decide) (Sf.one (by decide)) hl.nl
  rcases h with h | h
  · obtain ⟨h2, h3⟩ := lx_list (Sf.one (by decide)) (Nw.one (by decide)) h0 x.ks (fun a ha => lx_nm S T (S.names hx (by omega) a ha))
    have h1 := Scn.wd (s := [114, 101, 99]) (by decide) (Nw.one (by decide)) (Scn.nm hn (Nw.one (by decide)) (Scn.s1 (c := 123) (by decide) h3 h2).sp).sp
    exact h1.rep (by simp [dN, hx, declX, h]) (by simp [tdN, hx, tdX, h])
  · obtain ⟨ps, b, hks, hps, hb⟩ := S.fn hx h
    cases hz : L[b.toNat]? with
    | none => rw [T5.kd, hz] at hb; simp at hb
    | some z =>
      rw [T5.kd, hz] at hb
      have h4 := lx_body hz (fun j hj => by
        have hE := S.blk hz hb j hj
        cases hu : L[j.toNat]? with
        | none => rw [T5.kd, hu] at hE; simp [T5.isSt] at hE
        | some u =>
          rw [T5.kd, hu] at hE
          exact ls_all S T (j.toNat + 1) j u (by omega) hu hE) 1 h0
      have h5 := Scn.s1 (c := 41) (by decide) (Sf.one (by decide)) h4.open
      obtain ⟨h2, h3⟩ := lx_list (Sf.one (by decide)) (Nw.one (by decide)) h5 ps (fun a ha => lx_nm S T (hps a ha))
      have h1 := Scn.wd (s := [102, 110]) (by decide) (Nw.one (by decide)) (Scn.nm hn (Nw.one (by decide)) (Scn.s1 (c := 40) (by decide) h3 h2)).sp
      exact h1.rep (by simp [dN, hx, declX, h, hks, atK]) (by simp [tdN, hx, tdX, h, hks, atT])
/-- The whole. -/
theorem lp_all (hx : L[k.toNat]? = some x) (h : x.kind = 1) : Scn (pN L k) (tpN L k) := by
  have hd : ∀ (ks : List Int), (∀ j ∈ ks, T5.kd L j = 2 ∨ T5.kd L j = 3) → Scn (ks.map (dN L)).flatten (ks.map (tdN L)).flatten := by
    intro ks
    induction ks with
    | nil => intro _; exact Scn.nil
    | cons j r ih =>
      intro H
      have hj := H j (by simp)
      cases hu : L[j.toNat]? with
      | none => rw [T5.kd, hu] at hj; simp at hj
      | some u =>
        rw [T5.kd, hu] at hj
        exact (ld_one S T hu hj (ih (fun i hi => H i (by simp [hi])))).rep (by simp) (by simp)
  unfold pN tpN
  rw [hx]
  exact hd x.ks (S.prg hx h)
end
end Go.Proofs.YtnebhkglpggnlaaGreatDoor
namespace Go.Proofs.YtnebhkglpggnlaaGreatDoor
open Go.RowKit
set_option linter.unusedVariables false
set_option linter.unusedSimpArgs false
set_option linter.unusedSectionVars false

theorem text_at {L : List T5.Nd} {T : List Bool} (h : T5.nodesL L L.length = .ok T) {i : Nat} {x : T5.Nd} (hx : L[i]? = some x) {t : Nat} {ls : List UInt8} (hw : T5.wantL x.kind = some (t, ls)) : T5.textL t x.text = true := by
  obtain ⟨U, V, hU, hV⟩ := nodes_at_ok h hx
  obtain ⟨⟨t', ls', hw', ht, _⟩, _, _⟩ := node_parts hV
  rw [hw] at hw'
  cases hw'
  exact ht
theorem fig_isdig {c : UInt8} (h : fig c.toNat < 10) : isDig c.toNat = true ∧ fig c.toNat = c.toNat - 48 := by
  unfold fig at *
  by_cases hd : isDig c.toNat = true
  · rw [if_pos hd]; exact ⟨hd, rfl⟩
  · rw [if_neg hd] at h
    split at h
    · omega
    · split at h <;> omega
theorem ofNat_fig {c : UInt8} (h : fig c.toNat < 10) : UInt8.ofNat (48 + fig c.toNat) = c := by
  obtain ⟨h1, h2⟩ := fig_isdig h
  have := of_decide_eq_true h1
  rw [h2, show 48 + (c.toNat - 48) = c.toNat by omega]
  simp
theorem dec_step {n d : Nat} (hn : 1 ≤ n) (hd : d < 10) : Lib.decDigits (n * 10 + d) = Lib.decDigits n ++ [UInt8.ofNat (48 + d)] := by
  rw [Lib.decDigits, dif_neg (by omega), show (n * 10 + d) / 10 = n by omega, show (n * 10 + d) % 10 = d by omega]
theorem dec_val : ∀ (l : List UInt8) (n m : Nat), 1 ≤ n → valL 10 l n = some m → Lib.decDigits n ++ l = Lib.decDigits m
  | [], n, m, _, h => by simp [valL] at h; simp [h]
  | c :: l, n, m, hn, h => by
    simp only [valL] at h
    split at h
    · cases h
    · rename_i hc
      have hf : fig c.toNat < 10 := by omega
      have := dec_val l (n * 10 + fig c.toNat) m (by omega) h
      rw [dec_step hn hf, ofNat_fig hf] at this
      simpa using this
theorem val_run : ∀ (l : List UInt8) (n m : Nat), valL 10 l n = some m → runL l = l.length
  | [], n, m, _ => rfl
  | c :: l, n, m, h => by
    simp only [valL] at h
    split at h
    · cases h
    · rename_i hc
      have hf : fig c.toNat < 10 := by omega
      have := val_run l _ m h
      simp only [runL, List.length_cons]
      rw [if_pos (by simp [isWd, (fig_isdig hf).1]), this]
theorem dec_text {s : List UInt8} {n : Nat} (h : numL s = some n) (hh : s = [48] ∨ (49 ≤ (s.headD 0).toNat ∧ (s.headD 0).toNat ≤ 57)) : Lib.decDigits n = s ∧ ∃ c w, s = c :: w ∧ isDig c.toNat = true ∧ runL (c :: w) = (c :: w).length := by
  rcases hh with e | ⟨h1, h2⟩
  · subst e
    have : n = 0 := by
      have e : numL [48] = some 0 := by decide
      rw [e] at h
      exact (Option.some.inj h).symm
    subst this
    exact ⟨by rw [Lib.decDigits_one (by omega)]; rfl, 48, [], rfl, by decide, by decide⟩
  · cases s with
    | nil => simp at h1
    | cons c w =>
      simp only [List.headD_cons] at h1 h2
      have hd : isDig c.toNat = true := decide_eq_true ⟨by omega, h2⟩
      have hf : fig c.toNat = c.toNat - 48 := by unfold fig; rw [if_pos hd]
      have hq : quotedL (c :: w) = false := by
        have hne : c ≠ 39 := by rintro rfl; revert h1; decide
        simp [quotedL, hne]
      have h48 : c ≠ 48 := by rintro rfl; revert h1; decide
      unfold numL at h
      rw [hq, if_neg (by simp), if_neg (by intro e; cases w <;> simp at e; exact h48 e.1)] at h
      unfold valueL at h
      rw [if_neg (by simp)] at h
      have h0 := h
      simp only [valL] at h
      split at h
      · cases h
      · rename_i hc
        have hf10 : fig c.toNat < 10 := by omega
        have := dec_val w (0 * 10 + fig c.toNat) n (by omega) h
        rw [Nat.zero_mul, Nat.zero_add, Lib.decDigits_one hf10, ofNat_fig hf10] at this
        exact ⟨by simpa using this.symm, c, w, rfl, hd, val_run _ _ _ h0⟩
section
variable {L : List T5.Nd} {T : List Bool} (h : T5.nodesL L L.length = .ok T) {i : Nat} {x : T5.Nd} (hx : L[i]? = some x)
include h hx
theorem num_at (e : x.kind = 15) : ∃ n, numL (tx x) = some n ∧ (tx x = [48] ∨ (49 ≤ ((tx x).headD 0).toNat ∧ ((tx x).headD 0).toNat ≤ 57)) := by
  have ht := text_at h hx (t := 2) (ls := []) (by rw [e]; rfl)
  have ht : T5.decL x.text = true := ht
  simp only [T5.decL, num, Bool.and_eq_true, Bool.or_eq_true, decide_eq_true_eq] at ht
  obtain ⟨h1, h2⟩ := ht
  obtain ⟨n, hn⟩ := Option.isSome_iff_exists.1 h1
  exact ⟨n, hn, h2⟩
theorem name_at (e : x.kind = 2 ∨ x.kind = 3 ∨ x.kind = 5 ∨ x.kind = 17 ∨ x.kind = 20 ∨ x.kind = 22 ∨ x.kind = 23) : nameL (tx x) = true := by
  obtain ⟨ls, hw⟩ : ∃ ls, T5.wantL x.kind = some (1, ls) := by rcases e with e | e | e | e | e | e | e <;> rw [e] <;> exact ⟨_, rfl⟩
  exact text_at h hx hw
theorem un_at (e : x.kind = 18) : tx x ∈ T5.unaries := by
  have ht : T5.unL x.text = true := text_at h hx (t := 3) (ls := [101]) (by rw [e]; rfl)
  simpa [T5.unL, tx] using ht
theorem bin_at (e : x.kind = 19) : tx x ∈ T5.binaries := by
  have ht : T5.binL x.text = true := text_at h hx (t := 4) (ls := [101, 101]) (by rw [e]; rfl)
  simpa [T5.binL, tx] using ht
theorem non_at (e : x.kind = 1 ∨ x.kind = 4 ∨ (6 ≤ x.kind ∧ x.kind ≤ 14) ∨ x.kind = 16 ∨ x.kind = 21 ∨ 24 ≤ x.kind) : tx x = [] := by
  have hk := (shp_of h).kd i x hx
  obtain ⟨ls, hw⟩ : ∃ ls, T5.wantL x.kind = some (0, ls) := by
    have : x.kind = 1 ∨ x.kind = 4 ∨ x.kind = 6 ∨ x.kind = 7 ∨ x.kind = 8 ∨ x.kind = 9 ∨ x.kind = 10 ∨ x.kind = 11 ∨ x.kind = 12 ∨ x.kind = 13 ∨ x.kind = 14 ∨ x.kind = 16 ∨ x.kind = 21 ∨ x.kind = 24 ∨ x.kind = 25 ∨ x.kind = 26 ∨ x.kind = 27 ∨ x.kind = 28 ∨ x.kind = 29 ∨ x.kind = 30 := by omega
    rcases this with e | e | e | e | e | e | e | e | e | e | e | e | e | e | e | e | e | e | e | e <;> rw [e] <;> exact ⟨_, rfl⟩
  have ht : T5.noneL x.text = true := text_at h hx hw
  simpa [T5.noneL, tx] using ht
end
theorem txt_of {L : List T5.Nd} {T : List Bool} (h : T5.nodesL L L.length = .ok T) : Txt L :=
  ⟨fun i x hx e => name_at h hx e, fun i x hx e => by
    obtain ⟨n, h1, h2⟩ := num_at h hx e
    obtain ⟨_, c, w, h3, h4, h5⟩ := dec_text h1 h2
    exact ⟨c, w, n, h3, h4, h5, by rw [← h3]; exact h1⟩, fun i x hx e => un_at h hx e, fun i x hx e => bin_at h hx e⟩
theorem wrd_of {L : List T5.Nd} {T : List Bool} (h : T5.nodesL L L.length = .ok T) : Wrd L :=
  ⟨fun i x hx e => by
    obtain ⟨n, h1, h2⟩ := num_at h hx e
    rw [h1]
    exact (dec_text h1 h2).1, fun i x hx e => by
    have hu := un_at h hx e
    have : ∀ s ∈ T5.unaries, isSg s = true := by decide
    exact this _ hu, fun i x hx e => by
    have hb := bin_at h hx e
    have : ∀ s ∈ T5.binaries, lineL s = opT s + 1 ∧ s ≠ [46] ∧ s ≠ [91] ∧ s ≠ [40] := by decide
    exact this _ hb, fun i x hx e => non_at h hx e⟩
end Go.Proofs.YtnebhkglpggnlaaGreatDoor
namespace Go.Proofs.YtnebhkglpggnlaaGreatDoor
open Go.RowKit
set_option linter.unusedVariables false
set_option linter.unusedSimpArgs false
set_option linter.unusedSectionVars false

theorem All2.map2 {α : Type} {F G : Int → α} : ∀ {l : List Int} {m : List Nat}, All2 (fun a b => F a = G (b : Nat)) l m → l.map F = (cI m).map G
  | [], [], _ => rfl
  | a :: r, b :: s, ⟨h1, h2⟩ => by simp only [List.map_cons, cI, h1]; exact congrArg _ h2.map2
  | [], _ :: _, h => h.elim
  | _ :: _, [], h => h.elim
theorem All2.at2 {F G : Int → List UInt8} : ∀ {l : List Int} {m : List Nat} (i : Nat), All2 (fun a b => F a = G (b : Nat)) l m → atK l i F = atK (cI m) i G := fun {l m} i h => by
  have e := congrArg (fun q => q[i]?) h.map2
  simp only [List.getElem?_map] at e
  unfold atK
  cases h1 : l[i]? with
  | none =>
    rw [h1] at e
    cases h2 : (cI m)[i]? with
    | none => rfl
    | some b => rw [h2] at e; cases e
  | some a =>
    rw [h1] at e
    cases h2 : (cI m)[i]? with
    | none => rw [h2] at e; cases e
    | some b => rw [h2] at e; exact Option.some.inj e
theorem cI_len (m : List Nat) : (cI m).length = m.length := by simp [cI]
theorem tx_nx (y : PN) : tx (nx5 y) = y.text := by simp [tx, nx5]
theorem at_nx {ms : List PN} {r : Nat} {y : PN} (h : ms[r]? = some y) : (ms.map nx5)[((r : Nat) : Int).toNat]? = some (nx5 y) := by simp [h]
theorem exprX_iso {x y : T5.Nd} {e e' : Int → List UInt8} {h h' : Int → Nat → List UInt8} (hk : y.kind = x.kind) (ht : tx x = tx y) (he : x.ks.map e = y.ks.map e') (ha : ∀ i, atK x.ks i e = atK y.ks i e') (hh : ∀ i t, atK x.ks i (fun j => h j t) = atK y.ks i (fun j => h' j t)) : exprX x e h = exprX y e' h' := by
  unfold exprX
  rw [hk, ht]
  simp only [he, ha, hh]
theorem stmtX_iso {x y : T5.Nd} {ab : Nat} {e e' b b' o o' : Int → List UInt8} (hk : y.kind = x.kind) (ht : tx x = tx y) (he : x.ks.map e = y.ks.map e') (ha : ∀ i, atK x.ks i e = atK y.ks i e') (hb : ∀ i, atK x.ks i b = atK y.ks i b') (ho : ∀ i, atK x.ks i o = atK y.ks i o') : stmtX x ab e b o = stmtX y ab e' b' o' := by
  unfold stmtX
  rw [hk, ht]
  simp only [he, ha, hb, ho]
section
variable {L : List T5.Nd} {ms : List PN}
theorem isoF.tg : ∀ {f : Nat} {k : Int} {r : Nat}, isoF L ms f k r → Go.Proofs.YtnebhkglpggnlaaGreatDoor.tg L k = Go.Proofs.YtnebhkglpggnlaaGreatDoor.tg (ms.map nx5) (r : Nat)
  | 0, _, _, h => h.elim
  | f + 1, k, r, ⟨x, y, h1, h2, h3, h4, _⟩ => by
    unfold Go.Proofs.YtnebhkglpggnlaaGreatDoor.tg
    rw [h1, at_nx h2]
    show tightN x = tightN (nx5 y)
    unfold tightN
    rw [tx_nx, h4, h3]
    rfl
theorem isoF.kd2 : ∀ {f : Nat} {k : Int} {r : Nat}, isoF L ms f k r → T5.kd L k = T5.kd (ms.map nx5) (r : Nat)
  | 0, _, _, h => h.elim
  | f + 1, k, r, ⟨x, y, h1, h2, h3, h4, _⟩ => by
    unfold T5.kd
    rw [h1, at_nx h2]
    exact h3
theorem isoF.ex : ∀ {f : Nat} {k : Int} {r : Nat}, isoF L ms f k r → exprF L f k = exprF (ms.map nx5) f (r : Nat)
  | 0, _, _, h => h.elim
  | f + 1, k, r, ⟨x, y, h1, h2, h3, h4, h5⟩ => by
    simp only [exprF, h1, at_nx h2]
    have e1 : All2 (fun a b => exprF L f a = exprF (ms.map nx5) f (b : Nat)) x.ks y.kids := h5.imp (fun a _ b h => h.ex)
    have e2 : ∀ t, All2 (fun a b => heldB (Go.Proofs.YtnebhkglpggnlaaGreatDoor.tg L a) t (exprF L f a) = heldB (Go.Proofs.YtnebhkglpggnlaaGreatDoor.tg (ms.map nx5) (b : Nat)) t (exprF (ms.map nx5) f (b : Nat))) x.ks y.kids := fun t => h5.imp (fun a _ b h => by rw [h.ex, h.tg])
    exact exprX_iso h3.symm (by rw [tx_nx]; exact h4) (All2.map2 (F := exprF L f) (G := exprF (ms.map nx5) f) e1) (fun i => All2.at2 (F := exprF L f) (G := exprF (ms.map nx5) f) i e1) (fun i t => All2.at2 (F := fun j => heldB (Go.Proofs.YtnebhkglpggnlaaGreatDoor.tg L j) t (exprF L f j)) (G := fun j => heldB (Go.Proofs.YtnebhkglpggnlaaGreatDoor.tg (ms.map nx5) j) t (exprF (ms.map nx5) f j)) i (e2 t))
variable (hK : Kids L) (hM : Kids (ms.map nx5))
include hK hM
theorem isoF.eN {f : Nat} {k : Int} {r : Nat} (h : isoF L ms f k r) : eN L k = eN (ms.map nx5) (r : Nat) := by
  have h1 := (isoF.more (show f ≤ f + k.toNat + r + 1 by omega) h).ex
  unfold Go.Proofs.YtnebhkglpggnlaaGreatDoor.eN
  rw [exprF_same hK (k.toNat + 1) (f + k.toNat + r + 1) k (by omega) (by omega), exprF_same hM (((r : Nat) : Int).toNat + 1) (f + k.toNat + r + 1) (r : Nat) (by omega) (by simp; omega)]
  exact h1
theorem isoF.st : ∀ (f : Nat) {ab : Nat} {k : Int} {r : Nat}, isoF L ms f k r → stmtF L f ab k = stmtF (ms.map nx5) f ab (r : Nat) := by
  intro f
  induction f with
  | zero => intro ab k r h; exact h.elim
  | succ f ih =>
    intro ab k r h
    obtain ⟨x, y, h1, h2, h3, h4, h5⟩ := h
    simp only [stmtF, h1, at_nx h2]
    have e1 : All2 (fun a b => Go.Proofs.YtnebhkglpggnlaaGreatDoor.eN L a = Go.Proofs.YtnebhkglpggnlaaGreatDoor.eN (ms.map nx5) (b : Nat)) x.ks y.kids := h5.imp (fun a _ b h => h.eN hK hM)
    generalize hF : (fun (j : Int) => match L[j.toNat]? with | none => [] | some y => (y.ks.map (stmtF L f (ab + 1))).flatten) = F
    generalize hG : (fun (j : Int) => match (ms.map nx5)[j.toNat]? with | none => [] | some y => (y.ks.map (stmtF (ms.map nx5) f (ab + 1))).flatten) = G
    have e2' : ∀ a b, isoF L ms f a b → F a = G (b : Nat) := fun a b h => by
      subst hF hG
      obtain _ | g := f
      · exact h.elim
      obtain ⟨u, v, g1, g2, g3, g4, g5⟩ := h
      simp only
      rw [g1, at_nx g2]
      have : All2 (fun a b => stmtF L (g + 1) (ab + 1) a = stmtF (ms.map nx5) (g + 1) (ab + 1) (b : Nat)) u.ks v.kids := g5.imp (fun a _ b h => ih (isoF.more (Nat.le_succ g) h))
      simp only
      rw [this.map2]
      rfl
    have e2 : All2 (fun a b => F a = G (b : Nat)) x.ks y.kids := h5.imp (fun a _ b h => e2' a b h)
    have e3 : All2 (fun a b => elseB L ab F a = elseB (ms.map nx5) ab G (b : Nat)) x.ks y.kids := h5.imp (fun a _ b h => by unfold elseB; rw [h.kd2, e2' a b h])
    exact stmtX_iso h3.symm (by rw [tx_nx]; exact h4) (All2.map2 (F := Go.Proofs.YtnebhkglpggnlaaGreatDoor.eN L) (G := Go.Proofs.YtnebhkglpggnlaaGreatDoor.eN (ms.map nx5)) e1) (fun i => All2.at2 (F := Go.Proofs.YtnebhkglpggnlaaGreatDoor.eN L) (G := Go.Proofs.YtnebhkglpggnlaaGreatDoor.eN (ms.map nx5)) i e1) (fun i => All2.at2 i e2) (fun i => All2.at2 (F := elseB L ab F) (G := elseB (ms.map nx5) ab G) i e3)
theorem isoF.sN {f : Nat} {ab : Nat} {k : Int} {r : Nat} (h : isoF L ms f k r) : sN L ab k = sN (ms.map nx5) ab (r : Nat) := by
  have h1 := isoF.st hK hM _ (ab := ab) (isoF.more (show f ≤ f + k.toNat + r + 1 by omega) h)
  unfold Go.Proofs.YtnebhkglpggnlaaGreatDoor.sN
  rw [stmtF_same hK (k.toNat + 1) (f + k.toNat + r + 1) ab k (by omega) (by omega), stmtF_same hM (((r : Nat) : Int).toNat + 1) (f + k.toNat + r + 1) ab (r : Nat) (by omega) (by simp; omega)]
  exact h1
theorem isoF.bN {f : Nat} {ab : Nat} {k : Int} {r : Nat} (h : isoF L ms f k r) : bN L ab k = bN (ms.map nx5) ab (r : Nat) := by
  obtain _ | f := f
  · exact h.elim
  obtain ⟨x, y, h1, h2, h3, h4, h5⟩ := h
  unfold Go.Proofs.YtnebhkglpggnlaaGreatDoor.bN
  rw [h1, at_nx h2]
  have e : All2 (fun a b => Go.Proofs.YtnebhkglpggnlaaGreatDoor.sN L ab a = Go.Proofs.YtnebhkglpggnlaaGreatDoor.sN (ms.map nx5) ab (b : Nat)) x.ks y.kids := h5.imp (fun a _ b h => h.sN hK hM)
  simp only
  rw [e.map2]
  rfl
theorem isoF.dN {f : Nat} {k : Int} {r : Nat} (h : isoF L ms f k r) : dN L k = dN (ms.map nx5) (r : Nat) := by
  obtain _ | f := f
  · exact h.elim
  obtain ⟨x, y, h1, h2, h3, h4, h5⟩ := h
  unfold Go.Proofs.YtnebhkglpggnlaaGreatDoor.dN
  rw [h1, at_nx h2]
  have e1 : All2 (fun a b => Go.Proofs.YtnebhkglpggnlaaGreatDoor.eN L a = Go.Proofs.YtnebhkglpggnlaaGreatDoor.eN (ms.map nx5) (b : Nat)) x.ks y.kids := h5.imp (fun a _ b h => h.eN hK hM)
  have e2 : All2 (fun a b => Go.Proofs.YtnebhkglpggnlaaGreatDoor.bN L 1 a = Go.Proofs.YtnebhkglpggnlaaGreatDoor.bN (ms.map nx5) 1 (b : Nat)) x.ks y.kids := h5.imp (fun a _ b h => h.bN hK hM)
  simp only
  unfold declX
  have hk : (nx5 y).kind = x.kind := h3.symm
  have hks : (nx5 y).ks = cI y.kids := rfl
  have hl : x.ks.length = (cI y.kids).length := by rw [cI_len]; exact h5.len
  rw [tx_nx, hk, hks, h4, List.map_take, List.map_take, e1.map2, hl, e2.at2]
theorem isoF.pN {f : Nat} {k : Int} {r : Nat} (h : isoF L ms f k r) : pN L k = pN (ms.map nx5) (r : Nat) := by
  obtain _ | f := f
  · exact h.elim
  obtain ⟨x, y, h1, h2, h3, h4, h5⟩ := h
  unfold Go.Proofs.YtnebhkglpggnlaaGreatDoor.pN
  rw [h1, at_nx h2]
  have e1 : All2 (fun a b => Go.Proofs.YtnebhkglpggnlaaGreatDoor.dN L a = Go.Proofs.YtnebhkglpggnlaaGreatDoor.dN (ms.map nx5) (b : Nat)) x.ks y.kids := h5.imp (fun a _ b h => h.dN hK hM)
  simp only
  rw [e1.map2]
  rfl
end
end Go.Proofs.YtnebhkglpggnlaaGreatDoor
namespace Go.Proofs.YtnebhkglpggnlaaGreatDoor
open Go.RowKit
set_option linter.unusedVariables false
set_option linter.unusedSimpArgs false
set_option linter.unusedSectionVars false

theorem seg_of {s : ByteArray} {ts : List Tok} {A : List T3} (h : ts.map strip = A) : Seg (withEnd s ts) 0 A ∧ nx (withEnd s ts) A.length = [] := by
  subst h
  refine ⟨⟨by simp [withEnd], fun j a hj => ?_⟩, ?_⟩
  · rw [List.getElem?_map] at hj
    cases ht : ts[j]? with
    | none => rw [ht] at hj; cases hj
    | some t =>
      rw [ht] at hj
      have hl := (List.getElem?_eq_some_iff.1 ht).1
      unfold tk withEnd
      rw [Nat.zero_add, List.getD_eq_getElem?_getD, List.getElem?_append_left hl, ht]
      exact Option.some.inj hj
  · unfold nx tk withEnd
    rw [List.getD_eq_getElem?_getD, List.length_map, List.getElem?_append_right (by omega)]
    simp [nxT]
theorem back_read {L : List T5.Nd} {T : List Bool} (h : T5.nodesL L L.length = .ok T) {k : Int} {x : T5.Nd} (hx : L[k.toNat]? = some x) (h1 : x.kind = 1) {s : ByteArray} (hs : s.data.toList = pN L k) : (∃ p, prgL s = .error (p, 51)) ∨ prgL s = .error (0, 2) ∨ ∃ ms r, prgL s = .ok ms ∧ ms.length = r + 1 ∧ Iso L ms k r := by
  have S := shp_of h
  have hsc := lp_all S (txt_of h) hx h1 (s.size + 1) 0 (by rw [← hs, ← Lib.size_eq]; omega)
  have e : sc s 0 = scanL (s.size + 1) 0 (pN L k) := by unfold sc; rw [List.drop_zero, hs]
  rcases hts : sc s 0 with ⟨ts, o⟩
  rw [e] at hts
  rw [hts] at hsc
  obtain ⟨ho, hm⟩ := hsc
  simp only at ho hm
  subst ho
  have hT := (toks_of (s := s) (ts := ts) (by rw [e, hts])).1
  obtain ⟨g1, g2⟩ := seg_of (s := s) hm
  obtain ⟨ms, r, i1, i2, f, i3⟩ := rd_prog (ts := withEnd s ts) S (wrd_of h) hx h1 g1 g2
  have hF : fullP (withEnd s ts) = OkR [r] (tpN L k).length ms := by
    have a1 := P_mono (Nat.le_max_left f (40 * (withEnd s ts).length + 29)) i3
    have a2 := P_mono (Nat.le_max_right f (40 * (withEnd s ts).length + 29)) (fullP_eq hT)
    rw [a1] at a2
    exact (Option.some.inj a2).symm
  rw [prgL_after (e.trans hts) rfl]
  unfold afterL
  cases tooO (withEnd s ts) 0 with
  | some p => exact .inl ⟨p, rfl⟩
  | none =>
    rw [hF]
    simp only [OkR]
    by_cases c1 : 50000 < ms.length
    · rw [if_pos c1]; exact .inr (.inl rfl)
    · rw [if_neg c1]
      by_cases c2 : 200 < deepP ms
      · rw [if_pos c2]; exact .inl ⟨0, rfl⟩
      · rw [if_neg c2]; exact .inr (.inr ⟨ms, r, rfl, i2, i1⟩)
/-- A node at place 0. -/
def z5 (x : T5.Nd) : T5.Nd := ⟨x.kind, x.text, none, 0, x.ks, 0⟩
theorem kd_z (L : List T5.Nd) (k : Int) : T5.kd (L.map z5) k = T5.kd L k := by
  unfold T5.kd
  rw [List.getElem?_map]
  cases L[k.toNat]? <;> rfl
theorem nodeE_z (L : List T5.Nd) (n : Nat) (x : T5.Nd) (hp : 0 ≤ x.pl) (T : List Bool) : T5.nodeE (L.map z5) n (z5 x) T = T5.nodeE L n x T := by
  have e : (z5 x).ks.map (T5.kd (L.map z5)) = x.ks.map (T5.kd L) := List.map_congr_left (fun k _ => kd_z L k)
  have a1 : ¬ (z5 x).pl < 0 := by simp [z5]
  have a2 : ¬ x.pl < 0 := by omega
  unfold T5.nodeE
  simp only [e, if_neg a1, if_neg a2]
  rfl
theorem nodesL_z (L : List T5.Nd) (hp : ∀ x ∈ L, 0 ≤ x.pl) : ∀ n, T5.nodesL (L.map z5) n = T5.nodesL L n
  | 0 => by simp [T5.nodesL]
  | n + 1 => by
    simp only [T5.nodesL, nodesL_z L hp n, List.getElem?_map]
    cases T5.nodesL L n with
    | error e => rfl
    | ok T =>
      cases hx : L[n]? with
      | none => rfl
      | some x => simp only [Option.map_some, nodeE_z L n x (hp x (List.mem_of_getElem? hx))]
theorem depths_z (L : List T5.Nd) : ∀ n, T5.depths (L.map z5) n = T5.depths L n
  | 0 => rfl
  | n + 1 => by
    simp only [T5.depths, depths_z L n, List.getElem?_map]
    cases L[n]? <;> rfl
theorem checkL_z (L : List T5.Nd) (hp : ∀ x ∈ L, 0 ≤ x.pl) : T5.checkL (L.map z5) = T5.checkL L := by
  unfold T5.checkL T5.deepL
  simp only [List.length_map, nodesL_z L hp, depths_z, kd_z]
theorem Kids.z {L : List T5.Nd} (h : Kids L) : Kids (L.map z5) := fun i x hx => by
  rw [List.getElem?_map] at hx
  cases hy : L[i]? with
  | none => rw [hy] at hx; cases hx
  | some y =>
    rw [hy] at hx
    have : z5 y = x := Option.some.inj hx
    subst this
    exact h i y hy
theorem isoF.li {L : List T5.Nd} {ms : List PN} : ∀ {f : Nat} {k : Int} {r : Nat}, isoF L ms f k r → lispF (L.map z5) f k = lispF ((ms.map nx5).map z5) f (r : Nat)
  | 0, _, _, h => h.elim
  | f + 1, k, r, ⟨x, y, h1, h2, h3, h4, h5⟩ => by
    have e1 : All2 (fun a b => (32 :: lispF (L.map z5) f a) = (32 :: lispF ((ms.map nx5).map z5) f (b : Nat))) x.ks y.kids := h5.imp (fun a _ b h => by rw [h.li])
    have a1 : (L.map z5)[k.toNat]? = some (z5 x) := by simp [h1]
    have a2 : ((ms.map nx5).map z5)[((r : Nat) : Int).toNat]? = some (z5 (nx5 y)) := by simp [h2]
    simp only [lispF, a1, a2]
    have e2 : (z5 x).ks.map (fun j => 32 :: lispF (L.map z5) f j) = (z5 (nx5 y)).ks.map (fun j => 32 :: lispF ((ms.map nx5).map z5) f j) := All2.map2 (F := fun j => 32 :: lispF (L.map z5) f j) (G := fun j => 32 :: lispF ((ms.map nx5).map z5) f j) e1
    have e3 : headB (z5 x) = headB (z5 (nx5 y)) := by
      have ht : x.text.data.toList = (nx5 y).text.data.toList := by rw [show (nx5 y).text.data.toList = tx (nx5 y) from rfl, tx_nx]; exact h4
      have hk : x.kind = (nx5 y).kind := h3
      unfold headB z5
      simp only [ht, hk]
    rw [e2, e3]
/-- A tree's nodes stand at no negative place. -/
theorem pl_of {L : List T5.Nd} {T : List Bool} (h : T5.nodesL L L.length = .ok T) : ∀ x ∈ L, 0 ≤ x.pl := fun x hx => by
  obtain ⟨i, hi⟩ := List.getElem?_of_mem hx
  exact (shp_of h).pl i x hi
/-- Bare they are the same text. -/
theorem bare_same {L : List T5.Nd} {ms : List PN} (hL : T5.checkL L = (0, 0)) (hM : T5.checkL (ms.map nx5) = (0, 0)) {r : Nat} (hr : ms.length = r + 1) (h : Iso L ms ((L.length - 1 : Nat) : Int) r) : lispO (L.map z5) = lispO ((ms.map nx5).map z5) := by
  obtain ⟨T, hT, hn, _, _, _⟩ := T5.check_zero hL
  obtain ⟨U, hU, hm, _, _, _⟩ := T5.check_zero hM
  unfold lispO
  rw [checkL_z L (pl_of hT), checkL_z _ (pl_of hU), hL, hM]
  simp only [List.length_map, if_true]
  have e1 : ((ms.length - 1 : Nat) : Int) = (r : Nat) := by omega
  rw [e1]
  have h1 := (isoF.more (show ((L.length - 1 : Nat) : Int).toNat + 1 ≤ L.length + ms.length by simp only [Int.toNat_natCast]; omega) h).li
  rw [lispF_same (kids_of hT).z L.length (L.length + ms.length) _ (by simp only [Int.toNat_natCast]; omega) (by simp only [Int.toNat_natCast]; omega), lispF_same (kids_of hU).z ms.length (L.length + ms.length) _ (by simp only [Int.toNat_natCast]; omega) (by simp only [Int.toNat_natCast]; omega), h1]
/-- And shown they are the same text. -/
theorem shown_same {L : List T5.Nd} {ms : List PN} (hL : T5.checkL L = (0, 0)) (hM : T5.checkL (ms.map nx5) = (0, 0)) {r : Nat} (hr : ms.length = r + 1) (h : Iso L ms ((L.length - 1 : Nat) : Int) r) : pN L ((L.length - 1 : Nat) : Int) = pN (ms.map nx5) (((ms.map nx5).length - 1 : Nat) : Int) := by
  obtain ⟨T, hT, hn, _, _, _⟩ := T5.check_zero hL
  obtain ⟨U, hU, hm, _, _, _⟩ := T5.check_zero hM
  rw [List.length_map, show ((ms.length - 1 : Nat) : Int) = (r : Nat) by omega]
  exact isoF.pN (kids_of hT) (kids_of hU) h
end Go.Proofs.YtnebhkglpggnlaaGreatDoor
namespace Go.Proofs.YtnebhkglpggnlaaGreatDoor
open Go.RowKit
set_option linter.unusedVariables false
set_option linter.unusedSimpArgs false
set_option linter.unusedSectionVars false

/-- What a node may cost where it is written. -/
def baseW (k : Nat) : Nat := if k = 4 then 560 else if k = 5 ∨ k = 6 ∨ k = 9 ∨ k = 10 ∨ k = 11 then 410 else if k = 7 ∨ k = 8 then 250 else if k = 12 then 10 else if k = 13 ∨ k = 22 then 420 else if k = 1 ∨ k = 14 then 0 else 20
def wtN (x : PN) : Nat := baseW x.kind + x.text.length
def Wt (ns : List PN) : Nat := (ns.map wtN).sum
def SumT (ts : List Tok) : Nat → Nat
  | 0 => 0
  | n + 1 => SumT ts n + 280 + (tk ts n).text.length
def accW (acc : List Tok) : Nat := (acc.map (fun t => 20 + t.text.length)).sum
def crd : NT → Nat
  | .signedL acc => accW acc
  | .laySigns acc _ => accW acc
  | .blockL _ _ => 280
  | _ => 0
theorem Wt_snoc (ns : List PN) (x : PN) : Wt (ns ++ [x]) = Wt ns + wtN x := by simp [Wt]
theorem laySg_wt : ∀ (acc : List Tok) (n : Nat) (ns : List PN), Wt (laySg acc n ns).2 = Wt ns + accW acc
  | [], n, ns => by simp [laySg, accW]
  | t :: r, n, ns => by
    simp only [laySg]
    rw [laySg_wt r, Wt_snoc]
    have : wtN ⟨18, t.text, [n], t.frm⟩ = 20 + t.text.length := rfl
    simp only [accW, List.map_cons, List.sum_cons, this]
    omega
theorem accW_rev (acc : List Tok) : accW acc.reverse = accW acc := by simp [accW, List.map_reverse, List.sum_reverse]
theorem accW_snoc (acc : List Tok) (t : Tok) : accW (acc ++ [t]) = accW acc + (20 + t.text.length) := by simp [accW]
theorem wantR_ok {ts : List Tok} {s : List UInt8} {i : Nat} {k : R} {r : List Nat × Nat × List PN} (h : wantR ts s i k = some (.ok r)) : k = some (.ok r) := by
  unfold wantR at h
  split at h
  · exact h
  · cases h
theorem bindR_is {r : R} {k : List Nat → Nat → List PN → R} {x : List Nat × Nat × List PN} (h : bindR r k = some (.ok x)) : ∃ v j ns, r = some (.ok (v, j, ns)) ∧ k v j ns = some (.ok x) := by
  rcases r with _ | (e | ⟨v, j, ns⟩)
  · cases h
  · cases h
  · exact ⟨v, j, ns, rfl, h⟩
theorem layR_ok {kind : Nat} {text : List UInt8} {pl : Nat} {kids : List Nat} {i : Nat} {ns : List PN} {v : List Nat} {j : Nat} {ms : List PN} (h : layR kind text pl kids i ns = some (.ok (v, j, ms))) : j = i ∧ Wt ms = Wt ns + (baseW kind + text.length) := by
  cases h
  exact ⟨rfl, Wt_snoc _ _⟩
theorem crd_decl {s : List UInt8} {nt : NT} (h : declNT s = some nt) : crd nt = 0 := by
  unfold declNT at h
  repeat' (first | (cases h; done) | (cases h; rfl) | split at h)
theorem crd_stmt {s : List UInt8} {nt : NT} (h : stmtNT s = some nt) : crd nt = 0 := by
  unfold stmtNT at h
  repeat' (first | (cases h; done) | (cases h; rfl) | split at h)
set_option maxHeartbeats 1000000 in
theorem first_mem {s : List UInt8} {nt : NT} (h : firstNT s = some nt) : nt = .number ∨ nt = .nameOrCall ∨ (∃ k, nt = .alone k ∧ (k = 16 ∨ k = 30)) ∨ nt = .made ∨ (∃ k, nt = .about k ∧ (k = 24 ∨ k = 25 ∨ k = 27 ∨ k = 29)) ∨ (∃ k, nt = .empty k ∧ (k = 26 ∨ k = 28)) ∨ nt = .brack := by
  unfold firstNT at h
  by_cases e0 : s = [110, 117, 109, 98, 101, 114]
  · rw [if_pos e0] at h; cases h; simp
  rw [if_neg e0] at h
  by_cases e1 : s = [110, 97, 109, 101]
  · rw [if_pos e1] at h; cases h; simp
  rw [if_neg e1] at h
  by_cases e2 : s = [110, 117, 108, 108]
  · rw [if_pos e2] at h; cases h; simp
  rw [if_neg e2] at h
  by_cases e3 : s = [114, 111, 111, 116]
  · rw [if_pos e3] at h; cases h; simp
  rw [if_neg e3] at h
  by_cases e4 : s = [110, 101, 119]
  · rw [if_pos e4] at h; cases h; simp
  rw [if_neg e4] at h
  by_cases e5 : s = [97, 114, 114]
  · rw [if_pos e5] at h; cases h; simp
  rw [if_neg e5] at h
  by_cases e6 : s = [108, 101, 110]
  · rw [if_pos e6] at h; cases h; simp
  rw [if_neg e6] at h
  by_cases e7 : s = [105, 110]
  · rw [if_pos e7] at h; cases h; simp
  rw [if_neg e7] at h
  by_cases e8 : s = [105, 109, 103]
  · rw [if_pos e8] at h; cases h; simp
  rw [if_neg e8] at h
  by_cases e9 : s = [115, 105, 122, 101]
  · rw [if_pos e9] at h; cases h; simp
  rw [if_neg e9] at h
  by_cases e10 : s = [112, 114, 111, 109, 111, 116, 101]
  · rw [if_pos e10] at h; cases h; simp
  rw [if_neg e10] at h
  by_cases e11 : s = [40]
  · rw [if_pos e11] at h; cases h; simp
  rw [if_neg e11] at h
  cases h
/-- Kinds that a rule may lay. -/
def okNT : NT → Prop
  | .worded k => k = 9 ∨ k = 10 ∨ k = 11
  | .alone k => k = 16 ∨ k = 30
  | .empty k => k = 26 ∨ k = 28
  | .about k => k = 24 ∨ k = 25 ∨ k = 27 ∨ k = 29
  | _ => True
theorem ok_first {s : List UInt8} {nt : NT} (h : firstNT s = some nt) : okNT nt ∧ crd nt = 0 := by
  rcases first_mem h with e | e | ⟨k, e, hk⟩ | e | ⟨k, e, hk⟩ | ⟨k, e, hk⟩ | e <;> subst e <;> first | exact ⟨trivial, rfl⟩ | exact ⟨hk, rfl⟩
theorem ok_stmt {s : List UInt8} {nt : NT} (h : stmtNT s = some nt) : okNT nt := by
  unfold stmtNT at h
  repeat' (first | (cases h; done) | (cases h; simp [okNT]; done) | split at h)
theorem ok_decl {s : List UInt8} {nt : NT} (h : declNT s = some nt) : okNT nt := by
  unfold declNT at h
  repeat' (first | (cases h; done) | (cases h; simp [okNT]; done) | split at h)
theorem base_w {k : Nat} (h : k = 9 ∨ k = 10 ∨ k = 11) : baseW k = 410 := by rcases h with rfl | rfl | rfl <;> rfl
theorem base_a {k : Nat} (h : k = 16 ∨ k = 30) : baseW k = 20 := by rcases h with rfl | rfl <;> rfl
theorem base_e {k : Nat} (h : k = 26 ∨ k = 28) : baseW k = 20 := by rcases h with rfl | rfl <;> rfl
theorem base_b {k : Nat} (h : k = 24 ∨ k = 25 ∨ k = 27 ∨ k = 29) : baseW k = 20 := by rcases h with rfl | rfl | rfl | rfl <;> rfl
theorem wt_P {ts : List Tok} (hT : Toks ts) : ∀ (f : Nat) (nt : NT) (i : Nat) (ns : List PN), okNT nt → ∀ v j ms, P ts f nt i ns = some (.ok (v, j, ms)) → Wt ms + SumT ts i ≤ Wt ns + SumT ts j + crd nt := by
  intro f
  induction f with
  | zero => intro nt i ns _ v j ms e; simp [P] at e
  | succ f ih =>
    intro nt i ns hk v j ms e
    have hd : (Lib.decDigits (tk ts i).n).length ≤ 20 := dec_len2 19 _ (by have := hT.num i; omega)
    have s1 : SumT ts (i + 1) = SumT ts i + 280 + (tk ts i).text.length := rfl
    have s2 : SumT ts (i + 2) = SumT ts (i + 1) + 280 + (tk ts (i + 1)).text.length := rfl
    have s3 : SumT ts (i + 3) = SumT ts (i + 2) + 280 + (tk ts (i + 2)).text.length := rfl
    have sn : ∀ q, SumT ts (q + 1) = SumT ts q + 280 + (tk ts q).text.length := fun _ => rfl
    cases nt <;> simp only [P] at e
    case laySigns acc n =>
      cases e
      rw [laySg_wt]
      simp only [crd]
      omega
    case signedL acc =>
      split at e
      · have h := ih (.signedL (acc ++ [tk ts i])) _ _ trivial _ _ _ e
        simp only [crd, accW_snoc] at h ⊢
        omega
      · obtain ⟨v1, j1, n1, hr, e⟩ := bindR_is e
        have h1 := ih .back _ _ trivial _ _ _ hr
        have h2 := ih (.laySigns acc.reverse (Go.Proofs.YtnebhkglpggnlaaGreatDoor.hd v1)) _ _ trivial _ _ _ e
        simp only [crd, accW_rev] at h1 h2 ⊢
        omega
    case decl =>
      split at e
      · rename_i nt hn
        have h := ih nt _ _ (ok_decl hn) _ _ _ e
        rw [crd_decl hn] at h
        exact h
      · cases e
    case stmt =>
      split at e
      · rename_i nt hn
        have h := ih nt _ _ (ok_stmt hn) _ _ _ e
        rw [crd_stmt hn] at h
        exact h
      · exact ih .setOrDo _ _ trivial _ _ _ e
    case first =>
      split at e
      · rename_i nt hn
        have h := ih nt _ _ (ok_first hn).1 _ _ _ e
        rw [(ok_first hn).2] at h
        exact h
      · cases e
    case worded k =>
      have hb := base_w hk
      obtain ⟨v1, j1, n1, hr, e⟩ := bindR_is e
      have h1 := ih .expr _ _ trivial _ _ _ hr
      obtain ⟨rfl, h2⟩ := layR_ok (wantR_ok e)
      have := sn j1
      simp only [crd, List.length_nil] at h1 h2 ⊢
      omega
    case alone k =>
      have hb := base_a hk
      obtain ⟨rfl, h2⟩ := layR_ok e
      simp only [crd, List.length_nil] at h2 ⊢
      omega
    case empty k =>
      have hb := base_e hk
      obtain ⟨rfl, h2⟩ := layR_ok (wantR_ok (wantR_ok e))
      simp only [crd, List.length_nil] at h2 ⊢
      omega
    case about k =>
      have hb := base_b hk
      obtain ⟨v1, j1, n1, hr, e⟩ := bindR_is e
      have h1 := ih .brack _ _ trivial _ _ _ hr
      obtain ⟨rfl, h2⟩ := layR_ok e
      simp only [crd, List.length_nil] at h1 h2 ⊢
      omega
    case listed thing closing =>
      split at e
      · cases e; simp only [crd]; omega
      · obtain ⟨v1, j1, n1, hr, e⟩ := bindR_is e
        have h1 := ih (if thing then .expr else .name) _ _ (by cases thing <;> trivial) _ _ _ hr
        have h2 := ih (.listedL _ _ _) _ _ trivial _ _ _ e
        have hc : crd (if thing then .expr else .name) = 0 := by cases thing <;> rfl
        rw [hc] at h1
        simp only [crd] at h2 ⊢
        omega
    case listedL thing closing acc =>
      split at e
      · obtain ⟨v1, j1, n1, hr, e⟩ := bindR_is e
        have h1 := ih (if thing then .expr else .name) _ _ (by cases thing <;> trivial) _ _ _ hr
        have h2 := ih (.listedL _ _ _) _ _ trivial _ _ _ e
        have hc : crd (if thing then .expr else .name) = 0 := by cases thing <;> rfl
        rw [hc] at h1
        simp only [crd] at h2 ⊢
        omega
      · have e := wantR_ok e
        cases e
        simp only [crd]
        omega
    case func =>
      obtain ⟨v1, j1, n1, hr, e⟩ := bindR_is (wantR_ok (wantR_ok e))
      have h1 := ih (.listed _ _) _ _ trivial _ _ _ hr
      obtain ⟨v2, j2, n2, hr2, e⟩ := bindR_is e
      have h2 := ih (.block _) _ _ trivial _ _ _ hr2
      obtain ⟨rfl, h3⟩ := layR_ok e
      have hb : baseW 3 = 20 := rfl
      simp only [crd] at h1 h2 ⊢
      omega
    case choice =>
      obtain ⟨v1, j1, n1, hr, e⟩ := bindR_is e
      have h1 := ih .expr _ _ trivial _ _ _ hr
      obtain ⟨v2, j2, n2, hr2, e⟩ := bindR_is e
      have h2 := ih (.block _) _ _ trivial _ _ _ hr2
      obtain ⟨v3, j3, n3, hr3, e⟩ := bindR_is e
      have h3 := ih .other _ _ trivial _ _ _ hr3
      obtain ⟨rfl, h4⟩ := layR_ok e
      have hb : baseW 7 = 250 := rfl
      simp only [crd, List.length_nil] at h1 h2 h3 h4 ⊢
      omega
    case whileS =>
      obtain ⟨v1, j1, n1, hr, e⟩ := bindR_is e
      have h1 := ih .expr _ _ trivial _ _ _ hr
      obtain ⟨v2, j2, n2, hr2, e⟩ := bindR_is e
      have h2 := ih (.block _) _ _ trivial _ _ _ hr2
      obtain ⟨rfl, h4⟩ := layR_ok e
      have hb : baseW 8 = 250 := rfl
      simp only [crd, List.length_nil] at h1 h2 h4 ⊢
      omega
    case setOrDo =>
      obtain ⟨v1, j1, n1, hr, e⟩ := bindR_is e
      have h1 := ih .back _ _ trivial _ _ _ hr
      split at e
      · have h2 := ih (.setS _) _ _ trivial _ _ _ e
        simp only [crd] at h1 h2 ⊢
        omega
      · split at e
        · cases e
        · obtain ⟨rfl, h4⟩ := layR_ok (wantR_ok e)
          have := sn j1
          have hb : baseW 12 = 10 := rfl
          simp only [crd, List.length_nil] at h1 h4 ⊢
          omega
    case progL acc =>
      split at e
      · obtain ⟨rfl, h4⟩ := layR_ok e
        have hb : baseW 1 = 0 := rfl
        simp only [crd, List.length_nil] at h4 ⊢
        omega
      · obtain ⟨v1, j1, n1, hr, e⟩ := bindR_is e
        have h1 := ih .decl _ _ trivial _ _ _ hr
        have h2 := ih (.progL _) _ _ trivial _ _ _ e
        simp only [crd] at h1 h2 ⊢
        omega
    case blockL pl acc =>
      split at e
      · obtain ⟨rfl, h4⟩ := layR_ok e
        have hb : baseW 4 = 560 := rfl
        simp only [crd, List.length_nil] at h4 ⊢
        omega
      · obtain ⟨v1, j1, n1, hr, e⟩ := bindR_is e
        have h1 := ih .stmt _ _ trivial _ _ _ hr
        have h2 := ih (.blockL _ _) _ _ trivial _ _ _ e
        simp only [crd] at h1 h2 ⊢
        omega
    case block pl =>
      have h2 := ih (.blockL _ _) _ _ trivial _ _ _ (wantR_ok e)
      simp only [crd] at h2 ⊢
      omega
    case other =>
      split at e
      · have h2 := ih (.block _) _ _ trivial _ _ _ e
        simp only [crd] at h2 ⊢
        omega
      · obtain ⟨rfl, h4⟩ := layR_ok e
        have hb : baseW 14 = 0 := rfl
        simp only [crd, List.length_nil] at h4 ⊢
        omega
    case prog => exact ih (.progL _) _ _ trivial _ _ _ e
    case signed =>
      have h := ih (.signedL _) _ _ trivial _ _ _ e
      simpa [crd, accW] using h
    case recd =>
      obtain ⟨v1, j1, n1, hr, e⟩ := bindR_is (wantR_ok (wantR_ok e))
      have h1 := ih (.listed _ _) _ _ trivial _ _ _ hr
      obtain ⟨rfl, h3⟩ := layR_ok e
      have hb : baseW 2 = 20 := rfl
      simp only [crd] at h1 ⊢
      omega
    case name =>
      obtain ⟨rfl, h3⟩ := layR_ok (wantR_ok e)
      have hb : baseW 17 = 20 := rfl
      simp only [crd]
      omega
    case letS =>
      obtain ⟨v1, j1, n1, hr, e⟩ := bindR_is (wantR_ok (wantR_ok e))
      have h1 := ih .expr _ _ trivial _ _ _ hr
      obtain ⟨rfl, h3⟩ := layR_ok (wantR_ok e)
      have := sn j1
      have hb : baseW 5 = 410 := rfl
      simp only [crd] at h1 ⊢
      omega
    case merge =>
      obtain ⟨v1, j1, n1, hr, e⟩ := bindR_is (wantR_ok e)
      have h1 := ih (.listed _ _) _ _ trivial _ _ _ hr
      obtain ⟨rfl, h3⟩ := layR_ok (wantR_ok e)
      have := sn j1
      have hb : baseW 13 = 420 := rfl
      simp only [crd, List.length_nil] at h1 h3 ⊢
      omega
    case setS p =>
      obtain ⟨v1, j1, n1, hr, e⟩ := bindR_is e
      have h1 := ih .expr _ _ trivial _ _ _ hr
      obtain ⟨rfl, h3⟩ := layR_ok (wantR_ok e)
      have := sn j1
      have hb : baseW 6 = 410 := rfl
      simp only [crd, List.length_nil] at h1 h3 ⊢
      omega
    case expr =>
      obtain ⟨v1, j1, n1, hr, e⟩ := bindR_is e
      have h1 := ih (.chain _) _ _ trivial _ _ _ hr
      split at e
      · have h2 := ih (.joined _ _) _ _ trivial _ _ _ e
        simp only [crd] at h1 h2 ⊢
        omega
      · cases e
        exact h1
    case chain line =>
      split at e
      · exact ih .signed _ _ trivial _ _ _ e
      · obtain ⟨v1, j1, n1, hr, e⟩ := bindR_is e
        have h1 := ih (.chain _) _ _ trivial _ _ _ hr
        have h2 := ih (.chainL _ _) _ _ trivial _ _ _ e
        simp only [crd] at h1 h2 ⊢
        omega
    case chainL line n =>
      split at e
      · obtain ⟨v1, j1, n1, hr, e⟩ := bindR_is e
        have h1 := ih (.joined _ _) _ _ trivial _ _ _ hr
        have h2 := ih (.chainL _ _) _ _ trivial _ _ _ e
        simp only [crd] at h1 h2 ⊢
        omega
      · cases e
        exact Nat.le_refl _
    case joined left line =>
      obtain ⟨v1, j1, n1, hr, e⟩ := bindR_is e
      have h1 := ih (.chain _) _ _ trivial _ _ _ hr
      obtain ⟨rfl, h3⟩ := layR_ok e
      have hb : baseW 19 = 20 := rfl
      simp only [crd] at h1 ⊢
      omega
    case back =>
      obtain ⟨v1, j1, n1, hr, e⟩ := bindR_is e
      have h1 := ih .first _ _ trivial _ _ _ hr
      have h2 := ih (.backL _) _ _ trivial _ _ _ e
      simp only [crd] at h1 h2 ⊢
      omega
    case backL n =>
      split at e
      · obtain ⟨v1, j1, n1, hr, e⟩ := bindR_is e
        have h1 := ih (.field _) _ _ trivial _ _ _ hr
        have h2 := ih (.backL _) _ _ trivial _ _ _ e
        simp only [crd] at h1 h2 ⊢
        omega
      · split at e
        · obtain ⟨v1, j1, n1, hr, e⟩ := bindR_is e
          have h1 := ih (.elem _) _ _ trivial _ _ _ hr
          have h2 := ih (.backL _) _ _ trivial _ _ _ e
          simp only [crd] at h1 h2 ⊢
          omega
        · cases e
          exact Nat.le_refl _
    case field n =>
      obtain ⟨rfl, h3⟩ := layR_ok (wantR_ok e)
      have hb : baseW 20 = 20 := rfl
      simp only [crd]
      omega
    case elem n =>
      obtain ⟨v1, j1, n1, hr, e⟩ := bindR_is e
      have h1 := ih .expr _ _ trivial _ _ _ hr
      obtain ⟨rfl, h3⟩ := layR_ok (wantR_ok e)
      have := sn j1
      have hb : baseW 21 = 20 := rfl
      simp only [crd, List.length_nil] at h1 h3 ⊢
      omega
    case number =>
      obtain ⟨rfl, h3⟩ := layR_ok e
      have hb : baseW 15 = 20 := rfl
      simp only [crd]
      omega
    case nameOrCall =>
      split at e
      · obtain ⟨v1, j1, n1, hr, e⟩ := bindR_is e
        have h1 := ih (.listed _ _) _ _ trivial _ _ _ hr
        obtain ⟨rfl, h3⟩ := layR_ok e
        have hb : baseW 22 = 420 := rfl
        simp only [crd] at h1 ⊢
        omega
      · obtain ⟨rfl, h3⟩ := layR_ok e
        have hb : baseW 17 = 20 := rfl
        simp only [crd]
        omega
    case made =>
      obtain ⟨rfl, h3⟩ := layR_ok (wantR_ok e)
      have hb : baseW 23 = 20 := rfl
      simp only [crd]
      omega
    case brack =>
      obtain ⟨v1, j1, n1, hr, e⟩ := bindR_is (wantR_ok e)
      have h1 := ih .expr _ _ trivial _ _ _ hr
      have e := wantR_ok e
      cases e
      have := sn j1
      simp only [crd] at h1 ⊢
      omega
end Go.Proofs.YtnebhkglpggnlaaGreatDoor
namespace Go.Proofs.YtnebhkglpggnlaaGreatDoor
open Go.RowKit
set_option linter.unusedVariables false
set_option linter.unusedSimpArgs false
set_option linter.unusedSectionVars false

def sumX (ts : List Tok) : Nat := (ts.map (fun t => t.text.length)).sum
theorem readL_text {p : Nat} {l : List UInt8} {t : Tok} (h : readL p l = .ok t) : p + t.text.length ≤ t.to := by
  have hr := runL_le l
  have hs := signL_le l
  unfold readL at h
  split at h
  · injection h with h; subst h; simp; omega
  · split at h
    · split at h
      · cases h
      · injection h with h; subst h; simp; omega
    · split at h
      · split at h
        · cases h
        · injection h with h; subst h; simp
      · split at h
        · cases h
        · injection h with h; subst h; simp; omega
theorem scan_text : ∀ (f p : Nat) (l : List UInt8), sumX (scanL f p l).1 ≤ l.length
  | 0, p, l => by simp [scanL, sumX]
  | f + 1, p, l => by
    simp only [scanL]
    split
    · simp [sumX]
    · rename_i hne
      have hle := skipL_le false l
      cases hr : readL (p + skipL false l) (l.drop (skipL false l)) with
      | error e => simp [sumX]
      | ok t =>
        simp only
        have h1 := readL_text hr
        have h2 := readL_to (fun e => by have e2 := congrArg List.length e; simp at e2; omega) hr
        have h3 := scan_text f t.to (l.drop (t.to - p))
        simp only [List.length_drop] at h2 h3
        simp only [sumX, List.map_cons, List.sum_cons] at h3 ⊢
        omega
theorem SumT_eq {ts : List Tok} : ∀ n, n ≤ ts.length → SumT ts n = 280 * n + sumX (ts.take n)
  | 0, _ => by simp [SumT, sumX]
  | n + 1, h => by
    have e : ts.take (n + 1) = ts.take n ++ [tk ts n] := by
      rw [List.take_add_one, List.getElem?_eq_getElem (by omega)]
      simp [tk, List.getD_eq_getElem?_getD, List.getElem?_eq_getElem (show n < ts.length by omega)]
    rw [SumT, SumT_eq n (by omega), e]
    simp [sumX]
    omega
theorem sumX_take (ts : List Tok) (n : Nat) : sumX (ts.take n) ≤ sumX ts := by
  have e : sumX ts = sumX (ts.take n) + sumX (ts.drop n) := by
    unfold sumX
    rw [← List.sum_append, ← List.map_append, List.take_append_drop]
  omega
/-- How deep a node lies. -/
def depN (L : List T5.Nd) (k : Int) : Nat := (T5.depths L L.length).getD k.toNat 0
theorem depths_at (L : List T5.Nd) : ∀ (n m : Nat), m ≤ n → ∀ i, i < m → (T5.depths L n).getD i 0 = (T5.depths L m).getD i 0 := by
  intro n
  induction n with
  | zero => intro m hm i hi; omega
  | succ n ih =>
    intro m hm i hi
    by_cases e : m = n + 1
    · rw [e]
    · rw [← ih m (by omega) i hi]
      simp only [T5.depths, List.getD_eq_getElem?_getD]
      rw [List.getElem?_append_left (by rw [T5.depths_length]; omega)]
theorem kidD_ge {D : List Nat} {n : Nat} : ∀ (ks : List Int) (d : Nat), d ≤ T5.kidD D n ks d ∧ ∀ k ∈ ks, 0 ≤ k → k < n → 1 + D.getD k.toNat 0 ≤ T5.kidD D n ks d
  | [], d => ⟨Nat.le_refl _, fun k hk => by cases hk⟩
  | a :: r, d => by
    simp only [T5.kidD]
    obtain ⟨h1, h2⟩ := kidD_ge (D := D) (n := n) r (if 0 ≤ a ∧ a < n then max d (1 + D.getD a.toNat 0) else d)
    refine ⟨?_, fun k hk h0 hn => ?_⟩
    · refine Nat.le_trans ?_ h1
      split <;> omega
    · rcases List.mem_cons.1 hk with rfl | hk
      · rw [if_pos ⟨h0, hn⟩] at h1 ⊢
        omega
      · exact h2 k hk h0 hn
theorem dep_at {L : List T5.Nd} {i : Nat} {x : T5.Nd} (hx : L[i]? = some x) : depN L (i : Nat) = T5.kidD (T5.depths L i) i x.ks 1 := by
  have hi := (List.getElem?_eq_some_iff.1 hx).1
  unfold depN
  rw [Int.toNat_natCast, depths_at L L.length (i + 1) (by omega) i (by omega)]
  simp only [T5.depths, List.getD_eq_getElem?_getD]
  rw [List.getElem?_append_right (by rw [T5.depths_length]; omega), T5.depths_length, Nat.sub_self, hx]
  rfl
theorem dep_pos {L : List T5.Nd} {k : Int} {x : T5.Nd} (h0 : 0 ≤ k) (hx : L[k.toNat]? = some x) : 1 ≤ depN L k := by
  have e := dep_at hx
  rw [show ((k.toNat : Nat) : Int) = k by omega] at e
  rw [e]
  exact (kidD_ge _ _).1
theorem dep_kid {L : List T5.Nd} (hK : Kids L) {k : Int} {x : T5.Nd} (h0 : 0 ≤ k) (hx : L[k.toNat]? = some x) {a : Int} (ha : a ∈ x.ks) : depN L a + 1 ≤ depN L k := by
  obtain ⟨a0, a1⟩ := hK _ x hx a ha
  have hi := (List.getElem?_eq_some_iff.1 hx).1
  have e := dep_at hx
  rw [show ((k.toNat : Nat) : Int) = k by omega] at e
  rw [e]
  have h := (kidD_ge (D := T5.depths L k.toNat) (n := k.toNat) x.ks 1).2 a ha a0 a1
  have e2 : depN L a = (T5.depths L k.toNat).getD a.toNat 0 := by
    unfold depN
    exact depths_at L L.length k.toNat (by omega) a.toNat (by omega)
  omega
end Go.Proofs.YtnebhkglpggnlaaGreatDoor
namespace Go.Proofs.YtnebhkglpggnlaaGreatDoor
open Go.RowKit
set_option linter.unusedVariables false
set_option linter.unusedSimpArgs false

theorem valL_snoc {b : Nat} (c : UInt8) : ∀ (a : List UInt8) (n : Nat), valL b (a ++ [c]) n = (valL b a n).bind (fun m => if b ≤ fig c.toNat ∨ (9223372036854775807 - fig c.toNat) / b < m then none else some (m * b + fig c.toNat))
  | [], n => by simp [valL]
  | d :: a, n => by
    simp only [List.cons_append, valL]
    split
    · rfl
    · exact valL_snoc c a _
theorem dig_toNat {d : Nat} (h : d < 10) : (UInt8.ofNat (48 + d)).toNat = 48 + d := by
  rw [UInt8.toNat_ofNat']
  omega
theorem fig_dig {d : Nat} (h : d < 10) : fig (UInt8.ofNat (48 + d)).toNat = d := by
  rw [dig_toNat h]
  unfold fig
  rw [if_pos (by simp [isDig]; omega)]
  omega
theorem val_dec : ∀ (f n : Nat), n ≤ f → n ≤ 9223372036854775807 → valL 10 (Lib.decDigits n) 0 = some n
  | 0, n, h, _ => by
    obtain rfl : n = 0 := by omega
    rw [Lib.decDigits_one (by omega)]
    simp only [valL, fig_dig (show 0 < 10 by omega)]
    simp
  | f + 1, n, h, hn => by
    by_cases h10 : n < 10
    · rw [Lib.decDigits_one h10]
      simp only [valL, fig_dig h10]
      rw [if_neg (by omega)]
      simp
    · rw [Lib.decDigits, dif_neg h10, valL_snoc, val_dec f (n / 10) (by omega) (by omega)]
      simp only [Option.bind_some, fig_dig (Nat.mod_lt n (show 0 < 10 by omega))]
      rw [if_neg (by omega)]
      congr 1
      omega
theorem dec_head : ∀ (f n : Nat), n ≤ f → ∃ d r, Lib.decDigits n = UInt8.ofNat (48 + d) :: r ∧ d < 10 ∧ (d = 0 → n = 0)
  | 0, n, h => by
    obtain rfl : n = 0 := by omega
    exact ⟨0, [], Lib.decDigits_one (by omega), by omega, fun _ => rfl⟩
  | f + 1, n, h => by
    by_cases h10 : n < 10
    · exact ⟨n, [], Lib.decDigits_one h10, h10, fun e => e⟩
    · obtain ⟨d, r, h1, h2, h3⟩ := dec_head f (n / 10) (by omega)
      refine ⟨d, r ++ [UInt8.ofNat (48 + n % 10)], ?_, h2, fun e => ?_⟩
      · rw [Lib.decDigits, dif_neg h10, h1]; rfl
      · have := h3 e; omega
theorem dec_all : ∀ (f n : Nat), n ≤ f → ∀ c ∈ Lib.decDigits n, ∃ d, d < 10 ∧ c = UInt8.ofNat (48 + d)
  | 0, n, h, c, hc => by
    obtain rfl : n = 0 := by omega
    rw [Lib.decDigits_one (by omega)] at hc
    simp at hc
    exact ⟨0, by omega, by simpa using hc⟩
  | f + 1, n, h, c, hc => by
    by_cases h10 : n < 10
    · rw [Lib.decDigits_one h10] at hc
      exact ⟨n, h10, by simpa using hc⟩
    · rw [Lib.decDigits, dif_neg h10] at hc
      rcases List.mem_append.1 hc with hc | hc
      · exact dec_all f (n / 10) (by omega) c hc
      · exact ⟨n % 10, Nat.mod_lt _ (by omega), by simpa using hc⟩
theorem decL_dec {n : Nat} (hn : n ≤ 9223372036854775807) : T5.decL ⟨(Lib.decDigits n).toArray⟩ = true := by
  obtain ⟨d, r, h1, h2, h3⟩ := dec_head n n (Nat.le_refl _)
  have h48 : UInt8.ofNat (48 + d) ≠ 39 := fun e => by have := congrArg UInt8.toNat e; rw [dig_toNat h2] at this; simp at this; omega
  have hq : quotedL (Lib.decDigits n) = false := by
    unfold quotedL
    apply decide_eq_false
    rintro ⟨_, e, _⟩
    rw [h1] at e
    simp at e
    exact h48 (by simpa using e)
  have hx : (Lib.decDigits n).take 2 ≠ [48, 120] := fun e => by
    have hm : (120 : UInt8) ∈ Lib.decDigits n := List.mem_of_mem_take (show (120 : UInt8) ∈ (Lib.decDigits n).take 2 by rw [e]; simp)
    obtain ⟨d', hd', e'⟩ := dec_all n n (Nat.le_refl _) _ hm
    have := congrArg UInt8.toNat e'
    rw [dig_toNat hd'] at this
    simp at this
    omega
  have hv : numL (Lib.decDigits n) = some n := by
    unfold numL
    rw [if_neg (by rw [hq]; simp), if_neg hx]
    unfold valueL
    rw [if_neg (by rw [h1]; simp), val_dec n n (Nat.le_refl _) hn]
  unfold T5.decL num
  simp only [hv, Option.isSome_some, Bool.true_and, Bool.or_eq_true, decide_eq_true_eq]
  by_cases hd : d = 0
  · left
    have := h3 hd
    subst this
    exact Lib.decDigits_one (by omega)
  · right
    rw [h1]
    simp only [List.headD_cons]
    rw [dig_toNat h2]
    omega
theorem bin_line {s : List UInt8} (h : lineL s ≠ 0) : T5.binaries.contains s = true := by
  unfold lineL at h
  simp only [T5.binaries, List.contains_cons, List.contains_nil, Bool.or_false, Bool.or_eq_true, beq_iff_eq]
  by_cases e1 : s = [61, 61] ∨ s = [33, 61] ∨ s = [60] ∨ s = [60, 61]
  · rcases e1 with e | e | e | e <;> simp [e]
  · rw [if_neg e1] at h
    by_cases e2 : s = [124] ∨ s = [94]
    · rcases e2 with e | e <;> simp [e]
    · rw [if_neg e2] at h
      by_cases e3 : s = [38]
      · simp [e3]
      · rw [if_neg e3] at h
        by_cases e4 : s = [60, 60] ∨ s = [62, 62]
        · rcases e4 with e | e <;> simp [e]
        · rw [if_neg e4] at h
          by_cases e5 : s = [43] ∨ s = [45]
          · rcases e5 with e | e <;> simp [e]
          · rw [if_neg e5] at h
            by_cases e6 : s = [42] ∨ s = [47] ∨ s = [37]
            · rcases e6 with e | e | e <;> simp [e]
            · rw [if_neg e6] at h; exact absurd rfl h
/-- A token stands at its place, and a name is one. -/
structure TokS (l : List UInt8) (t : Tok) : Prop where
  nm : t.kind = 1 → nameL t.text = true
  at_ : (l.drop t.frm).take t.text.length = t.text
  le : t.frm + t.text.length ≤ l.length
theorem run_take {l : List UInt8} : runL (l.take (runL l)) = (l.take (runL l)).length := by
  induction l with
  | nil => rfl
  | cons c r ih =>
    simp only [runL]
    split
    · rename_i hw
      simp only [List.take_succ_cons, runL, hw, if_true, List.length_cons]
      rw [ih]
    · rfl
theorem readL_at {p : Nat} {l : List UInt8} {t : Tok} (hl : l ≠ []) (h : readL p l = .ok t) : (t.kind = 1 → nameL t.text = true) ∧ l.take t.text.length = t.text ∧ t.text.length ≤ l.length := by
  obtain ⟨c, r, rfl⟩ : ∃ c r, l = c :: r := by cases l with | nil => exact absurd rfl hl | cons c r => exact ⟨c, r, rfl⟩
  have tk : ∀ n, List.take (List.take n (c :: r)).length (c :: r) = List.take n (c :: r) := fun n => by
    rw [List.length_take]
    rcases Nat.le_total n (c :: r).length with h | h
    · rw [Nat.min_eq_left h]
    · rw [Nat.min_eq_right h, List.take_of_length_le h, List.take_of_length_le (Nat.le_refl _)]
  have tl : ∀ n, (List.take n (c :: r)).length ≤ (c :: r).length := fun n => by rw [List.length_take]; omega
  unfold readL at h
  simp only [List.getD_cons_zero] at h
  split at h
  · rename_i hk
    cases h
    refine ⟨fun hs => ?_, tk _, tl _⟩
    simp only at hs ⊢
    have hw : ¬ wordL (List.take (runL (c :: r)) (c :: r)) = true := by
      split at hs
      · simp at hs
      · assumption
    have hlet := kind2 hk
    unfold nameL
    have hr : runL (c :: r) = runL r + 1 := by simp [runL, isWd, hlet]
    have e : List.take (runL (c :: r)) (c :: r) = c :: List.take (runL r) r := by rw [hr]; rfl
    have hrun := run_take (l := c :: r)
    rw [hrun]
    rw [show (wordL (List.take (runL (c :: r)) (c :: r))) = false by simpa using hw, e]
    simp [hlet]
  · split at h
    · split at h
      · cases h
      · cases h
        exact ⟨fun hs => by simp at hs, tk _, tl _⟩
    · split at h
      · split at h
        · cases h
        · cases h
          exact ⟨fun hs => by simp at hs, tk _, tl _⟩
      · split at h
        · cases h
        · cases h
          exact ⟨fun hs => by simp at hs, tk _, tl _⟩
theorem scanL_at (B : List UInt8) : ∀ (f p : Nat) (l : List UInt8), B.drop p = l → p + l.length = B.length → ∀ t ∈ (scanL f p l).1, TokS B t
  | 0, p, l, _, _ => by simp [scanL]
  | f + 1, p, l, hB, hp => by
    simp only [scanL]
    split
    · simp
    · rename_i hs
      have hs2 := skipL_le false l
      have hne : l.drop (skipL false l) ≠ [] := fun e => by
        have := congrArg List.length e
        simp at this
        omega
      split
      · simp
      · rename_i t ht
        have h1 := readL_at hne ht
        have h0 := (readL_tok hne ht).2.2
        have ht2 := readL_to hne ht
        rw [List.length_drop] at ht2 h1
        have h3 := scanL_at B f t.to (l.drop (t.to - p)) (by rw [← hB, List.drop_drop]; congr 1; omega) (by rw [List.length_drop]; omega)
        intro u hu
        rcases List.mem_cons.1 hu with rfl | hu
        · refine ⟨h1.1, ?_, by omega⟩
          rw [h0, ← List.drop_drop, hB]
          exact h1.2.1
        · exact h3 u hu
theorem toks_at {s : ByteArray} {ts : List Tok} (h : (sc s 0).1 = ts) : ∀ i, i < (ts ++ [(⟨0, [], s.size, s.size, 0⟩ : Tok)]).length → TokS s.data.toList (tk (ts ++ [(⟨0, [], s.size, s.size, 0⟩ : Tok)]) i) := by
  intro i hi
  have g := scanL_at s.data.toList (s.size + 1) 0 (s.data.toList.drop 0) (by simp) (by simp)
  have e : (scanL (s.size + 1) 0 (s.data.toList.drop 0)).1 = ts := h
  rw [e] at g
  simp only [List.length_append, List.length_cons, List.length_nil] at hi
  unfold tk
  rw [List.getD_eq_getElem?_getD]
  by_cases hlt : i < ts.length
  · rw [List.getElem?_append_left hlt, List.getElem?_eq_getElem hlt]
    exact g _ (List.getElem_mem hlt)
  · have : i = ts.length := by omega
    subst this
    simp only [List.getElem?_concat_length, Option.getD_some]
    exact ⟨fun h => by simp at h, by simp, by simp⟩
end Go.Proofs.YtnebhkglpggnlaaGreatDoor
namespace Go.Proofs.YtnebhkglpggnlaaGreatDoor
open Go.RowKit
set_option linter.unusedVariables false
set_option linter.unusedSimpArgs false

def kinds (ns : List PN) (ks : List Nat) : List Int := ks.map (fun k => ((kdN ns k : Nat) : Int))
/-- A node that may stand behind others. -/
def okN (ns : List PN) (x : PN) : Prop := ∃ t ls, T5.wantL x.kind = some (t, ls) ∧ T5.textL t ⟨x.text.toArray⟩ = true ∧ T5.shapeL x.kind (kinds ns x.kids) = true
/-- Nodes that are laid, and those that are nobody's kids yet, in order. -/
inductive St : List PN → List Nat → Prop
  | nil : St [] []
  | lay {ns : List PN} {ρ ks : List Nat} {kind : Nat} {text : List UInt8} {pl : Nat} (h : St ns (ρ ++ ks)) (hok : okN ns ⟨kind, text, ks, pl⟩) : St (ns ++ [⟨kind, text, ks, pl⟩]) (ρ ++ [ns.length])
def Ext (ns ms : List PN) : Prop := ∃ e, ms = ns ++ e
theorem Ext.refl (ns : List PN) : Ext ns ns := ⟨[], by simp⟩
theorem Ext.trans {a b c : List PN} (h : Ext a b) (k : Ext b c) : Ext a c := by
  obtain ⟨e, rfl⟩ := h
  obtain ⟨e', rfl⟩ := k
  exact ⟨e ++ e', by simp⟩
theorem Ext.le {a b : List PN} (h : Ext a b) : a.length ≤ b.length := by obtain ⟨e, rfl⟩ := h; simp
theorem Ext.kd {a b : List PN} (h : Ext a b) {n : Nat} (hn : n < a.length) : kdN b n = kdN a n := by
  obtain ⟨e, rfl⟩ := h
  unfold kdN
  rw [List.getElem?_append_left hn]
/-- One number, of a node of a class. -/
def One (c : Nat → Bool) (ms : List PN) (v : List Nat) : Prop := ∃ n, v = [n] ∧ n < ms.length ∧ c (kdN ms n) = true
def Many (c : Nat → Bool) (ms : List PN) (v : List Nat) : Prop := ∀ n ∈ v, n < ms.length ∧ c (kdN ms n) = true
theorem Many.ext {c : Nat → Bool} {a b : List PN} {v : List Nat} (h : Many c a v) (x : Ext a b) : Many c b v := fun n hn => by
  obtain ⟨h1, h2⟩ := h n hn
  exact ⟨Nat.lt_of_lt_of_le h1 x.le, by rw [x.kd h1]; exact h2⟩
theorem One.many {c : Nat → Bool} {a : List PN} {v : List Nat} (h : One c a v) : Many c a v := fun n hn => by
  obtain ⟨m, rfl, h1, h2⟩ := h
  simp at hn
  subst hn
  exact ⟨h1, h2⟩
theorem Many.app {c : Nat → Bool} {a : List PN} {u v : List Nat} (h : Many c a u) (k : Many c a v) : Many c a (u ++ v) := fun n hn => by
  rcases List.mem_append.1 hn with hn | hn
  · exact h n hn
  · exact k n hn
theorem Many.nil {c : Nat → Bool} {a : List PN} : Many c a [] := fun n hn => by cases hn
theorem One.new {c : Nat → Bool} {ns : List PN} {x : PN} (h : c x.kind = true) : One c (ns ++ [x]) [ns.length] := ⟨ns.length, rfl, by simp, by unfold kdN; simpa using h⟩
theorem One.hd {c : Nat → Bool} {ms : List PN} {v : List Nat} (h : One c ms v) : v = [hd v] ∧ Many c ms [Go.Proofs.YtnebhkglpggnlaaGreatDoor.hd v] := by
  obtain ⟨n, rfl, h1, h2⟩ := h
  exact ⟨rfl, fun m hm => by simp [Go.Proofs.YtnebhkglpggnlaaGreatDoor.hd] at hm; subst hm; exact ⟨h1, h2⟩⟩

/-- From what is nobody's (A, last) reading comes to v. -/
def Pres (A : List Nat) (ns : List PN) (r : R) (Q : List PN → List Nat → Prop) : Prop := ∀ ρ v j ms, r = some (.ok (v, j, ms)) → St ns (ρ ++ A) → St ms (ρ ++ v) ∧ Q ms v ∧ Ext ns ms
section
variable {Q Q1 : List PN → List Nat → Prop} {A : List Nat} {ns : List PN} {ts : List Tok}
theorem Pres.err {e : Nat} : Pres A ns (some (.error e)) Q := fun _ _ _ _ h => by cases h
theorem Pres.none : Pres A ns none Q := fun _ _ _ _ h => by cases h
theorem Pres.bind {pn : List Nat} {r : R} {k : List Nat → Nat → List PN → R} (A0 : List Nat) (h : Pres pn ns r Q1) (hk : ∀ v j ms, Q1 ms v → Ext ns ms → Pres (A0 ++ v) ms (k v j ms) Q) : Pres (A0 ++ pn) ns (bindR r k) Q := by
  intro ρ v j ms e hs
  rcases bindR_some e with ⟨er, hr, he⟩ | ⟨v1, j1, n1, hr, hP⟩
  · cases he
  · obtain ⟨h1, h2, h3⟩ := h (ρ ++ A0) v1 j1 n1 hr (by simpa using hs)
    obtain ⟨g1, g2, g3⟩ := hk v1 j1 n1 h2 h3 ρ v j ms hP (by simpa using h1)
    exact ⟨g1, g2, h3.trans g3⟩
theorem Pres.want {s : List UInt8} {i : Nat} {x : R} (h : nx ts i = s → Pres A ns x Q) : Pres A ns (wantR ts s i x) Q := by
  unfold wantR
  split
  · rename_i e; exact h e
  · exact Pres.err
theorem Pres.lay {kind : Nat} {text : List UInt8} {pl i : Nat} (hok : okN ns ⟨kind, text, A, pl⟩) (hQ : Q (ns ++ [⟨kind, text, A, pl⟩]) [ns.length]) : Pres A ns (layR kind text pl A i ns) Q := by
  intro ρ v j ms e hs
  cases e
  exact ⟨St.lay hs hok, hQ, ⟨_, rfl⟩⟩
theorem Pres.ok {i : Nat} (hQ : Q ns A) : Pres A ns (some (.ok (A, i, ns))) Q := by
  intro ρ v j ms e hs
  cases e
  exact ⟨hs, hQ, Ext.refl _⟩
theorem Pres.imp {r : R} (h : Pres A ns r Q1) (hq : ∀ ms v, Q1 ms v → Q ms v) : Pres A ns r Q := fun ρ v j ms e hs => by
  obtain ⟨h1, h2, h3⟩ := h ρ v j ms e hs
  exact ⟨h1, hq _ _ h2, h3⟩
end

def c1 (k : Nat) : Bool := k == 1
def cD (k : Nat) : Bool := k == 2 || k == 3
def cB (k : Nat) : Bool := k == 4
def cO (k : Nat) : Bool := k == 4 || k == 14
def cN (k : Nat) : Bool := k == 17
def cS (k : Nat) : Bool := decide (5 ≤ k ∧ k ≤ 13)
def cE (k : Nat) : Bool := decide (15 ≤ k ∧ k ≤ 30)
def un (t : Tok) : Prop := T5.unaries.contains t.text = true
/-- What is nobody's ahead of a step. -/
def pend : NT → List Nat
  | .progL acc => acc | .blockL _ acc => acc | .setS p => [p] | .chainL _ n => [n] | .joined n _ => [n] | .backL n => [n] | .field n => [n] | .elem n => [n] | .listedL _ _ acc => acc | .laySigns _ n => [n]
  | _ => []
def KP (ns : List PN) : NT → Prop
  | .progL acc => Many cD ns acc | .blockL _ acc => Many cS ns acc | .setS p => Many cE ns [p] ∧ placeK (kdN ns p) = true | .chain l => 0 < l | .chainL l n => Many cE ns [n] ∧ 0 < l | .joined n l => Many cE ns [n] ∧ 0 < l | .backL n => Many cE ns [n] | .field n => Many cE ns [n] | .elem n => Many cE ns [n]
  | .listedL th _ acc => Many (if th then cE else cN) ns acc | .laySigns acc n => Many cE ns [n] ∧ ∀ t ∈ acc, un t | .signedL acc => ∀ t ∈ acc, un t
  | .worded k => k = 9 ∨ k = 10 ∨ k = 11 | .alone k => k = 16 ∨ k = 30 | .empty k => k = 26 ∨ k = 28 | .about k => k = 24 ∨ k = 25 ∨ k = 27 ∨ k = 29
  | _ => True
/-- What a step comes to. -/
def KQ : NT → List PN → List Nat → Prop
  | .prog | .progL _ => One c1
  | .decl | .recd | .func => One cD
  | .name => One cN
  | .block _ | .blockL _ _ => One cB
  | .stmt | .letS | .choice | .whileS | .worded _ | .merge | .setOrDo | .setS _ => One cS
  | .other => One cO
  | .listed th _ | .listedL th _ _ => Many (if th then cE else cN)
  | _ => One cE
/-- How a token must be, and what is asked of a step's own token. -/
def TP (ts : List Tok) (i : Nat) : NT → Prop
  | .joined _ _ => lineL (nx ts i) ≠ 0
  | .nameOrCall => nx ts i = nmB
  | .number => True
  | _ => True
theorem ok_of {ns : List PN} {kind : Nat} {text : List UInt8} {ks : List Nat} {pl t : Nat} {ls : List UInt8} (hw : T5.wantL kind = some (t, ls)) (ht : T5.textL t ⟨text.toArray⟩ = true) (hs : T5.shapeL kind (kinds ns ks) = true) : okN ns ⟨kind, text, ks, pl⟩ := ⟨t, ls, hw, ht, hs⟩
theorem many_all {c : Nat → Bool} {d : Int → Bool} {ns : List PN} {v : List Nat} (h : Many c ns v) (hd : ∀ k, c k = true → d (k : Nat) = true) : (kinds ns v).all d = true := by
  rw [List.all_eq_true]
  intro x hx
  obtain ⟨k, hk, rfl⟩ := List.mem_map.1 hx
  exact hd _ (h k hk).2
theorem cE_ex (k : Nat) (h : cE k = true) : T5.isEx (k : Nat) = true := by simp [cE] at h; simp [T5.isEx]; omega
theorem cS_st (k : Nat) (h : cS k = true) : T5.isSt (k : Nat) = true := by simp [cS] at h; simp [T5.isSt]; omega
theorem txt0 : T5.textL 0 ⟨([] : List UInt8).toArray⟩ = true := by decide
theorem txt1 {l : List UInt8} (h : nameL l = true) : T5.textL 1 ⟨l.toArray⟩ = true := by unfold T5.textL name; simpa using h
theorem txt2 {n : Nat} (h : n ≤ 9223372036854775807) : T5.textL 2 ⟨(Lib.decDigits n).toArray⟩ = true := by unfold T5.textL; simpa using decL_dec h
theorem txt3 {l : List UInt8} (h : T5.unaries.contains l = true) : T5.textL 3 ⟨l.toArray⟩ = true := by unfold T5.textL T5.unL; simpa using h
theorem txt4 {l : List UInt8} (h : T5.binaries.contains l = true) : T5.textL 4 ⟨l.toArray⟩ = true := by unfold T5.textL T5.binL; simpa using h
end Go.Proofs.YtnebhkglpggnlaaGreatDoor
namespace Go.Proofs.YtnebhkglpggnlaaGreatDoor
open Go.RowKit
set_option linter.unusedVariables false
set_option linter.unusedSimpArgs false

theorem decl_pre {s : List UInt8} {nt : NT} (h : declNT s = some nt) (ns : List PN) : KP ns nt ∧ pend nt = [] ∧ KQ nt = One cD ∧ ∀ ts i, TP ts i nt := by
  unfold declNT at h
  by_cases e0 : s = [114, 101, 99]
  · rw [if_pos e0] at h; cases h; exact ⟨trivial, rfl, rfl, fun _ _ => trivial⟩
  rw [if_neg e0] at h
  by_cases e1 : s = [102, 110]
  · rw [if_pos e1] at h; cases h; exact ⟨trivial, rfl, rfl, fun _ _ => trivial⟩
  rw [if_neg e1] at h
  cases h
theorem stmt_pre {s : List UInt8} {nt : NT} (h : stmtNT s = some nt) (ns : List PN) : KP ns nt ∧ pend nt = [] ∧ KQ nt = One cS ∧ ∀ ts i, TP ts i nt := by
  unfold stmtNT at h
  by_cases e0 : s = [108, 101, 116]
  · rw [if_pos e0] at h; cases h; exact ⟨trivial, rfl, rfl, fun _ _ => trivial⟩
  rw [if_neg e0] at h
  by_cases e1 : s = [105, 102]
  · rw [if_pos e1] at h; cases h; exact ⟨trivial, rfl, rfl, fun _ _ => trivial⟩
  rw [if_neg e1] at h
  by_cases e2 : s = [119, 104, 105, 108, 101]
  · rw [if_pos e2] at h; cases h; exact ⟨trivial, rfl, rfl, fun _ _ => trivial⟩
  rw [if_neg e2] at h
  by_cases e3 : s = [114, 101, 116, 117, 114, 110]
  · rw [if_pos e3] at h; cases h; exact ⟨by simp [KP], rfl, rfl, fun _ _ => trivial⟩
  rw [if_neg e3] at h
  by_cases e4 : s = [111, 117, 116]
  · rw [if_pos e4] at h; cases h; exact ⟨by simp [KP], rfl, rfl, fun _ _ => trivial⟩
  rw [if_neg e4] at h
  by_cases e5 : s = [115, 116, 111, 112]
  · rw [if_pos e5] at h; cases h; exact ⟨by simp [KP], rfl, rfl, fun _ _ => trivial⟩
  rw [if_neg e5] at h
  by_cases e6 : s = [109, 101, 114, 103, 101]
  · rw [if_pos e6] at h; cases h; exact ⟨trivial, rfl, rfl, fun _ _ => trivial⟩
  rw [if_neg e6] at h
  cases h
theorem first_pre {s : List UInt8} {nt : NT} (h : firstNT s = some nt) (ns : List PN) : KP ns nt ∧ pend nt = [] ∧ KQ nt = One cE ∧ ∀ ts i, nx ts i = s → TP ts i nt := by
  unfold firstNT at h
  by_cases e0 : s = [110, 117, 109, 98, 101, 114]
  · rw [if_pos e0] at h; cases h; exact ⟨trivial, rfl, rfl, fun _ _ hh => trivial⟩
  rw [if_neg e0] at h
  by_cases e1 : s = [110, 97, 109, 101]
  · rw [if_pos e1] at h; cases h; exact ⟨trivial, rfl, rfl, fun _ _ hh => hh.trans e1⟩
  rw [if_neg e1] at h
  by_cases e2 : s = [110, 117, 108, 108]
  · rw [if_pos e2] at h; cases h; exact ⟨by simp [KP], rfl, rfl, fun _ _ hh => trivial⟩
  rw [if_neg e2] at h
  by_cases e3 : s = [114, 111, 111, 116]
  · rw [if_pos e3] at h; cases h; exact ⟨by simp [KP], rfl, rfl, fun _ _ hh => trivial⟩
  rw [if_neg e3] at h
  by_cases e4 : s = [110, 101, 119]
  · rw [if_pos e4] at h; cases h; exact ⟨trivial, rfl, rfl, fun _ _ hh => trivial⟩
  rw [if_neg e4] at h
  by_cases e5 : s = [97, 114, 114]
  · rw [if_pos e5] at h; cases h; exact ⟨by simp [KP], rfl, rfl, fun _ _ hh => trivial⟩
  rw [if_neg e5] at h
  by_cases e6 : s = [108, 101, 110]
  · rw [if_pos e6] at h; cases h; exact ⟨by simp [KP], rfl, rfl, fun _ _ hh => trivial⟩
  rw [if_neg e6] at h
  by_cases e7 : s = [105, 110]
  · rw [if_pos e7] at h; cases h; exact ⟨by simp [KP], rfl, rfl, fun _ _ hh => trivial⟩
  rw [if_neg e7] at h
  by_cases e8 : s = [105, 109, 103]
  · rw [if_pos e8] at h; cases h; exact ⟨by simp [KP], rfl, rfl, fun _ _ hh => trivial⟩
  rw [if_neg e8] at h
  by_cases e9 : s = [115, 105, 122, 101]
  · rw [if_pos e9] at h; cases h; exact ⟨by simp [KP], rfl, rfl, fun _ _ hh => trivial⟩
  rw [if_neg e9] at h
  by_cases e10 : s = [112, 114, 111, 109, 111, 116, 101]
  · rw [if_pos e10] at h; cases h; exact ⟨by simp [KP], rfl, rfl, fun _ _ hh => trivial⟩
  rw [if_neg e10] at h
  by_cases e11 : s = [40]
  · rw [if_pos e11] at h; cases h; exact ⟨trivial, rfl, rfl, fun _ _ hh => trivial⟩
  rw [if_neg e11] at h
  cases h

theorem kinds_one (ns : List PN) (n : Nat) : kinds ns [n] = [((kdN ns n : Nat) : Int)] := rfl
theorem sh1 {ns : List PN} {n kind : Nat} (hk : kind = 5 ∨ kind = 9 ∨ kind = 10 ∨ kind = 11 ∨ kind = 18 ∨ kind = 20 ∨ kind = 24 ∨ kind = 25 ∨ kind = 27 ∨ kind = 29) (h : Many cE ns [n]) : T5.shapeL kind (kinds ns [n]) = true := by
  have ha := many_all h cE_ex
  rcases hk with rfl | rfl | rfl | rfl | rfl | rfl | rfl | rfl | rfl | rfl <;> simp [T5.shapeL] <;> simpa [kinds] using ha
theorem sh2 {ns : List PN} {n m kind : Nat} (hk : kind = 19 ∨ kind = 21) (h : Many cE ns [n, m]) : T5.shapeL kind (kinds ns [n, m]) = true := by
  have ha := many_all h cE_ex
  rcases hk with rfl | rfl <;> simp [T5.shapeL] <;> simpa [kinds] using ha
theorem sh0 {ns : List PN} {kind : Nat} (hk : kind = 14 ∨ kind = 15 ∨ kind = 16 ∨ kind = 17 ∨ kind = 23 ∨ kind = 26 ∨ kind = 28 ∨ kind = 30) : T5.shapeL kind (kinds ns []) = true := by
  rcases hk with rfl | rfl | rfl | rfl | rfl | rfl | rfl | rfl <;> rfl
theorem many2 {c : Nat → Bool} {a : List PN} {n m : Nat} (h : Many c a [n]) (k : Many c a [m]) : Many c a [n, m] := h.app k

theorem Pres.signs {ts : List Tok} : ∀ (acc : List Tok) (n : Nat) (ns : List PN) (i : Nat), Many cE ns [n] → (∀ t ∈ acc, un t) → Pres [n] ns (some (.ok ([(laySg acc n ns).1], i, (laySg acc n ns).2))) (One cE)
  | [], n, ns, i, h, _ => Pres.ok ⟨n, rfl, (h n (by simp)).1, (h n (by simp)).2⟩
  | t :: r, n, ns, i, h, hu => by
    intro ρ v j ms e hs
    have h1 : St (ns ++ [⟨18, t.text, [n], t.frm⟩]) (ρ ++ [ns.length]) := St.lay hs (ok_of rfl (txt3 (hu t (by simp))) (sh1 (by simp) h))
    have h2 : Many cE (ns ++ [⟨18, t.text, [n], t.frm⟩]) [ns.length] := (One.new (c := cE) (ns := ns) (x := ⟨18, t.text, [n], t.frm⟩) rfl).many
    obtain ⟨g1, g2, g3⟩ := Pres.signs (ts := ts) r ns.length (ns ++ [⟨18, t.text, [n], t.frm⟩]) i h2 (fun u hh => hu u (by simp [hh])) ρ v j ms (by simpa only [laySg] using e) h1
    exact ⟨g1, g2, Ext.trans ⟨_, rfl⟩ g3⟩
set_option maxHeartbeats 2000000 in
theorem st_P {ts : List Tok} (hNm : ∀ i, nx ts i = nmB → nameL (tk ts i).text = true) (hBn : ∀ i, lineL (nx ts i) ≠ 0 → T5.binaries.contains (tk ts i).text = true) (hUn : ∀ i, isSg (nx ts i) = true → un (tk ts i)) (hNu : ∀ i, (tk ts i).n ≤ 9223372036854775807) :
    ∀ (f : Nat) (nt : NT) (i : Nat) (ns : List PN), KP ns nt → TP ts i nt → Pres (pend nt) ns (P ts f nt i ns) (KQ nt) := by
  intro f
  induction f with
  | zero => intro nt i ns _ _; exact Pres.none
  | succ f ih =>
    intro nt i ns hp ht
    cases nt with
    | prog => simp only [P]; exact ih (.progL []) i ns Many.nil trivial
    | progL acc =>
      simp only [P]
      have hp : Many cD ns acc := hp
      split
      · refine Pres.lay (ok_of rfl txt0 ?_) (One.new rfl)
        have ha : (kinds ns acc).all (fun k => k == 2 || k == 3) = true := many_all hp (fun k hk => by simp [cD] at hk; rcases hk with rfl | rfl <;> rfl)
        show T5.shapeL 1 (kinds ns acc) = true
        unfold T5.shapeL
        rw [if_pos rfl]
        exact ha
      · have := Pres.bind (Q := One c1) (ns := ns) (pn := []) acc (ih .decl i ns trivial trivial) (k := fun v i ns => P ts f (.progL (acc ++ [hd v])) i ns) (fun v j ms q x => by
          obtain ⟨e, q'⟩ := One.hd q
          have h2 := ih (.progL (acc ++ [hd v])) j ms ((hp.ext x).app q') trivial
          rw [show acc ++ v = acc ++ [hd v] by rw [← e]]
          exact h2)
        rw [List.append_nil] at this
        exact this
    | decl =>
      simp only [P]
      split
      · rename_i nt hd
        obtain ⟨h1, h2, h3, h4⟩ := decl_pre hd ns
        have := ih nt i ns h1 (h4 _ _)
        rw [h2, h3] at this
        exact this
      · exact Pres.err
    | recd =>
      simp only [P]
      refine Pres.want fun e1 => Pres.want fun _ => ?_
      refine Pres.bind (Q := One cD) (pn := []) [] (ih (.listed false [125]) _ ns trivial trivial) fun v j ms q x => ?_
      refine Pres.lay (ok_of rfl (txt1 (hNm _ e1)) ?_) (One.new rfl)
      have ha : (kinds ms v).all (· == 17) = true := many_all (c := cN) q (fun k hk => by simp [cN] at hk; subst hk; rfl)
      simpa [T5.shapeL] using ha
    | func =>
      simp only [P]
      refine Pres.want fun e1 => Pres.want fun _ => ?_
      refine Pres.bind (Q := One cD) (pn := []) [] (ih (.listed false [41]) _ ns trivial trivial) fun v j ms q x => ?_
      have := Pres.bind (Q := One cD) (ns := ms) (pn := []) v (ih (.block 0) j ms trivial trivial) (k := fun b j ns => layR 3 (tk ts (i + 1)).text (tk ts (i + 1)).frm (v ++ [hd b]) j ns) (fun b j' ms' q' x' => by
        obtain ⟨e, _⟩ := One.hd q'
        obtain ⟨n, rfl, hn, hc⟩ := q'
        have hb : kdN ms' n = 4 := by simpa [cB] using hc
        refine Pres.lay (ok_of rfl (txt1 (hNm _ e1)) ?_) (One.new rfl)
        have ha : (kinds ms' v).all (· == 17) = true := many_all (c := cN) (Many.ext (c := cN) q x') (fun k hk => by simp [cN] at hk; subst hk; rfl)
        have e2 : kinds ms' (v ++ [n]) = kinds ms' v ++ [4] := by simp [kinds, hb]
        show T5.shapeL 3 (kinds ms' (v ++ [n])) = true
        rw [e2]
        simp [T5.shapeL, List.getLastD_concat]
        simpa using ha)
      rw [List.append_nil] at this
      exact this
    | name =>
      simp only [P]
      exact Pres.want fun e1 => Pres.lay (ok_of rfl (txt1 (hNm _ e1)) (sh0 (by simp))) (One.new rfl)
    | block pl =>
      simp only [P]
      exact Pres.want fun _ => ih (.blockL _ []) _ ns Many.nil trivial
    | blockL pl acc =>
      simp only [P]
      have hp : Many cS ns acc := hp
      split
      · refine Pres.lay (ok_of rfl txt0 ?_) (One.new rfl)
        have ha := many_all hp cS_st
        show T5.shapeL 4 (kinds ns acc) = true
        unfold T5.shapeL
        rw [if_neg (by decide), if_neg (by decide), if_neg (by decide), if_pos rfl]
        exact ha
      · have := Pres.bind (Q := One cB) (ns := ns) (pn := []) acc (ih .stmt i ns trivial trivial) (k := fun v i ns => P ts f (.blockL pl (acc ++ [hd v])) i ns) (fun v j ms q x => by
          obtain ⟨e, q'⟩ := One.hd q
          have h2 := ih (.blockL pl (acc ++ [hd v])) j ms ((hp.ext x).app q') trivial
          rw [show acc ++ v = acc ++ [hd v] by rw [← e]]
          exact h2)
        rw [List.append_nil] at this
        exact this
    | stmt =>
      simp only [P]
      split
      · rename_i nt hd
        obtain ⟨h1, h2, h3, h4⟩ := stmt_pre hd ns
        have := ih nt i ns h1 (h4 _ _)
        rw [h2, h3] at this
        exact this
      · exact ih .setOrDo i ns trivial trivial
    | letS =>
      simp only [P]
      refine Pres.want fun e1 => Pres.want fun _ => ?_
      refine Pres.bind (Q := One cS) (pn := []) [] (ih .expr _ ns trivial trivial) fun v j ms q x => ?_
      obtain ⟨n, rfl, hn, hc⟩ := q
      exact Pres.want fun _ => Pres.lay (ok_of rfl (txt1 (hNm _ e1)) (sh1 (by simp) (One.many ⟨n, rfl, hn, hc⟩))) (One.new rfl)
    | choice =>
      simp only [P]
      refine Pres.bind (Q := One cS) (pn := []) [] (ih .expr _ ns trivial trivial) fun v j ms q x => ?_
      obtain ⟨n, rfl, hn, hc⟩ := q
      refine Pres.bind (Q := One cS) (pn := []) [n] (ih (.block 0) j ms trivial trivial) fun b j2 ms2 q2 x2 => ?_
      obtain ⟨m, rfl, hm, hc2⟩ := q2
      refine Pres.bind (Q := One cS) (pn := []) [n, m] (ih .other j2 ms2 trivial trivial) fun o j3 ms3 q3 x3 => ?_
      obtain ⟨l, rfl, hl, hc3⟩ := q3
      refine Pres.lay (ok_of rfl txt0 ?_) (One.new rfl)
      have e1 : cE (kdN ms3 n) = true := by rw [(x2.trans x3).kd hn]; exact hc
      have e2 : kdN ms3 m = 4 := by rw [x3.kd hm]; simpa [cB] using hc2
      have e3 : kdN ms3 l = 4 ∨ kdN ms3 l = 14 := by simpa [cO] using hc3
      have e4 := cE_ex _ e1
      simp [T5.shapeL, kinds, e2, e4]
      rcases e3 with e | e <;> simp [e]
    | other =>
      simp only [P]
      split
      · exact (ih (.block 0) _ ns trivial trivial).imp fun ms v ⟨n, e, h1, h2⟩ => ⟨n, e, h1, by simp [cB] at h2; simp [cO, h2]⟩
      · exact Pres.lay (ok_of rfl txt0 (sh0 (by simp))) (One.new rfl)
    | whileS =>
      simp only [P]
      refine Pres.bind (Q := One cS) (pn := []) [] (ih .expr _ ns trivial trivial) fun v j ms q x => ?_
      obtain ⟨n, rfl, hn, hc⟩ := q
      refine Pres.bind (Q := One cS) (pn := []) [n] (ih (.block 0) j ms trivial trivial) fun b j2 ms2 q2 x2 => ?_
      obtain ⟨m, rfl, hm, hc2⟩ := q2
      refine Pres.lay (ok_of rfl txt0 ?_) (One.new rfl)
      have e1 : cE (kdN ms2 n) = true := by rw [x2.kd hn]; exact hc
      have e2 : kdN ms2 m = 4 := by simpa [cB] using hc2
      have e4 := cE_ex _ e1
      simp [T5.shapeL, kinds, e2, e4]
    | worded k =>
      simp only [P]
      have hp : k = 9 ∨ k = 10 ∨ k = 11 := hp
      refine Pres.bind (Q := One cS) (pn := []) [] (ih .expr _ ns trivial trivial) fun v j ms q x => ?_
      obtain ⟨n, rfl, hn, hc⟩ := q
      refine Pres.want fun _ => ?_
      rcases hp with rfl | rfl | rfl
      · exact Pres.lay (ok_of rfl txt0 (sh1 (by simp) (One.many ⟨n, rfl, hn, hc⟩))) (One.new rfl)
      · exact Pres.lay (ok_of rfl txt0 (sh1 (by simp) (One.many ⟨n, rfl, hn, hc⟩))) (One.new rfl)
      · exact Pres.lay (ok_of rfl txt0 (sh1 (by simp) (One.many ⟨n, rfl, hn, hc⟩))) (One.new rfl)
    | merge =>
      simp only [P]
      refine Pres.want fun _ => ?_
      refine Pres.bind (Q := One cS) (pn := []) [] (ih (.listed false [41]) _ ns trivial trivial) fun v j ms q x => ?_
      refine Pres.want fun _ => Pres.lay (ok_of rfl txt0 ?_) (One.new rfl)
      have ha : (kinds ms v).all (· == 17) = true := many_all (c := cN) q (fun k hk => by simp [cN] at hk; subst hk; rfl)
      simpa [T5.shapeL] using ha
    | setOrDo =>
      simp only [P]
      refine Pres.bind (Q := One cS) (pn := []) [] (ih .back _ ns trivial trivial) fun v j ms q x => ?_
      obtain ⟨n, rfl, hn, hc⟩ := q
      simp only [hd, List.getD_cons_zero, List.nil_append]
      split
      · rename_i hh
        exact ih (.setS n) j ms ⟨One.many ⟨n, rfl, hn, hc⟩, hh.1⟩ trivial
      · split
        · exact Pres.err
        · rename_i h22
          refine Pres.want fun _ => Pres.lay (ok_of rfl txt0 ?_) (One.new rfl)
          have : kdN ms n = 22 := by simpa using h22
          simp [T5.shapeL, kinds, this]
    | setS p =>
      simp only [P]
      obtain ⟨hp1, hp2⟩ : Many cE ns [p] ∧ placeK (kdN ns p) = true := hp
      have := Pres.bind (Q := One cS) (ns := ns) (pn := []) [p] (ih .expr (i + 1) ns trivial trivial) (k := fun v j ns => wantR ts [59] j <| layR 6 [] (tk ts i).frm [p, hd v] (j + 1) ns) (fun v j ms q x => by
        obtain ⟨n, rfl, hn, hc⟩ := q
        refine Pres.want fun _ => Pres.lay (ok_of rfl txt0 ?_) (One.new rfl)
        have ha := many_all (many2 (hp1.ext x) (One.many ⟨n, rfl, hn, hc⟩)) cE_ex
        have e1 : kdN ms p = kdN ns p := x.kd (hp1 p (by simp)).1
        have e2 : kdN ns p = 17 ∨ kdN ns p = 20 ∨ kdN ns p = 21 ∨ kdN ns p = 30 := by simp [placeK] at hp2; omega
        simp [T5.shapeL, kinds, hd] at ha ⊢
        refine ⟨ha, ?_⟩
        rw [e1]
        rcases e2 with e | e | e | e <;> simp [e])
      exact this
    | expr =>
      simp only [P]
      refine Pres.bind (Q := One cE) (pn := []) [] (ih (.chain 2) _ ns (show 0 < 2 by decide) trivial) fun v j ms q x => ?_
      obtain ⟨n, rfl, hn, hc⟩ := q
      simp only [hd, List.getD_cons_zero, List.nil_append]
      split
      · rename_i hl
        exact ih (.joined n 2) j ms ⟨One.many ⟨n, rfl, hn, hc⟩, by decide⟩ (show lineL (nx ts j) ≠ 0 by rw [hl]; decide)
      · exact Pres.ok ⟨n, rfl, hn, hc⟩
    | chain line =>
      simp only [P]
      have hp : 0 < line := hp
      split
      · exact ih .signed i ns trivial trivial
      · refine Pres.bind (Q := One cE) (pn := []) [] (ih (.chain (line + 1)) _ ns (Nat.succ_pos _) trivial) fun v j ms q x => ?_
        obtain ⟨n, rfl, hn, hc⟩ := q
        exact ih (.chainL line n) j ms ⟨One.many ⟨n, rfl, hn, hc⟩, hp⟩ trivial
    | chainL line n =>
      simp only [P]
      obtain ⟨hp, h0⟩ : Many cE ns [n] ∧ 0 < line := hp
      split
      · rename_i hl
        refine Pres.bind (Q := One cE) (pn := [n]) [] (ih (.joined n (line + 1)) i ns ⟨hp, Nat.succ_pos _⟩ (show lineL (nx ts i) ≠ 0 by rw [hl]; omega)) fun v j ms q x => ?_
        obtain ⟨m, rfl, hm, hc⟩ := q
        exact ih (.chainL line m) j ms ⟨One.many ⟨m, rfl, hm, hc⟩, h0⟩ trivial
      · exact Pres.ok ⟨n, rfl, (hp n (by simp)).1, (hp n (by simp)).2⟩
    | joined left line =>
      simp only [P]
      obtain ⟨hp, h0⟩ : Many cE ns [left] ∧ 0 < line := hp
      have ht : lineL (nx ts i) ≠ 0 := ht
      have := Pres.bind (Q := One cE) (ns := ns) (pn := []) [left] (ih (.chain line) (i + 1) ns h0 trivial) (k := fun v j ns => layR 19 (tk ts i).text (tk ts i).frm [left, hd v] j ns) (fun v j ms q x => by
        obtain ⟨n, rfl, hn, hc⟩ := q
        exact Pres.lay (ok_of rfl (txt4 (hBn _ ht)) (sh2 (by simp) (many2 (hp.ext x) (One.many ⟨n, rfl, hn, hc⟩)))) (One.new rfl))
      exact this
    | signed => simp only [P]; exact ih (.signedL []) i ns (fun t h => by cases h) trivial
    | signedL acc =>
      simp only [P]
      have hp : ∀ t ∈ acc, un t := hp
      split
      · rename_i hs
        refine ih (.signedL (acc ++ [tk ts i])) (i + 1) ns (fun t h => ?_) trivial
        rcases List.mem_append.1 h with h | h
        · exact hp t h
        · simp at h; subst h; exact hUn i hs
      · refine Pres.bind (Q := One cE) (pn := []) [] (ih .back _ ns trivial trivial) fun v j ms q x => ?_
        obtain ⟨n, rfl, hn, hc⟩ := q
        exact ih (.laySigns acc.reverse n) j ms ⟨One.many ⟨n, rfl, hn, hc⟩, fun t h => hp t (by simpa using h)⟩ trivial
    | laySigns acc n =>
      simp only [P]
      obtain ⟨h1, h2⟩ : Many cE ns [n] ∧ ∀ t ∈ acc, un t := hp
      exact Pres.signs (ts := ts) acc n ns i h1 h2
    | back =>
      simp only [P]
      refine Pres.bind (Q := One cE) (pn := []) [] (ih .first _ ns trivial trivial) fun v j ms q x => ?_
      obtain ⟨n, rfl, hn, hc⟩ := q
      exact ih (.backL n) j ms (One.many ⟨n, rfl, hn, hc⟩) trivial
    | backL n =>
      simp only [P]
      have hp : Many cE ns [n] := hp
      split
      · refine Pres.bind (Q := One cE) (pn := [n]) [] (ih (.field n) i ns hp trivial) fun v j ms q x => ?_
        obtain ⟨m, rfl, hm, hc⟩ := q
        exact ih (.backL m) j ms (One.many ⟨m, rfl, hm, hc⟩) trivial
      · split
        · refine Pres.bind (Q := One cE) (pn := [n]) [] (ih (.elem n) i ns hp trivial) fun v j ms q x => ?_
          obtain ⟨m, rfl, hm, hc⟩ := q
          exact ih (.backL m) j ms (One.many ⟨m, rfl, hm, hc⟩) trivial
        · exact Pres.ok ⟨n, rfl, (hp n (by simp)).1, (hp n (by simp)).2⟩
    | field n =>
      simp only [P]
      have hp : Many cE ns [n] := hp
      exact Pres.want fun e1 => Pres.lay (ok_of rfl (txt1 (hNm _ e1)) (sh1 (by simp) hp)) (One.new rfl)
    | elem n =>
      simp only [P]
      have hp : Many cE ns [n] := hp
      have := Pres.bind (Q := One cE) (ns := ns) (pn := []) [n] (ih .expr (i + 1) ns trivial trivial) (k := fun v j ns => wantR ts [93] j <| layR 21 [] (tk ts i).frm [n, hd v] (j + 1) ns) (fun v j ms q x => by
        obtain ⟨m, rfl, hm, hc⟩ := q
        exact Pres.want fun _ => Pres.lay (ok_of rfl txt0 (sh2 (by simp) (many2 (hp.ext x) (One.many ⟨m, rfl, hm, hc⟩)))) (One.new rfl))
      exact this
    | first =>
      simp only [P]
      split
      · rename_i nt hd
        obtain ⟨h1, h2, h3, h4⟩ := first_pre hd ns
        have := ih nt i ns h1 (h4 _ _ rfl)
        rw [h2, h3] at this
        exact this
      · exact Pres.err
    | number => simp only [P]; exact Pres.lay (ok_of rfl (txt2 (hNu i)) (sh0 (by simp))) (One.new rfl)
    | nameOrCall =>
      simp only [P]
      have ht : nx ts i = nmB := ht
      split
      · refine Pres.bind (Q := One cE) (pn := []) [] (ih (.listed true [41]) _ ns trivial trivial) fun v j ms q x => ?_
        refine Pres.lay (ok_of rfl (txt1 (hNm _ ht)) ?_) (One.new rfl)
        have ha := many_all (c := cE) q cE_ex
        simpa [T5.shapeL] using ha
      · exact Pres.lay (ok_of rfl (txt1 (hNm _ ht)) (sh0 (by simp))) (One.new rfl)
    | made =>
      simp only [P]
      exact Pres.want fun e1 => Pres.lay (ok_of rfl (txt1 (hNm _ e1)) (sh0 (by simp))) (One.new rfl)
    | alone k =>
      simp only [P]
      have hp : k = 16 ∨ k = 30 := hp
      rcases hp with rfl | rfl
      · exact Pres.lay (ok_of rfl txt0 (sh0 (by simp))) (One.new rfl)
      · exact Pres.lay (ok_of rfl txt0 (sh0 (by simp))) (One.new rfl)
    | empty k =>
      simp only [P]
      have hp : k = 26 ∨ k = 28 := hp
      refine Pres.want fun _ => Pres.want fun _ => ?_
      rcases hp with rfl | rfl
      · exact Pres.lay (ok_of rfl txt0 (sh0 (by simp))) (One.new rfl)
      · exact Pres.lay (ok_of rfl txt0 (sh0 (by simp))) (One.new rfl)
    | about k =>
      simp only [P]
      have hp : k = 24 ∨ k = 25 ∨ k = 27 ∨ k = 29 := hp
      refine Pres.bind (Q := One cE) (pn := []) [] (ih .brack _ ns trivial trivial) fun v j ms q x => ?_
      obtain ⟨n, rfl, hn, hc⟩ := q
      rcases hp with rfl | rfl | rfl | rfl
      · exact Pres.lay (ok_of rfl txt0 (sh1 (by simp) (One.many ⟨n, rfl, hn, hc⟩))) (One.new rfl)
      · exact Pres.lay (ok_of rfl txt0 (sh1 (by simp) (One.many ⟨n, rfl, hn, hc⟩))) (One.new rfl)
      · exact Pres.lay (ok_of rfl txt0 (sh1 (by simp) (One.many ⟨n, rfl, hn, hc⟩))) (One.new rfl)
      · exact Pres.lay (ok_of rfl txt0 (sh1 (by simp) (One.many ⟨n, rfl, hn, hc⟩))) (One.new rfl)
    | brack =>
      simp only [P]
      refine Pres.want fun _ => ?_
      refine Pres.bind (Q := One cE) (pn := []) [] (ih .expr _ ns trivial trivial) fun v j ms q x => ?_
      exact Pres.want fun _ => Pres.ok q
    | listed th c =>
      simp only [P]
      split
      · exact Pres.ok Many.nil
      · cases th with
        | false =>
          refine Pres.bind (Q := Many cN) (pn := []) [] (ih .name _ ns trivial trivial) fun v j ms q x => ?_
          obtain ⟨n, rfl, hn, hc⟩ := q
          exact ih (.listedL false c [n]) j ms (One.many ⟨n, rfl, hn, hc⟩) trivial
        | true =>
          refine Pres.bind (Q := Many cE) (pn := []) [] (ih .expr _ ns trivial trivial) fun v j ms q x => ?_
          obtain ⟨n, rfl, hn, hc⟩ := q
          exact ih (.listedL true c [n]) j ms (One.many ⟨n, rfl, hn, hc⟩) trivial
    | listedL th c acc =>
      simp only [P]
      split
      · cases th with
        | false =>
          have hp : Many cN ns acc := hp
          have := Pres.bind (Q := Many cN) (ns := ns) (pn := []) acc (ih .name (i + 1) ns trivial trivial) (k := fun v j ns => P ts f (.listedL false c (acc ++ [hd v])) j ns) (fun v j ms q x => by
            obtain ⟨n, rfl, hn, hc⟩ := q
            exact ih (.listedL false c (acc ++ [n])) j ms ((hp.ext x).app (One.many ⟨n, rfl, hn, hc⟩)) trivial)
          rw [List.append_nil] at this
          exact this
        | true =>
          have hp : Many cE ns acc := hp
          have := Pres.bind (Q := Many cE) (ns := ns) (pn := []) acc (ih .expr (i + 1) ns trivial trivial) (k := fun v j ns => P ts f (.listedL true c (acc ++ [hd v])) j ns) (fun v j ms q x => by
            obtain ⟨n, rfl, hn, hc⟩ := q
            exact ih (.listedL true c (acc ++ [n])) j ms ((hp.ext x).app (One.many ⟨n, rfl, hn, hc⟩)) trivial)
          rw [List.append_nil] at this
          exact this
      · exact Pres.want fun _ => Pres.ok hp
end Go.Proofs.YtnebhkglpggnlaaGreatDoor
namespace Go.Proofs.YtnebhkglpggnlaaGreatDoor
open Go.RowKit
set_option linter.unusedVariables false
set_option linter.unusedSimpArgs false

theorem st_roots {ns : List PN} {roots : List Nat} (h : St ns roots) : (∀ r ∈ roots, r < ns.length) ∧ roots.Pairwise (· < ·) := by
  induction h with
  | nil => exact ⟨by simp, List.Pairwise.nil⟩
  | @lay ns ρ ks kind text pl h hok ih =>
    obtain ⟨h1, h2⟩ := ih
    refine ⟨fun r hr => ?_, ?_⟩
    · rcases List.mem_append.1 hr with hr | hr
      · have := h1 r (List.mem_append_left _ hr)
        simp
        omega
      · simp at hr; subst hr; simp
    · rw [List.pairwise_append] at h2 ⊢
      refine ⟨h2.1, by simp, fun a ha b hb => ?_⟩
      simp at hb
      subst hb
      exact h1 a (List.mem_append_left _ ha)
theorem take_ok {n : Nat} : ∀ (ks : List Nat) (T : List Bool), (∀ k ∈ ks, k < n ∧ T.getD k false = false) → ks.Nodup → n ≤ T.length → ∃ T', T5.takeL n (cI ks) T = some T' ∧ T'.length = T.length ∧ ∀ i, T'.getD i false = true ↔ T.getD i false = true ∨ i ∈ ks
  | [], T, _, _, _ => ⟨T, rfl, rfl, fun i => by simp⟩
  | k :: r, T, h, hd, hl => by
    obtain ⟨h1, h2⟩ := h k (by simp)
    have hd' := List.nodup_cons.1 hd
    obtain ⟨T', e1, e2, e3⟩ := take_ok r (T.set k true) (fun q hq => by
      obtain ⟨g1, g2⟩ := h q (by simp [hq])
      refine ⟨g1, ?_⟩
      rw [getD_set (fun e => hd'.1 (by rw [← e]; exact hq))]
      exact g2) hd'.2 (by simpa using hl)
    refine ⟨T', ?_, by simpa using e2, fun i => ?_⟩
    · simp only [cI, List.map_cons, T5.takeL, Int.toNat_natCast]
      rw [if_neg (by rw [h2]; simp; omega)]
      exact e1
    · rw [e3]
      by_cases e : i = k
      · subst e
        simp
        left
        rw [List.getElem?_set_self (by omega)]
        rfl
      · rw [getD_set e]
        simp [e]
theorem kd_nx (ns ext : List PN) (k : Nat) (hk : k < ns.length) : T5.kd ((ns ++ ext).map nx5) (k : Nat) = ((kdN ns k : Nat) : Int) := by
  unfold T5.kd kdN
  rw [List.getElem?_map, Int.toNat_natCast, List.getElem?_append_left hk]
  cases ns[k]? <;> rfl
theorem st_nodes {ns : List PN} {roots : List Nat} (h : St ns roots) : ∀ ext, ∃ T, T5.nodesL ((ns ++ ext).map nx5) ns.length = .ok T ∧ T.length = (ns ++ ext).length ∧ ∀ i, T.getD i false = true ↔ (i < ns.length ∧ i ∉ roots) := by
  induction h with
  | nil =>
    intro ext
    refine ⟨List.replicate ext.length false, by simp [T5.nodesL], by simp, fun i => ?_⟩
    rw [List.getD_eq_getElem?_getD]
    by_cases e : i < ext.length <;> simp [e]
  | @lay ns ρ ks kind text pl h hok ih =>
    intro ext
    obtain ⟨h1, h2⟩ := st_roots h
    obtain ⟨T, e1, e2, e3⟩ := ih (⟨kind, text, ks, pl⟩ :: ext)
    have eL : ns ++ [(⟨kind, text, ks, pl⟩ : PN)] ++ ext = ns ++ (⟨kind, text, ks, pl⟩ :: ext) := by simp
    rw [eL]
    rw [List.pairwise_append] at h2
    have hks : ∀ k ∈ ks, k < ns.length ∧ T.getD k false = false := fun k hk => by
      refine ⟨h1 k (List.mem_append_right _ hk), ?_⟩
      cases e : T.getD k false with
      | false => rfl
      | true => exact absurd (List.mem_append_right _ hk) ((e3 k).1 e).2
    obtain ⟨T', f1, f2, f3⟩ := take_ok (n := ns.length) ks T hks (h2.2.1.imp (fun hh => Nat.ne_of_lt hh)) (by rw [e2]; simp)
    obtain ⟨t, ls, g1, g2, g3⟩ := hok
    have hx : ((ns ++ (⟨kind, text, ks, pl⟩ : PN) :: ext).map nx5)[ns.length]? = some (nx5 ⟨kind, text, ks, pl⟩) := by simp
    have hkk : (cI ks).map (T5.kd ((ns ++ (⟨kind, text, ks, pl⟩ : PN) :: ext).map nx5)) = kinds ns ks := by
      unfold cI kinds
      rw [List.map_map]
      exact List.map_congr_left (fun k hk => kd_nx ns _ k (hks k hk).1)
    have hE : T5.nodeE ((ns ++ (⟨kind, text, ks, pl⟩ : PN) :: ext).map nx5) ns.length (nx5 ⟨kind, text, ks, pl⟩) T = .ok T' := by
      rw [T5.node_rest (x := nx5 ⟨kind, text, ks, pl⟩) g1 (by simp [nx5]) f1]
      rw [if_neg (by rw [show T5.textL t (nx5 ⟨kind, text, ks, pl⟩).text = true from g2]; simp)]
      have e5 : T5.shapeL (nx5 ⟨kind, text, ks, pl⟩).kind ((nx5 ⟨kind, text, ks, pl⟩).ks.map (T5.kd ((ns ++ (⟨kind, text, ks, pl⟩ : PN) :: ext).map nx5))) = true := by
        rw [show (nx5 ⟨kind, text, ks, pl⟩).ks.map (T5.kd ((ns ++ (⟨kind, text, ks, pl⟩ : PN) :: ext).map nx5)) = kinds ns ks from hkk]
        exact g3
      rw [if_neg (by rw [e5]; simp)]
    refine ⟨T', ?_, by rw [f2, e2], fun i => ?_⟩
    · rw [show (ns ++ [(⟨kind, text, ks, pl⟩ : PN)]).length = ns.length + 1 by simp]
      unfold T5.nodesL
      rw [e1]
      simp only [hx, hE]
    · rw [f3, e3]
      simp only [List.length_append, List.length_cons, List.length_nil, List.mem_append, List.mem_cons, List.not_mem_nil, or_false]
      constructor
      · rintro (⟨a, b⟩ | hk)
        · refine ⟨by omega, fun hh => ?_⟩
          rcases hh with hh | hh
          · exact b (.inl hh)
          · omega
        · have hkl := (hks i hk).1
          refine ⟨by omega, fun hh => ?_⟩
          rcases hh with hh | hh
          · have := h2.2.2 i hh i hk; omega
          · omega
      · rintro ⟨a, b⟩
        by_cases hk : i ∈ ks
        · exact .inr hk
        · refine .inl ⟨by omega, fun hh => ?_⟩
          rcases hh with hh | hh
          · exact b (.inl hh)
          · exact hk hh
theorem st_check {ms : List PN} {v : List Nat} (h : St ms v) (h1 : One c1 ms v) (hl : ms.length ≤ 50000) (hd : deepP ms ≤ 200) : T5.checkL (ms.map nx5) = (0, 0) := by
  obtain ⟨n, rfl, hn, hc⟩ := h1
  obtain ⟨T, e1, e2, e3⟩ := st_nodes h []
  simp only [List.append_nil] at e1 e2
  have hlast : n = ms.length - 1 := by
    generalize hv : [n] = v at h
    cases h with
    | nil => cases hv
    | @lay ns ρ ks kind text pl h hok =>
      have : ρ = [] ∧ n = ns.length := by
        cases ρ with
        | nil => simp at hv; exact ⟨rfl, hv⟩
        | cons a r => simp at hv
      simp [this.2]
  have hk : T5.kd (ms.map nx5) (((ms.map nx5).length - 1 : Nat) : Int) = 1 := by
    have := kd_nx ms [] n hn
    simp only [List.append_nil] at this
    rw [List.length_map, ← hlast, this]
    have : kdN ms n = 1 := by simpa [c1] using hc
    rw [this]
    rfl
  have hD : T5.deepL (ms.map nx5) = deepP ms := by
    unfold T5.deepL deepP deepL
    have e : (ms.map nx5).map T5.Nd.ks = (ms.map ndX).map Nd.ks := by simp [nx5, ndX, cI, Function.comp_def]
    rw [depths_eq e]
    simp
  refine T5.check_ok (by simp; omega) (by rw [List.length_map]; exact e1) (by simp; intro e; rw [e] at hn; simp at hn) hk ?_ (by rw [hD]; omega)
  refine T5.has0_not _ (by rw [e2]; simp) (fun i hi => ?_)
  rw [List.length_map] at hi
  exact (e3 i).2 ⟨by omega, by simp; omega⟩
theorem tk_out {ts : List Tok} {i : Nat} (h : ¬ i < ts.length) : nx ts i = [] := by
  unfold nx tk
  rw [List.getD_eq_getElem?_getD, List.getElem?_eq_none (by omega)]
  rfl
/-- What a text is read as passes the checks. -/
theorem prg_good {s : ByteArray} {ms : List PN} (h : prgL s = .ok ms) : T5.checkL (ms.map nx5) = (0, 0) := by
  rcases hsc : sc s 0 with ⟨ts, _ | ⟨p, c⟩⟩
  · rw [prgL_after hsc rfl] at h
    have hT : Toks (withEnd s ts) := (toks_of (by rw [hsc])).1
    have K : KT (withEnd s ts) := kt_of (by rw [hsc])
    have hS : ∀ i, i < (withEnd s ts).length → TokS s.data.toList (tk (withEnd s ts) i) := toks_at (by rw [hsc])
    generalize withEnd s ts = us at *
    unfold afterL at h
    split at h
    · cases h
    · split at h
      · cases h
      · rename_i v j ns hr
        split at h
        · cases h
        · rename_i h5
          split at h
          · cases h
          · rename_i h6
            cases h
            have hh := (fullP_eq hT).trans (congrArg some hr)
            have hNm : ∀ i, nx us i = nmB → nameL (tk us i).text = true := fun i e => by
              by_cases hi : i < us.length
              · exact (hS i hi).nm ((K.name hi).1 e)
              · rw [tk_out hi] at e; simp [nmB] at e
            have hBn : ∀ i, lineL (nx us i) ≠ 0 → T5.binaries.contains (tk us i).text = true := fun i e => by
              by_cases hi : i < us.length
              · obtain ⟨_, kt⟩ := K.line hi e
                rw [← kt]
                exact bin_line e
              · rw [tk_out hi] at e; simp [lineL] at e
            have hUn : ∀ i, isSg (nx us i) = true → un (tk us i) := fun i e => by
              by_cases hi : i < us.length
              · have hx : ∀ b : List UInt8, nx us i = b → b ≠ nmB ∧ b ≠ numB ∧ b ≠ [] → (tk us i).text = b := fun b eb hb => by
                  have := K.is hi hb
                  rw [decide_eq_true eb] at this
                  simp [isT] at this
                  exact this.2
                unfold isSg at e
                simp only [Bool.or_eq_true, beq_iff_eq] at e
                unfold un
                rcases e with (e | e) | e
                · rw [hx _ e (by decide)]; decide
                · rw [hx _ e (by decide)]; decide
                · rw [hx _ e (by decide)]; decide
              · rw [tk_out hi] at e; simp [isSg] at e
            obtain ⟨g1, g2, _⟩ := st_P (ts := us) hNm hBn hUn hT.num (40 * us.length + 29) .prog 0 [] trivial trivial [] v j ms hh St.nil
            exact st_check g1 g2 (by omega) (by omega)
  · unfold prgL at h
    rw [hsc] at h
    cases h
end Go.Proofs.YtnebhkglpggnlaaGreatDoor
namespace Go.Proofs.YtnebhkglpggnlaaGreatDoor
open Go.RowKit
set_option linter.unusedVariables false
set_option linter.unusedSimpArgs false
set_option linter.unusedSectionVars false

/-- What a node may cost. -/
def cW (x : T5.Nd) : Nat := baseW x.kind.toNat + (tx x).length
section
variable {L : List T5.Nd} (S : Shp L)
include S
theorem cW_ex {k : Int} {x : T5.Nd} (h : T5.isEx x.kind = true) : 20 + (tx x).length ≤ cW x ∧ (x.kind = 22 → cW x = 420 + (tx x).length) := by
  have := of_decide_eq_true h
  unfold cW
  refine ⟨?_, fun e => by rw [e]; rfl⟩
  have : 20 ≤ baseW x.kind.toNat := by
    unfold baseW
    repeat (first | omega | split)
  omega
theorem eN_w : ∀ (n : Nat) (k : Int) (x : T5.Nd), k.toNat < n → L[k.toNat]? = some x → T5.isEx x.kind = true → (eN L k).length + 8 ≤ szN L cW k ∧ (x.kind = 22 → (eN L k).length + 408 ≤ szN L cW k) := by
  intro n
  induction n with
  | zero => intro k x h; omega
  | succ n ih =>
    intro k x hn hx he
    have hkd : ∀ a ∈ x.ks, T5.isEx (T5.kd L a) = true → (eN L a).length + 8 ≤ szN L cW a := fun a ha hE => by
      obtain ⟨k0, k1⟩ := S.kids _ x hx a ha
      cases hy : L[a.toNat]? with
      | none => rw [T5.kd, hy] at hE; simp [T5.isEx] at hE
      | some y =>
        rw [T5.kd, hy] at hE
        exact (ih a y (by omega) hy hE).1
    obtain ⟨c1, c2⟩ := cW_ex S (k := k) he
    rw [szN_eq S.kids hx]
    have hall : ∀ a ∈ x.ks, T5.isEx (T5.kd L a) = true := fun a ha => by
      have hr := of_decide_eq_true he
      by_cases c0 : x.kind = 15 ∨ x.kind = 16 ∨ x.kind = 17 ∨ x.kind = 23 ∨ x.kind = 26 ∨ x.kind = 28 ∨ x.kind = 30
      · have := S.nil hx (by omega)
        rw [this] at ha
        cases ha
      by_cases c1 : x.kind = 19 ∨ x.kind = 21
      · obtain ⟨b, c, hb, hE, hF⟩ := S.two hx (by omega)
        rw [hb] at ha
        rcases List.mem_cons.1 ha with e | ha
        · rw [e]; exact hE
        · rw [List.mem_singleton.1 ha]; exact hF
      by_cases c2 : x.kind = 22
      · exact S.many hx (by omega) a ha
      · obtain ⟨b, hb, hE⟩ := S.one hx (by omega)
        rw [hb] at ha
        rw [List.mem_singleton.1 ha]
        exact hE
    have hk : ∀ a ∈ x.ks, (eN L a).length + 8 ≤ szN L cW a := fun a ha => hkd a ha (hall a ha)
    have hs : (x.ks.map (fun k => (eN L k).length)).sum + x.ks.length * 8 ≤ (x.ks.map (szN L cW)).sum := by
      rw [← sum_const 8 (fun k => (eN L k).length) x.ks]
      exact sum_le hk
    have hj := joinC_len (eN L) x.ks
    have hw := wordB_len x.kind
    have hlen : (eN L k).length ≤ (tx x).length + 9 + ((x.ks.map (fun k => (eN L k).length)).sum + x.ks.length * 2) := by
      rw [eN_eq S.kids hx]
      have hh : ∀ a t, (hN L a t).length ≤ (eN L a).length + 2 := fun a t => heldB_len _ _ _
      have a1 : ∀ t, (atK x.ks 0 (fun j => hN L j t)).length ≤ (x.ks.map (fun k => (eN L k).length + 2)).sum := fun t => atK_len (fun k => (eN L k).length + 2) (fun k _ => hh k t) 0
      have e2 : (x.ks.map (fun k => (eN L k).length + 2)).sum = (x.ks.map (fun k => (eN L k).length)).sum + x.ks.length * 2 := sum_const 2 _ _
      have a3 : ∀ t u, (atK x.ks 0 (fun j => hN L j t)).length + (atK x.ks 1 (fun j => hN L j u)).length ≤ (x.ks.map (fun k => (eN L k).length + 2)).sum := fun t u => by
        have := atK_len3 (ks := x.ks) (g0 := fun j => hN L j t) (g1 := fun j => hN L j u) (g2 := fun _ => []) (fun k => (eN L k).length + 2) 0 (fun k _ => hh k t) (fun k _ => hh k u) (fun k _ => by simp)
        omega
      have a4 : ∀ t, (atK x.ks 0 (fun j => hN L j t)).length + (atK x.ks 1 (eN L)).length ≤ (x.ks.map (fun k => (eN L k).length + 2)).sum := fun t => by
        have := atK_len3 (ks := x.ks) (g0 := fun j => hN L j t) (g1 := eN L) (g2 := fun _ => []) (fun k => (eN L k).length + 2) 0 (fun k _ => hh k t) (fun k _ => by omega) (fun k _ => by simp)
        omega
      have b1 := a1 6
      have b2 := a1 7
      have b3 := a3 (max (opT (tx x)) 1) (opT (tx x) + 1)
      have b4 := a4 7
      unfold exprX
      repeat (first | omega | (simp only [List.length_append, List.length_cons, List.length_nil]; omega) | split)
    refine ⟨by omega, fun e => ?_⟩
    have := c2 e
    omega
theorem sN_w : ∀ (n ab : Nat) (k : Int) (x : T5.Nd), k.toNat < n → 0 ≤ k → L[k.toNat]? = some x → T5.isSt x.kind = true → 2 * ab + depN L k ≤ 200 → (sN L ab k).length ≤ szN L cW k := by
  intro n
  induction n with
  | zero => intro ab k x h; omega
  | succ n ih =>
    intro ab k x hn h0 hx he hd
    have hp := dep_pos h0 hx
    have hi : (ind ab).length ≤ 396 := by rw [ind_len]; omega
    have ex : ∀ a ∈ x.ks, T5.isEx (T5.kd L a) = true → (eN L a).length + 8 ≤ szN L cW a ∧ (T5.kd L a = 22 → (eN L a).length + 408 ≤ szN L cW a) := fun a ha hE => by
      cases hy : L[a.toNat]? with
      | none => rw [T5.kd, hy] at hE; simp [T5.isEx] at hE
      | some y =>
        rw [T5.kd, hy] at hE
        have := eN_w S (a.toNat + 1) a y (by omega) hy hE
        rw [T5.kd, hy]
        exact this
    have blk : ∀ a ∈ x.ks, ∀ y, L[a.toNat]? = some y → y.kind = 4 → (bN L (ab + 1) a).length + 560 ≤ szN L cW a := fun a ha y hy h4 => by
      obtain ⟨k0, k1⟩ := S.kids _ x hx a ha
      have d1 := dep_kid S.kids h0 hx ha
      unfold bN
      rw [hy]
      simp only
      rw [flat_lenS, szN_eq S.kids hy]
      have h1 : (y.ks.map (fun i => (sN L (ab + 1) i).length)).sum ≤ (y.ks.map (szN L cW)).sum := sum_le (fun j hj => by
        obtain ⟨j0, j1⟩ := S.kids _ y hy j hj
        have d2 := dep_kid S.kids k0 hy hj
        have hE := S.blk hy h4 j hj
        cases hu : L[j.toNat]? with
        | none => rw [T5.kd, hu] at hE; simp [T5.isSt] at hE
        | some u =>
          rw [T5.kd, hu] at hE
          exact ih (ab + 1) j u (by omega) j0 hu hE (by omega))
      have h2 : 560 ≤ cW y := by unfold cW; rw [h4]; exact Nat.le_add_right _ _
      omega
    have four : ∀ a, T5.kd L a = 4 ∨ T5.kd L a = 14 → ∃ y, L[a.toNat]? = some y ∧ T5.kd L a = y.kind := fun a h => by
      cases hy : L[a.toNat]? with
      | none => rw [T5.kd, hy] at h; simp at h
      | some y => exact ⟨y, rfl, by rw [T5.kd, hy]⟩
    have hw := wordB_len x.kind
    rw [sN_eq S.kids hx, szN_eq S.kids hx]
    have hk : x.kind = 5 ∨ x.kind = 6 ∨ x.kind = 7 ∨ x.kind = 8 ∨ (x.kind = 9 ∨ x.kind = 10 ∨ x.kind = 11) ∨ x.kind = 12 ∨ x.kind = 13 := by
      have := of_decide_eq_true he
      omega
    rcases hk with e | e | e | e | e | e | e
    · obtain ⟨a, ha, hE⟩ := S.one hx (by omega)
      have h1 := (ex a (by simp [ha]) hE).1
      have hc : cW x = 410 + (tx x).length := by unfold cW; rw [e]; rfl
      simp only [stmtX, e, ha, atK, if_true, List.getElem?_cons_zero, List.length_append, List.length_cons, List.length_nil, List.map_cons, List.map_nil, List.sum_cons, List.sum_nil]
      omega
    · obtain ⟨a, b, ha, hE, hF⟩ := S.two hx (by omega)
      have h1 := (ex a (by simp [ha]) hE).1
      have h2 := (ex b (by simp [ha]) hF).1
      have hc : cW x = 410 + (tx x).length := by unfold cW; rw [e]; rfl
      have hX : stmtX x ab (eN L) (bN L (ab + 1)) (elseB L ab (bN L (ab + 1))) = ind ab ++ (eN L a ++ ([32, 61, 32] ++ (eN L b ++ [59, 10]))) := by simp [stmtX, e, ha, atK]
      rw [hX, ha]
      simp only [List.length_append, List.length_cons, List.length_nil, List.map_cons, List.map_nil, List.sum_cons, List.sum_nil]
      omega
    · obtain ⟨a, b, c, ha, hE, hb, hcc⟩ := S.iff_ hx e
      have h1 := (ex a (by simp [ha]) hE).1
      obtain ⟨z, hz, hz4⟩ := four b (.inl hb)
      obtain ⟨u, hu, hu4⟩ := four c hcc
      have h2 := blk b (by simp [ha]) z hz (by omega)
      have hc : cW x = 250 + (tx x).length := by unfold cW; rw [e]; rfl
      have hX : stmtX x ab (eN L) (bN L (ab + 1)) (elseB L ab (bN L (ab + 1))) = ind ab ++ ([105, 102, 32] ++ (eN L a ++ ([32, 123, 10] ++ (bN L (ab + 1) b ++ (ind ab ++ (125 :: (elseB L ab (bN L (ab + 1)) c ++ [10]))))))) := by simp [stmtX, e, ha, atK]
      have ho : (elseB L ab (bN L (ab + 1)) c).length ≤ szN L cW c := by
        unfold elseB
        split
        · rename_i h4
          have h3 := blk c (by simp [ha]) u hu (by omega)
          simp only [List.length_append, List.length_cons, List.length_nil]
          omega
        · simp
      rw [hX, ha]
      simp only [List.length_append, List.length_cons, List.length_nil, List.map_cons, List.map_nil, List.sum_cons, List.sum_nil]
      omega
    · obtain ⟨a, b, ha, hE, hb⟩ := S.whl hx e
      have h1 := (ex a (by simp [ha]) hE).1
      obtain ⟨z, hz, hz4⟩ := four b (.inl hb)
      have h2 := blk b (by simp [ha]) z hz (by omega)
      have hc : cW x = 250 + (tx x).length := by unfold cW; rw [e]; rfl
      have hX : stmtX x ab (eN L) (bN L (ab + 1)) (elseB L ab (bN L (ab + 1))) = ind ab ++ ([119, 104, 105, 108, 101, 32] ++ (eN L a ++ ([32, 123, 10] ++ (bN L (ab + 1) b ++ (ind ab ++ [125, 10]))))) := by simp [stmtX, e, ha, atK]
      rw [hX, ha]
      simp only [List.length_append, List.length_cons, List.length_nil, List.map_cons, List.map_nil, List.sum_cons, List.sum_nil]
      omega
    · obtain ⟨a, ha, hE⟩ := S.one hx (by omega)
      have h1 := (ex a (by simp [ha]) hE).1
      have hc : cW x = 410 + (tx x).length := by unfold cW; rcases e with e | e | e <;> rw [e] <;> rfl
      have hX : stmtX x ab (eN L) (bN L (ab + 1)) (elseB L ab (bN L (ab + 1))) = ind ab ++ (wordB x.kind ++ (32 :: (eN L a ++ [59, 10]))) := by rcases e with e | e | e <;> simp [stmtX, e, ha, atK]
      rw [hX, ha]
      simp only [List.length_append, List.length_cons, List.length_nil, List.map_cons, List.map_nil, List.sum_cons, List.sum_nil]
      omega
    · obtain ⟨a, ha, hp22⟩ := S.do_ hx e
      have h1 := (ex a (by simp [ha]) (by rw [hp22]; rfl)).2 hp22
      have hX : stmtX x ab (eN L) (bN L (ab + 1)) (elseB L ab (bN L (ab + 1))) = ind ab ++ (eN L a ++ [59, 10]) := by simp [stmtX, e, ha, atK]
      rw [hX, ha]
      simp only [List.length_append, List.length_cons, List.length_nil, List.map_cons, List.map_nil, List.sum_cons, List.sum_nil]
      omega
    · have hs : (x.ks.map (fun k => (eN L k).length)).sum + x.ks.length * 8 ≤ (x.ks.map (szN L cW)).sum := by
        rw [← sum_const 8 (fun k => (eN L k).length) x.ks]
        exact sum_le (fun a ha => (ex a ha (by rw [S.names hx (by omega) a ha]; rfl)).1)
      have hj := joinC_len (eN L) x.ks
      have hc : cW x = 420 + (tx x).length := by unfold cW; rw [e]; rfl
      have hX : stmtX x ab (eN L) (bN L (ab + 1)) (elseB L ab (bN L (ab + 1))) = ind ab ++ ([109, 101, 114, 103, 101, 40] ++ (joinC (x.ks.map (eN L)) ++ [41, 59, 10])) := by simp [stmtX, e]
      rw [hX]
      simp only [List.length_append, List.length_cons, List.length_nil]
      omega
end
end Go.Proofs.YtnebhkglpggnlaaGreatDoor
namespace Go.Proofs.YtnebhkglpggnlaaGreatDoor
open Go.RowKit
set_option linter.unusedVariables false
set_option linter.unusedSimpArgs false
set_option linter.unusedSectionVars false

section
variable {L : List T5.Nd} (S : Shp L)
include S
theorem dN_w {k : Int} {x : T5.Nd} (h0 : 0 ≤ k) (hx : L[k.toNat]? = some x) (hk : x.kind = 2 ∨ x.kind = 3) (hd : depN L k ≤ 199) : (dN L k).length ≤ szN L cW k := by
  have hc : cW x = 20 + (tx x).length := by unfold cW; rcases hk with e | e <;> rw [e] <;> rfl
  have nm : ∀ a, T5.kd L a = 17 → (eN L a).length + 8 ≤ szN L cW a := fun a hE => by
    cases hy : L[a.toNat]? with
    | none => rw [T5.kd, hy] at hE; simp at hE
    | some y =>
      rw [T5.kd, hy] at hE
      exact (eN_w S (a.toNat + 1) a y (by omega) hy (by rw [show y.kind = 17 from hE]; rfl)).1
  have hs : ∀ ks : List Int, (∀ a ∈ ks, T5.kd L a = 17) → (joinC (ks.map (eN L))).length ≤ (ks.map (szN L cW)).sum := fun ks hks => by
    have h1 := joinC_len (eN L) ks
    have h2 : (ks.map (fun k => (eN L k).length)).sum + ks.length * 8 ≤ (ks.map (szN L cW)).sum := by
      rw [← sum_const 8 (fun k => (eN L k).length) ks]
      exact sum_le (fun a ha => nm a (hks a ha))
    omega
  rw [szN_eq S.kids hx]
  rcases hk with e | e
  · have hX : dN L k = [114, 101, 99, 32] ++ (tx x ++ ([32, 123] ++ (joinC (x.ks.map (eN L)) ++ [125, 10]))) := by simp [dN, hx, declX, e]
    have h1 := hs x.ks (fun a ha => S.names hx (by omega) a ha)
    rw [hX]
    simp only [List.length_append, List.length_cons, List.length_nil]
    omega
  · obtain ⟨ps, b, hks, hps, hb⟩ := S.fn hx e
    have hX : dN L k = [102, 110, 32] ++ (tx x ++ (40 :: (joinC (ps.map (eN L)) ++ ([41, 32, 123, 10] ++ (bN L 1 b ++ [125, 10]))))) := by simp [dN, hx, declX, e, hks, atK]
    have h1 := hs ps hps
    have hbm : b ∈ x.ks := by simp [hks]
    obtain ⟨b0, b1⟩ := S.kids _ x hx b hbm
    have d1 := dep_kid S.kids h0 hx hbm
    have h2 : (bN L 1 b).length + 560 ≤ szN L cW b := by
      cases hz : L[b.toNat]? with
      | none => rw [T5.kd, hz] at hb; simp at hb
      | some z =>
        rw [T5.kd, hz] at hb
        unfold bN
        rw [hz]
        simp only
        rw [flat_lenS, szN_eq S.kids hz]
        have h3 : (z.ks.map (fun i => (sN L 1 i).length)).sum ≤ (z.ks.map (szN L cW)).sum := sum_le (fun j hj => by
          obtain ⟨j0, j1⟩ := S.kids _ z hz j hj
          have d2 := dep_kid S.kids b0 hz hj
          have hE := S.blk hz hb j hj
          cases hu : L[j.toNat]? with
          | none => rw [T5.kd, hu] at hE; simp [T5.isSt] at hE
          | some u =>
            rw [T5.kd, hu] at hE
            exact sN_w S (j.toNat + 1) 1 j u (by omega) j0 hu hE (by omega))
        have h4 : 560 ≤ cW z := by unfold cW; rw [show z.kind = 4 from hb]; exact Nat.le_add_right _ _
        omega
    rw [hX, hks]
    simp only [List.length_append, List.length_cons, List.length_nil, List.map_append, List.map_cons, List.map_nil, List.sum_append, List.sum_cons, List.sum_nil]
    omega
theorem pN_w {k : Int} {x : T5.Nd} (h0 : 0 ≤ k) (hx : L[k.toNat]? = some x) (hk : x.kind = 1) (hd : depN L k ≤ 200) : (pN L k).length ≤ szN L cW k := by
  unfold pN
  rw [hx]
  simp only
  rw [flat_lenS, szN_eq S.kids hx]
  have : (x.ks.map (fun i => (dN L i).length)).sum ≤ (x.ks.map (szN L cW)).sum := sum_le (fun j hj => by
    obtain ⟨j0, j1⟩ := S.kids _ x hx j hj
    have d2 := dep_kid S.kids h0 hx hj
    have hE := S.prg hx hk j hj
    cases hu : L[j.toNat]? with
    | none => rw [T5.kd, hu] at hE; simp at hE
    | some u =>
      rw [T5.kd, hu] at hE
      exact dN_w S j0 hu hE (by omega))
  omega
end
theorem sumTo_wt (ms : List PN) : ∀ n, n ≤ ms.length → sumTo (fun i => match (ms.map nx5)[i]? with | some x => cW x | none => 0) n = Wt (ms.take n)
  | 0, _ => by simp [sumTo, Wt]
  | n + 1, h => by
    have e : ms.take (n + 1) = ms.take n ++ [ms[n]] := by
      rw [List.take_add_one, List.getElem?_eq_getElem (by omega)]
      rfl
    rw [sumTo, sumTo_wt ms n (by omega), e, Wt_snoc]
    have e2 : (ms.map nx5)[n]? = some (nx5 ms[n]) := by simp [List.getElem?_eq_getElem (show n < ms.length by omega)]
    simp only [e2]
    have : cW (nx5 ms[n]) = wtN ms[n] := by
      unfold cW wtN
      rw [tx_nx]
      simp [nx5]
    omega
/-- It is short enough. -/
theorem back_fits {s : ByteArray} (hs : s.size ≤ 2000) {ms : List PN} (h : prgL s = .ok ms) : (pN (ms.map nx5) (((ms.map nx5).length - 1 : Nat) : Int)).length ≤ 800000 := by
  have hc := prg_good h
  obtain ⟨T, hT, hn, h5, hk1, hh0⟩ := T5.check_zero hc
  have S := shp_of hT
  have hd : T5.deepL (ms.map nx5) ≤ 200 := by
    apply Decidable.byContradiction
    intro c
    have := T5.check_deep (by omega) hT hn hk1 hh0 (by omega)
    rw [hc] at this
    cases this
  have hlt : (ms.map nx5).length - 1 < (ms.map nx5).length := by omega
  cases hx : (ms.map nx5)[(ms.map nx5).length - 1]? with
  | none => rw [List.getElem?_eq_getElem hlt] at hx; cases hx
  | some x =>
    have hx' : (ms.map nx5)[(((ms.map nx5).length - 1 : Nat) : Int).toNat]? = some x := by rw [Int.toNat_natCast]; exact hx
    have hk : x.kind = 1 := by rw [T5.kd, hx'] at hk1; exact hk1
    have h1 := pN_w S (by omega) hx' hk (show depN (ms.map nx5) (((ms.map nx5).length - 1 : Nat) : Int) ≤ 200 from hd)
    have h2 := len_bound (L := ms.map nx5) (len := fun i => szN (ms.map nx5) cW (i : Nat)) (cost := fun i => match (ms.map nx5)[i]? with | some x => cW x | none => 0) (fun i y hy => by
      have hy' : (ms.map nx5)[((i : Nat) : Int).toNat]? = some y := by rw [Int.toNat_natCast]; exact hy
      show szN (ms.map nx5) cW ((i : Nat) : Int) ≤ _
      rw [szN_eq S.kids hy']
      simp only [hy]
      have : (y.ks.map (szN (ms.map nx5) cW)).sum ≤ (y.ks.map (fun k => szN (ms.map nx5) cW ((k.toNat : Nat) : Int))).sum := sum_le (fun k hk => by
        obtain ⟨k0, k1⟩ := S.kids i y hy k hk
        rw [show ((k.toNat : Nat) : Int) = k by omega]
        exact Nat.le_refl _)
      omega) hT hlt
    have h3 : sumTo (fun i => match (ms.map nx5)[i]? with | some x => cW x | none => 0) ((ms.map nx5).length - 1 + 1) = Wt ms := by
      rw [List.length_map] at *
      rw [sumTo_wt ms _ (by omega), List.take_of_length_le (by omega)]
    rw [h3] at h2
    have h4 : Wt ms ≤ 562000 := by
      rcases hsc : sc s 0 with ⟨ts, _ | ⟨p, c⟩⟩
      · rw [prgL_after hsc rfl] at h
        obtain ⟨hTk0, hl⟩ := toks_of (s := s) (ts := ts) (by rw [hsc])
        have hTk : Toks (withEnd s ts) := hTk0
        clear hTk0
        have hx : sumX ts ≤ s.size := by
          have := scan_text (s.size + 1) 0 (s.data.toList.drop 0)
          have e : (scanL (s.size + 1) 0 (s.data.toList.drop 0)).1 = ts := by
            have : (sc s 0).1 = ts := by rw [hsc]
            exact this
          rw [e, List.length_drop, ← Lib.size_eq] at this
          omega
        have hF := fullP_eq (ts := withEnd s ts) hTk
        unfold afterL at h
        split at h
        · cases h
        · split at h
          · cases h
          · rename_i v j ms' hf
            split at h
            · cases h
            · split at h
              · cases h
              · cases h
                rw [hf] at hF
                have hw := wt_P hTk _ .prog 0 [] trivial _ _ _ hF
                have hg := (good hTk _ .prog 0 [] hTk.pos trivial).2.2 _ _ _ hF
                have hj : j ≤ ts.length := by have := hg.2.1; simp [withEnd] at this; omega
                rw [SumT_eq j (by simp [withEnd]; omega)] at hw
                have hx2 := sumX_take (withEnd s ts) j
                have hx3 : sumX (withEnd s ts) = sumX ts := by simp [sumX, withEnd]
                have e0 : Wt [] = 0 := rfl
                have e1 : SumT (withEnd s ts) 0 = 0 := rfl
                have e2 : crd .prog = 0 := rfl
                rw [e0, e1, e2] at hw
                omega
      · unfold prgL at h
        rw [hsc] at h
        cases h
    omega
end Go.Proofs.YtnebhkglpggnlaaGreatDoor
