/-
  The pure state of a cache: who is held, what is noted of it; no condition.
-/
import Derived.Test.YtnhjplfdfbbihaaCbC
namespace Go.Proofs.Ytnhjplfdfbbihaa
open Go.RowKit Go.Shelf Go.Maps Go.ChangeShapes
set_option linter.unusedVariables false
set_option linter.unusedSimpArgs false
/-- What is noted of a place. -/
structure Nt where
  id : Int
  op : Int
  f : Int
  to : Int
structure Bk where
  lim : Nat
  pk : List Int
  rows : List (Int × AT)
  notes : List Nt
  last : Nat
  top : Nat
def nfnd (L : List Nt) (i p : Int) : Option Nt := L.find? (fun n => decide (n.id = i ∧ n.op = p))
def numO (x : Int) : Option Int := if x = 0 then none else some x
def failsF (L : List Nt) : Int → Int → Option Int := fun i p => (nfnd L i p).bind (fun n => numO n.f)
def linksF (L : List Nt) : Int → Int → Option Int := fun i p => (nfnd L i p).bind (fun n => numO n.to)
def goneN (L : List Nt) (g : Int) : List Nt := L.filterMap (fun n => if n.id = g then none else some (if n.to = g then ⟨n.id, n.op, n.f, 0⟩ else n))
theorem nfnd_gone (L : List Nt) (g i p : Int) : nfnd (goneN L g) i p = if i = g then none else (nfnd L i p).map (fun n => if n.to = g then ⟨n.id, n.op, n.f, 0⟩ else n) := by
  induction L with
  | nil => simp [nfnd, goneN]
  | cons n L ih =>
    unfold goneN nfnd at ih ⊢
    rw [List.filterMap_cons]
    by_cases h1 : n.id = g
    · simp only [h1, if_true]
      rw [ih]
      by_cases h2 : i = g
      · simp [h2]
      · have h3 : ¬ g = i := fun e => h2 e.symm
        simp only [h2, if_false]
        rw [List.find?_cons]
        simp [h1, h3]
    · simp only [h1, if_false]
      rw [List.find?_cons, List.find?_cons, ih]
      by_cases h2 : n.id = i ∧ n.op = p
      · have h3 : ¬ i = g := fun e => h1 (h2.1.trans e)
        by_cases h4 : n.to = g <;> simp [h2, h3, h4]
      · by_cases h4 : n.to = g <;> simp [h2, h4]
theorem fails_gone (L : List Nt) (g : Int) : failsF (goneN L g) = cutS (failsF L) (fun i _ _ => decide (i = g)) := by
  funext i p
  unfold failsF cutS
  rw [nfnd_gone]
  by_cases h : i = g
  · simp only [h, if_true, decide_true]
    cases nfnd L g p with
    | none => rfl
    | some n => cases e : numO n.f <;> simp [failsF, e]
  · simp only [h, if_false, decide_false]
    cases nfnd L i p with
    | none => rfl
    | some n => by_cases e : n.to = g <;> simp [e]
theorem links_gone (L : List Nt) {g : Int} (hg : g ≠ 0) : linksF (goneN L g) = cutS (linksF L) (fun i _ v => decide (i = g) || decide (v = g)) := by
  funext i p
  unfold linksF cutS
  rw [nfnd_gone]
  by_cases h : i = g
  · simp only [h, if_true, decide_true]
    cases nfnd L g p with
    | none => rfl
    | some n => cases e : numO n.to <;> simp [e]
  · simp only [h, if_false, decide_false]
    cases nfnd L i p with
    | none => rfl
    | some n =>
      by_cases e : n.to = g
      · subst e
        simp [numO, hg]
      · have e2 : ¬ (0 = g) := fun h => hg h.symm
        by_cases e0 : n.to = 0 <;> simp [e, e0, e2, numO]
/-- What is noted of a place is changed; it is laid down, if it isn't there. -/
def updN : List Nt → Int → Int → (Nt → Nt) → List Nt
  | [], i, p, u => [u ⟨i, p, 0, 0⟩]
  | n :: L, i, p, u => if n.id = i ∧ n.op = p then u n :: L else n :: updN L i p u
theorem nfnd_upd (L : List Nt) (i p : Int) (u : Nt → Nt) (hu : ∀ n, (u n).id = n.id ∧ (u n).op = n.op) (j q : Int) : nfnd (updN L i p u) j q = if j = i ∧ q = p then some (u ((nfnd L i p).getD ⟨i, p, 0, 0⟩)) else nfnd L j q := by
  induction L with
  | nil =>
    simp only [updN, nfnd, List.find?_cons, List.find?_nil, Option.getD_none]
    have := hu ⟨i, p, 0, 0⟩
    by_cases h : j = i ∧ q = p
    · simp [this, h]
    · have h2 : ¬ (i = j ∧ p = q) := fun e => h ⟨e.1.symm, e.2.symm⟩
      simp [this, h, h2]
  | cons n L ih =>
    rw [updN]
    unfold nfnd at *
    by_cases h1 : n.id = i ∧ n.op = p
    · rw [if_pos h1, List.find?_cons]
      have := hu n
      by_cases h : j = i ∧ q = p
      · simp [this, h, h1]
      · have h2 : ¬ (i = j ∧ p = q) := fun e => h ⟨e.1.symm, e.2.symm⟩
        simp [this, h, h1, h2]
    · rw [if_neg h1, List.find?_cons, List.find?_cons, List.find?_cons, ih]
      by_cases h2 : n.id = j ∧ n.op = q
      · have h : ¬ (j = i ∧ q = p) := fun e => h1 ⟨h2.1.trans e.1, h2.2.trans e.2⟩
        simp only [h2, h, and_self, decide_true, if_false]
      · simp only [h2, h1, decide_false]
def failU (n : Nt) : Nt := ⟨n.id, n.op, n.f + 1, n.to⟩
def linkU (t : Int) (n : Nt) : Nt := ⟨n.id, n.op, n.f, t⟩
def cntN (L : List Nt) (i p : Int) : Int := ((nfnd L i p).getD ⟨i, p, 0, 0⟩).f
theorem cntN_eq (L : List Nt) (i p : Int) : (failsF L i p).getD 0 = cntN L i p := by
  unfold failsF cntN
  cases nfnd L i p with
  | none => rfl
  | some n => by_cases e : n.f = 0 <;> simp [numO, e]
theorem fails_upd (L : List Nt) (hL : ∀ n ∈ L, 0 ≤ n.f) (i p : Int) : failsF (updN L i p failU) = putS (failsF L) i p (cntN L i p + 1) := by
  funext j q
  unfold failsF putS
  rw [nfnd_upd L i p failU (fun n => ⟨rfl, rfl⟩)]
  split
  · have : 0 ≤ cntN L i p := by
      unfold cntN
      cases e : nfnd L i p with
      | none => simp
      | some n => exact hL n (List.mem_of_find?_eq_some e)
    have h2 : ¬ cntN L i p + 1 = 0 := by omega
    show numO (cntN L i p + 1) = _
    rw [numO, if_neg h2]
  · rfl
theorem links_updF (L : List Nt) (i p : Int) : linksF (updN L i p failU) = linksF L := by
  funext j q
  unfold linksF
  rw [nfnd_upd L i p failU (fun n => ⟨rfl, rfl⟩)]
  split
  · rename_i h
    obtain ⟨rfl, rfl⟩ := h
    cases nfnd L j q with
    | none => rfl
    | some n => rfl
  · rfl
theorem links_upd (L : List Nt) {t : Int} (ht : t ≠ 0) (i p : Int) : linksF (updN L i p (linkU t)) = putS (linksF L) i p t := by
  funext j q
  unfold linksF putS
  rw [nfnd_upd L i p (linkU t) (fun n => ⟨rfl, rfl⟩)]
  split
  · show numO t = _
    rw [numO, if_neg ht]
  · rfl
theorem fails_updL (L : List Nt) (t : Int) (i p : Int) : failsF (updN L i p (linkU t)) = failsF L := by
  funext j q
  unfold failsF
  rw [nfnd_upd L i p (linkU t) (fun n => ⟨rfl, rfl⟩)]
  split
  · rename_i h
    obtain ⟨rfl, rfl⟩ := h
    cases nfnd L j q with
    | none => rfl
    | some n => rfl
  · rfl
/-- Whose number comes at a place. -/
def idAt (L : List (Int × AT)) (i : Nat) : Int := (L[i]?.map (·.1)).getD 0
def goneB (S : Bk) (i : Nat) : Bk := { S with rows := S.rows.eraseIdx i, notes := goneN S.notes (idAt S.rows i) }
def kfind (L : List (Int × AT)) (k : Ky) : Option Nat := L.findIdx? (fun r => decide (r.2.k = k))
def dropB (S : Bk) (k : Ky) : Bk := match kfind S.rows k with
  | some i => goneB S i
  | none => S
def pickP (L : List Int) (n : Nat) : Nat := match L with
  | [] => 0
  | p :: _ => (if p.tmod n < 0 then p.tmod n + n else p.tmod n).toNat
theorem pickP_lt (L : List Int) {n : Nat} (h : 0 < n) : pickP L n < n := by
  unfold pickP
  split
  · exact h
  · rename_i p q
    have h1 := Int.tmod_lt_of_pos p (show (0 : Int) < n by omega)
    have h2 := Int.lt_tmod_of_pos p (show (0 : Int) < n by omega)
    split <;> omega
def roomB (S : Bk) : Bk := if S.rows.length < S.lim then S else { goneB S (pickP S.pk S.rows.length) with pk := S.pk.tail }
def pushB (S : Bk) (t : AT) : Bk := { S with rows := S.rows ++ [((S.last : Int) + 1, t)], last := S.last + 1, top := max S.top (S.rows.length + 1) }
def putB (S : Bk) (t : AT) : Bk := if S.lim = 0 then S else pushB (roomB (dropB S t.k)) t
def putR (S : Bk) : Int := if S.lim = 0 then -1 else (S.last : Int) + 1
def heldB (S : Bk) (i : Int) : Bool := S.rows.any (fun r => decide (r.1 = i))
def failB (S : Bk) (i p : Int) : Bk := if heldB S i then { S with notes := updN S.notes i p failU } else S
def failR (S : Bk) (i p : Int) : Int := if heldB S i then cntN S.notes i p + 1 else 0
def linkB (S : Bk) (i p t : Int) : Bk := if heldB S i && heldB S t && decide (0 ≤ p) then { S with notes := updN S.notes i p (linkU t) } else S
def linkR (S : Bk) (i p t : Int) : Int := if heldB S i && heldB S t then (if p < 0 then 1 else 0) else 3
/-- What holds of a cache after so many calls. -/
structure Ok (S : Bk) (n : Nat) : Prop where
  lim : S.lim ≤ 1000
  len : S.rows.length ≤ S.lim
  last : S.last ≤ n
  top : S.top ≤ 1000
  ids : S.rows.Pairwise (fun a b => a.1 < b.1)
  idr : ∀ r ∈ S.rows, 1 ≤ r.1 ∧ r.1 ≤ S.last
  keys : S.rows.Pairwise (fun a b => a.2.k ≠ b.2.k)
  ok : ∀ r ∈ S.rows, ATOk r.2
  apart : S.notes.Pairwise (fun a b => ¬ (a.id = b.id ∧ a.op = b.op))
  nf : ∀ x ∈ S.notes, 0 ≤ x.f ∧ x.f ≤ n
  nn : S.notes.length ≤ n
  nw : ∀ x ∈ S.notes, W64 x.id ∧ W64 x.op ∧ W64 x.to
theorem Ok.more {S : Bk} {n m : Nat} (h : Ok S n) (hm : n ≤ m) : Ok S m :=
  ⟨h.lim, h.len, by have := h.last; omega, h.top, h.ids, h.idr, h.keys, h.ok, h.apart, fun x hx => by have := h.nf x hx; omega, by have := h.nn; omega, h.nw⟩
theorem goneN_len (L : List Nt) (g : Int) : (goneN L g).length ≤ L.length := List.length_filterMap_le _ _
theorem goneN_mem {L : List Nt} {g : Int} {x : Nt} (h : x ∈ goneN L g) : ∃ y ∈ L, x.id = y.id ∧ x.op = y.op ∧ x.f = y.f ∧ (x.to = y.to ∨ x.to = 0) := by
  unfold goneN at h
  obtain ⟨y, hy, he⟩ := List.mem_filterMap.1 h
  split at he
  · cases he
  · split at he <;> cases he
    · exact ⟨y, hy, rfl, rfl, rfl, .inr rfl⟩
    · exact ⟨x, hy, rfl, rfl, rfl, .inl rfl⟩
theorem Ok.gone {S : Bk} {n : Nat} (h : Ok S n) (i : Nat) : Ok (goneB S i) n :=
  ⟨h.lim, by have := h.len; have := (List.eraseIdx_sublist S.rows i).length_le; simp only [goneB]; omega, h.last, h.top, h.ids.sublist (List.eraseIdx_sublist _ _), fun r hr => h.idr r (List.mem_of_mem_eraseIdx hr), h.keys.sublist (List.eraseIdx_sublist _ _), fun r hr => h.ok r (List.mem_of_mem_eraseIdx hr),
   (by
    have := h.apart
    simp only [goneB, goneN]
    refine List.Pairwise.filterMap _ ?_ this
    intro a b hab a' ha b' hb
    simp only [Option.ite_none_left_eq_some, Option.some.injEq] at ha hb
    obtain ⟨_, ha⟩ := ha
    obtain ⟨_, hb⟩ := hb
    have e1 : a'.id = a.id ∧ a'.op = a.op := by rw [← ha]; split <;> exact ⟨rfl, rfl⟩
    have e2 : b'.id = b.id ∧ b'.op = b.op := by rw [← hb]; split <;> exact ⟨rfl, rfl⟩
    rw [e1.1, e1.2, e2.1, e2.2]
    exact hab),
   fun x hx => by obtain ⟨y, hy, e1, e2, e3, _⟩ := goneN_mem hx; rw [e3]; exact h.nf y hy,
   by have := goneN_len S.notes (idAt S.rows i); have := h.nn; simp only [goneB]; omega,
   fun x hx => by
    obtain ⟨y, hy, e1, e2, e3, e4⟩ := goneN_mem hx
    have := h.nw y hy
    rw [e1, e2]
    refine ⟨this.1, this.2.1, ?_⟩
    rcases e4 with e4 | e4 <;> rw [e4]
    · exact this.2.2
    · exact w0⟩
theorem Ok.drop {S : Bk} {n : Nat} (h : Ok S n) (k : Ky) : Ok (dropB S k) n := by
  unfold dropB
  split
  · exact h.gone _
  · exact h
theorem drop_lim (S : Bk) (k : Ky) : (dropB S k).lim = S.lim := by unfold dropB; split <;> rfl
theorem drop_last (S : Bk) (k : Ky) : (dropB S k).last = S.last := by unfold dropB; split <;> rfl
theorem room_last (S : Bk) : (roomB S).last = S.last := by unfold roomB; split <;> rfl
theorem room_lim (S : Bk) : (roomB S).lim = S.lim := by unfold roomB; split <;> rfl
theorem Ok.room {S : Bk} {n : Nat} (h : Ok S n) (h0 : S.lim ≠ 0) : Ok (roomB S) n ∧ (roomB S).rows.length < S.lim := by
  unfold roomB
  split
  · rename_i hl; exact ⟨h, hl⟩
  · rename_i hl
    have hlen := h.len
    have hp := pickP_lt S.pk (n := S.rows.length) (by omega)
    have g := h.gone (pickP S.pk S.rows.length)
    refine ⟨⟨g.lim, g.len, g.last, g.top, g.ids, g.idr, g.keys, g.ok, g.apart, g.nf, g.nn, g.nw⟩, ?_⟩
    simp only [goneB]
    rw [List.length_eraseIdx_of_lt hp]
    omega
theorem kfind_none {L : List (Int × AT)} {k : Ky} (h : kfind L k = none) : ∀ r ∈ L, r.2.k ≠ k := by
  unfold kfind at h
  rw [List.findIdx?_eq_none_iff] at h
  intro r hr
  simpa using h r hr
theorem kfind_some {L : List (Int × AT)} {k : Ky} {i : Nat} (h : kfind L k = some i) : ∃ r, L[i]? = some r ∧ r.2.k = k := by
  unfold kfind at h
  rw [List.findIdx?_eq_some_iff_getElem] at h
  obtain ⟨h1, h2, _⟩ := h
  exact ⟨_, List.getElem?_eq_getElem h1, by simpa using h2⟩
theorem keys_erase {L : List (Int × AT)} (hn : L.Pairwise (fun a b => a.2.k ≠ b.2.k)) {i : Nat} {r : Int × AT} (hi : L[i]? = some r) : ∀ x ∈ L.eraseIdx i, x.2.k ≠ r.2.k := by
  obtain ⟨hl, he⟩ := List.getElem?_eq_some_iff.1 hi
  intro x hx
  obtain ⟨j, hj⟩ := List.getElem?_of_mem hx
  rw [List.getElem?_eraseIdx] at hj
  split at hj
  · rename_i hlt
    obtain ⟨h1, h2⟩ := List.getElem?_eq_some_iff.1 hj
    have := (List.pairwise_iff_getElem.1 hn) j i h1 hl hlt
    rwa [h2, he] at this
  · rename_i hge
    obtain ⟨h1, h2⟩ := List.getElem?_eq_some_iff.1 hj
    have := (List.pairwise_iff_getElem.1 hn) i (j + 1) hl h1 (by omega)
    rw [h2, he] at this
    exact Ne.symm this
theorem drop_free {S : Bk} {n : Nat} (h : Ok S n) (k : Ky) : ∀ r ∈ (dropB S k).rows, r.2.k ≠ k := by
  unfold dropB
  split
  · rename_i i hi
    obtain ⟨r, h1, h2⟩ := kfind_some hi
    rw [← h2]
    exact keys_erase h.keys h1
  · rename_i hi
    exact kfind_none hi
theorem room_sub (S : Bk) : (roomB S).rows.Sublist S.rows := by
  unfold roomB
  split
  · exact List.Sublist.refl _
  · exact List.eraseIdx_sublist _ _
theorem Ok.push {S : Bk} {n : Nat} (h : Ok S n) {t : AT} (ht : ATOk t) (hl : S.rows.length < S.lim) (hk : ∀ r ∈ S.rows, r.2.k ≠ t.k) : Ok (pushB S t) (n + 1) := by
  have h1 := h.lim
  have h2 := h.last
  refine ⟨h.lim, by simp [pushB]; omega, by simp [pushB]; omega, by have := h.top; simp [pushB]; omega, ?_, ?_, ?_, ?_, h.apart, fun x hx => by have := h.nf x hx; omega, by have := h.nn; simp only [pushB]; omega, h.nw⟩
  · simp only [pushB]
    refine List.pairwise_append.2 ⟨h.ids, by simp, fun a ha b hb => ?_⟩
    simp only [List.mem_singleton] at hb
    subst hb
    have := (h.idr a ha).2
    show a.1 < (S.last : Int) + 1
    omega
  · intro r hr
    simp only [pushB, List.mem_append, List.mem_singleton] at hr ⊢
    rcases hr with hr | rfl
    · have := h.idr r hr; omega
    · show 1 ≤ (S.last : Int) + 1 ∧ (S.last : Int) + 1 ≤ ((S.last + 1 : Nat) : Int)
      omega
  · simp only [pushB]
    refine List.pairwise_append.2 ⟨h.keys, by simp, fun a ha b hb => ?_⟩
    simp only [List.mem_singleton] at hb
    subst hb
    exact hk a ha
  · intro r hr
    simp only [pushB, List.mem_append, List.mem_singleton] at hr
    rcases hr with hr | rfl
    · exact h.ok r hr
    · exact ht
theorem Ok.put {S : Bk} {n : Nat} (h : Ok S n) {t : AT} (ht : ATOk t) : Ok (putB S t) (n + 1) := by
  unfold putB
  split
  · exact h.more (by omega)
  · rename_i h0
    have h1 := h.drop t.k
    obtain ⟨h2, h3⟩ := h1.room (by rw [drop_lim]; exact h0)
    exact h2.push ht (by rw [room_lim]; exact h3) (fun r hr => drop_free h t.k r ((room_sub _).mem hr))
theorem updN_mem {L : List Nt} {i p : Int} {u : Nt → Nt} {x : Nt} (h : x ∈ updN L i p u) : x ∈ L ∨ (∃ y ∈ L, x = u y ∧ y.id = i ∧ y.op = p) ∨ x = u ⟨i, p, 0, 0⟩ := by
  induction L with
  | nil => simp [updN] at h; exact .inr (.inr h)
  | cons n L ih =>
    unfold updN at h
    split at h
    · rename_i hn
      rcases List.mem_cons.1 h with rfl | h
      · exact .inr (.inl ⟨n, by simp, rfl, hn.1, hn.2⟩)
      · exact .inl (by simp [h])
    · rcases List.mem_cons.1 h with rfl | h
      · exact .inl (by simp)
      · rcases ih h with h | ⟨y, hy, h⟩ | h
        · exact .inl (by simp [h])
        · exact .inr (.inl ⟨y, by simp [hy], h⟩)
        · exact .inr (.inr h)
theorem updN_len (L : List Nt) (i p : Int) (u : Nt → Nt) : (updN L i p u).length ≤ L.length + 1 := by
  induction L with
  | nil => simp [updN]
  | cons n L ih => unfold updN; split <;> simp_all
theorem updN_apart {L : List Nt} (h : L.Pairwise (fun a b => ¬ (a.id = b.id ∧ a.op = b.op))) (i p : Int) (u : Nt → Nt) (hu : ∀ n, (u n).id = n.id ∧ (u n).op = n.op) : (updN L i p u).Pairwise (fun a b => ¬ (a.id = b.id ∧ a.op = b.op)) := by
  induction L with
  | nil => simp [updN]
  | cons n L ih =>
    obtain ⟨h1, h2⟩ := List.pairwise_cons.1 h
    unfold updN
    split
    · exact List.pairwise_cons.2 ⟨fun b hb => by rw [(hu n).1, (hu n).2]; exact h1 b hb, h2⟩
    · rename_i hn
      refine List.pairwise_cons.2 ⟨fun b hb => ?_, ih h2⟩
      rcases updN_mem hb with hb | ⟨y, hy, rfl, e1, e2⟩ | rfl
      · exact h1 b hb
      · rw [(hu y).1, (hu y).2, e1, e2]; exact hn
      · rw [(hu _).1, (hu _).2]; exact hn
theorem Ok.upd {S : Bk} {n : Nat} (h : Ok S n) {i p : Int} (hi : W64 i) (hp : W64 p) {u : Nt → Nt} (hu : ∀ n, (u n).id = n.id ∧ (u n).op = n.op) (hf : ∀ x, (u x).f = x.f ∨ (u x).f = x.f + 1) (ht : ∀ x, W64 x.to → W64 (u x).to) : Ok { S with notes := updN S.notes i p u } (n + 1) := by
  have hz : W64 0 := w0
  refine ⟨h.lim, h.len, by have := h.last; simp only; omega, h.top, h.ids, h.idr, h.keys, h.ok, updN_apart h.apart _ _ _ hu, fun x hx => ?_, by have := updN_len S.notes i p u; have := h.nn; simp only; omega, fun x hx => ?_⟩
  · rcases updN_mem hx with hx | ⟨y, hy, rfl, _⟩ | rfl
    · have := h.nf x hx; omega
    · have := h.nf y hy; have := hf y; omega
    · have := hf ⟨i, p, 0, 0⟩; simp only at this; omega
  · rcases updN_mem hx with hx | ⟨y, hy, rfl, _⟩ | rfl
    · exact h.nw x hx
    · rw [(hu y).1, (hu y).2]; exact ⟨(h.nw y hy).1, (h.nw y hy).2.1, ht y (h.nw y hy).2.2⟩
    · rw [(hu _).1, (hu _).2]; exact ⟨hi, hp, ht _ hz⟩
theorem Ok.fail {S : Bk} {n : Nat} (h : Ok S n) {i p : Int} (hi : W64 i) (hp : W64 p) : Ok (failB S i p) (n + 1) := by
  unfold failB
  split
  · exact h.upd hi hp (fun n => ⟨rfl, rfl⟩) (fun x => .inr rfl) (fun x hx => hx)
  · exact h.more (by omega)
theorem Ok.link {S : Bk} {n : Nat} (h : Ok S n) {i p t : Int} (hi : W64 i) (hp : W64 p) (ht : W64 t) : Ok (linkB S i p t) (n + 1) := by
  unfold linkB
  split
  · exact h.upd hi hp (fun n => ⟨rfl, rfl⟩) (fun x => .inl rfl) (fun x hx => ht)
  · exact h.more (by omega)
theorem held_ne {S : Bk} {n : Nat} (h : Ok S n) {t : Int} (ht : heldB S t = true) : t ≠ 0 := by
  unfold heldB at ht
  rw [List.any_eq_true] at ht
  obtain ⟨r, hr, he⟩ := ht
  have := (h.idr r hr).1
  simp at he
  omega
theorem Ok.new (lim : Nat) (hl : lim ≤ 1000) (pk : List Int) : Ok ⟨lim, pk, [], [], 0, 0⟩ 0 :=
  ⟨hl, Nat.zero_le _, Nat.le_refl _, Nat.zero_le _, by simp, by simp, by simp, by simp, by simp, by simp, by simp, by simp⟩
end Go.Proofs.Ytnhjplfdfbbihaa
