/-
  A cache of the program as it lies; frames that let blocks of some types be written; no condition.
-/
import Derived.Test.YtnhjplfdfbbihaaCbD
namespace Go.Proofs.Ytnhjplfdfbbihaa
open Go.RowKit Go.Shelf Go.Maps Go.ChangeShapes
set_option linter.unusedVariables false
set_option linter.unusedSimpArgs false
/-- A frame: from B on blocks of some types may be written, and maps, if they may. -/
structure Gm (B : Nat) (p : TypeId → Bool) (m : Bool) (w w' : World) : Prop where
  os : w'.os = w.os
  tape : w'.tape = w.tape
  output : w'.output = w.output
  size : w.heap.size ≤ w'.heap.size
  block : ∀ i, i < w.heap.size → (i < B ∨ (∃ c t z, w.heap[i]? = some (.cells c t z) ∧ p t = false) ∨ (m = false ∧ ∃ es c, w.heap[i]? = some (.map es c))) → w'.heap[i]? = w.heap[i]?
theorem Gm.trans {B : Nat} {p : TypeId → Bool} {m : Bool} {a b c : World} (h : Gm B p m a b) (k : Gm B p m b c) : Gm B p m a c :=
  ⟨k.os.trans h.os, k.tape.trans h.tape, k.output.trans h.output, Nat.le_trans h.size k.size, fun i hi hq => by
    have e := h.block i hi hq
    exact (k.block i (Nat.lt_of_lt_of_le hi h.size) (by rw [e]; exact hq)).trans e⟩
theorem Gm.ofFr {B : Nat} {p : TypeId → Bool} {m : Bool} {S : List Nat} {w w' : World} (f : Fr S w w') (h : ∀ k ∈ S, w.heap.size ≤ k ∨ (B ≤ k ∧ ((∃ c t z, w.heap[k]? = some (.cells c t z) ∧ p t = true) ∨ (m = true ∧ ∃ es c, w.heap[k]? = some (.map es c))))) : Gm B p m w w' :=
  ⟨f.os, f.tape, f.output, f.size, fun i hi hq => f.block i hi (fun hm => by
    rcases h i hm with h1 | ⟨h1, h2⟩
    · omega
    · rcases hq with hq | ⟨c, t, z, e, hp⟩ | ⟨hf, es, c, e⟩
      · omega
      · rcases h2 with ⟨c', t', z', e', hp'⟩ | ⟨_, es, c', e'⟩
        · rw [e] at e'; cases e'; rw [hp] at hp'; cases hp'
        · rw [e] at e'; cases e'
      · rcases h2 with ⟨c', t', z', e', hp'⟩ | ⟨ht, _⟩
        · rw [e] at e'; cases e'
        · rw [hf] at ht; cases ht)⟩
theorem Gm.ofFr0 {B : Nat} {p : TypeId → Bool} {m : Bool} {w w' : World} (f : Fr [] w w') : Gm B p m w w' := Gm.ofFr f (by simp)
theorem Gm.refl (B : Nat) (p : TypeId → Bool) (m : Bool) (w : World) : Gm B p m w w := Gm.ofFr0 (Fr.refl _ _)
theorem Gm.toFr {B : Nat} {p : TypeId → Bool} {m : Bool} {w w' : World} (h : Gm B p m w w') (hB : w.heap.size ≤ B) : Fr [] w w' := ⟨h.os, h.tape, h.output, h.size, fun i hi _ => h.block i hi (.inl (by omega))⟩
theorem Fr.overM {B : Nat} {p : TypeId → Bool} {m : Bool} {a b c : World} (h : Fr [] a b) (k : Gm B p m b c) (hB : a.heap.size ≤ B) : Fr [] a c :=
  ⟨k.os.trans h.os, k.tape.trans h.tape, k.output.trans h.output, Nat.le_trans h.size k.size, fun i hi hS => (k.block i (Nat.lt_of_lt_of_le hi h.size) (.inl (by omega))).trans (h.block i hi hS)⟩
theorem SL.keep {w w' : World} {B : Nat} {e : TypeId} {a : Option Addr} {n c m y : Nat} {xs : List Value} (h : SL w B e a n c m y xs) (hk : ∀ b, b < w.heap.size → okb w B e b → w'.heap[b]? = w.heap[b]?) : SL w' B e a n c m y xs :=
  ⟨h.ro, h.len, h.nn, h.le, h.fit, fun j u hu => by
    obtain ⟨b, o, e1, hc, hb⟩ := h.cell j u hu
    have hlt : b < w.heap.size := by
      unfold World.cell? at hc
      cases e2 : w.heap[b]? with
      | none => rw [e2] at hc; simp at hc
      | some x => exact (Array.getElem?_eq_some_iff.1 e2).1
    have hs := hk b hlt hb
    refine ⟨b, o, e1, ?_, hb.imp id (fun ⟨c, hc⟩ => ⟨c, hs.trans hc⟩)⟩
    unfold World.cell? at hc ⊢
    rw [hs]
    exact hc⟩
theorem okb.gm {B : Nat} {p : TypeId → Bool} {m : Bool} {w w' : World} (g : Gm B p m w w') (hp : ∀ t, roT t = true → p t = false) {e : TypeId} (he : roT e = true) : ∀ b, b < w.heap.size → okb w B e b → w'.heap[b]? = w.heap[b]? := fun b hl hb => g.block b hl (hb.imp id (fun ⟨c, hc⟩ => .inl ⟨c, e, _, hc, hp e he⟩))
theorem SL.gm {B : Nat} {p : TypeId → Bool} {m : Bool} {w w' : World} {e : TypeId} {a : Option Addr} {n c k y : Nat} {xs : List Value} (h : SL w B e a n c k y xs) (g : Gm B p m w w') (hp : ∀ t, roT t = true → p t = false) : SL w' B e a n c k y xs := h.keep (okb.gm g hp h.ro)
theorem ElOk.gm {B : Nat} {p : TypeId → Bool} {m : Bool} {w w' : World} {np nq : Nat} {e : El} (h : ElOk w B np nq e) (g : Gm B p m w w') (hp : ∀ t, roT t = true → p t = false) : ElOk w' B np nq e := ⟨h.hp, h.hq, h.sl.gm g hp⟩
theorem TrOk.gm {B : Nat} {p : TypeId → Bool} {m : Bool} {w w' : World} {t : Tr} (h : TrOk w B t) (g : Gm B p m w w') (hp : ∀ t, roT t = true → p t = false) : TrOk w' B t :=
  ⟨h.ins.gm g hp, h.ops.gm g hp, fun e he => (h.opl e he).gm g hp, h.links.gm g hp, fun e he => (h.linkl e he).gm g hp, h.virts.gm g hp, fun e he => (h.virtl e he).gm g hp, h.back.gm g hp⟩
def pP (t : TypeId) : Bool := t == 64 || t == 83
def pR (t : TypeId) : Bool := t == 48 || t == 52 || t == 101
theorem pP_ro (t : TypeId) (h : roT t = true) : pP t = false := by
  simp only [roT, pP, Bool.or_eq_true, beq_iff_eq] at h ⊢
  rcases h with (((rfl | rfl) | rfl) | rfl) | rfl <;> rfl
theorem pR_ro (t : TypeId) (h : roT t = true) : pR t = false := by
  simp only [roT, pR, Bool.or_eq_true, beq_iff_eq] at h ⊢
  rcases h with (((rfl | rfl) | rfl) | rfl) | rfl <;> rfl
theorem own_gm {B0 n size : Nat} {w w' : World} {B : Nat} {p : TypeId → Bool} {m : Bool} {e : TypeId} {sv : Value} {xs : List Value} (h : w.ownsRow B0 e size sv n xs) (g : Gm B p m w w') (hp : p e = false) : w'.ownsRow B0 e size sv n xs := by
  obtain ⟨h1, h2⟩ := h
  refine ⟨h1, h2.imp id ?_⟩
  rintro ⟨b, cap, cur, e1, hb, hg, r⟩
  exact ⟨b, cap, cur, e1, hb, (g.block b (Array.getElem?_eq_some_iff.1 hg).1 (.inr (.inl ⟨_, _, _, hg, hp⟩))).trans hg, r⟩
theorem SM.gm {B : Nat} {p : TypeId → Bool} {w w' : World} {mb N : Nat} {f : Int → Int → Option Int} (h : SM w mb N f) (g : Gm B p false w w') : SM w' mb N f := by
  obtain ⟨es, c, hb⟩ := h.blk
  exact h.ofBlock (g.block mb h.lt (.inr (.inr ⟨rfl, es, c, hb⟩)))
theorem HM.gm {B : Nat} {p : TypeId → Bool} {w w' : World} {mb N : Nat} {rs : List Rt} (h : HM w mb N rs) (g : Gm B p false w w') : HM w' mb N rs := by
  obtain ⟨D, ⟨es, clock, hb, r⟩, hD⟩ := h.ex
  exact ⟨D, ⟨es, clock, (g.block mb (Array.getElem?_eq_some_iff.1 hb).1 (.inr (.inr ⟨rfl, es, clock, hb⟩))).trans hb, r⟩, hD⟩
/-- A row told by its number and its key. -/
def mb (r : Rt) : Mb := (r.1, r.2.k)
def absR (r : Rt) : Int × AT := (r.1, r.2.abs)
/-- The parts of a cache of the program. -/
structure CP (w : World) (B c : Nat) (pa : Option Addr) (pcap hb : Nat) (ov : Value) (fb lb : Nat) (lim : Nat) (pk : List Int) (last top n : Nat) (rs : List Rt) (ms : List Mb) (F L : Int → Int → Option Int) : Prop where
  blk : w.heap[c]? = some (.cells #[.int .i64 lim, .slice pa pk.length pcap, .map (some hb), ov, .map (some fb), .map (some lb), .int .i64 last, .int .i64 top] 64 (0, 0))
  pick : SL w B 3 pa pk.length pcap 1 8 (pk.map (Value.int .i64))
  held : HM w hb n rs
  ord : w.ownsRow B 83 11 ov ms.length (flatM ms)
  fails : SM w fb n F
  links : SM w lb n L
  trs : ∀ r ∈ rs, TrOk w B r.2
  ne1 : hb ≠ fb
  ne2 : hb ≠ lb
  ne3 : fb ≠ lb
  cB : B ≤ c
  hB : B ≤ hb
  fB : B ≤ fb
  lB : B ≤ lb
section
variable {w w' : World} {B c : Nat} {pa : Option Addr} {pcap hb : Nat} {ov : Value} {fb lb lim : Nat} {pk : List Int} {last top n : Nat} {rs : List Rt} {ms : List Mb} {F L : Int → Int → Option Int}
theorem away_map {w : World} {B k : Nat} {es : Array MapEntry} {cl : Nat} (hk : w.heap[k]? = some (.map es cl)) (hB : B ≤ k) : Away w B [k] := fun j hj => by
  have : j = k := by simpa using hj
  subst this
  exact ⟨hB, fun c t h => by rw [hk] at h; cases h⟩
theorem away_cells {w : World} {B k : Nat} {c : Array Value} {t : TypeId} {z : Nat × Nat} (hk : w.heap[k]? = some (.cells c t z)) (ht : roT t = false) (hB : B ≤ k) : Away w B [k] := fun j hj => by
  have : j = k := by simpa using hj
  subst this
  exact ⟨hB, fun c t h => by rw [hk] at h; cases h; exact ht⟩
theorem own_notmap {w : World} {B n : Nat} {e0 : TypeId} {size : Nat} {sv : Value} {xs : List Value} (h : w.ownsRow B e0 size sv n xs) {k : Nat} {es : Array MapEntry} {cl : Nat} (hk : w.heap[k]? = some (.map es cl)) : ∀ j, sv.ownBlock = some j → j ∉ [k] := fun j hj hm => by
  have : j = k := by simpa using hm
  subst this
  exact own_notloop h hk (by intros; simp) hj
theorem CP.fr0 (h : CP w B c pa pcap hb ov fb lb lim pk last top n rs ms F L) (f : Fr [] w w') : CP w' B c pa pcap hb ov fb lb lim pk last top n rs ms F L :=
  ⟨(f.block c (Array.getElem?_eq_some_iff.1 h.blk).1 (by simp)).trans h.blk, h.pick.fr f (Away.nil _ _), h.held.fr f (by simp), own_fr h.ord f (by simp), h.fails.fr f (by simp), h.links.fr f (by simp), fun r hr => (h.trs r hr).fr0 f, h.ne1, h.ne2, h.ne3, h.cB, h.hB, h.fB, h.lB⟩
theorem CP.gm (h : CP w B c pa pcap hb ov fb lb lim pk last top n rs ms F L) (f : Gm B pR false w w') : CP w' B c pa pcap hb ov fb lb lim pk last top n rs ms F L :=
  ⟨(f.block c (Array.getElem?_eq_some_iff.1 h.blk).1 (.inr (.inl ⟨_, _, _, h.blk, rfl⟩))).trans h.blk, h.pick.gm f pR_ro, h.held.gm f, own_gm h.ord f rfl, h.fails.gm f, h.links.gm f, fun r hr => (h.trs r hr).gm f pR_ro, h.ne1, h.ne2, h.ne3, h.cB, h.hB, h.fB, h.lB⟩
/-- The map of what is held is another one. -/
theorem CP.setHeld (h : CP w B c pa pcap hb ov fb lb lim pk last top n rs ms F L) (f : Fr [hb] w w') {rs' : List Rt} {m : Nat} (hn : n ≤ m) (hh : HM w' hb m rs') (hr : ∀ r ∈ rs', r ∈ rs ∨ TrOk w B r.2) : CP w' B c pa pcap hb ov fb lb lim pk last top m rs' ms F L := by
  obtain ⟨es, cl, hk⟩ := h.held.blk
  have hA := away_map hk h.hB
  have hc : c ≠ hb := by rintro rfl; rw [h.blk] at hk; cases hk
  exact ⟨(f.block c (Array.getElem?_eq_some_iff.1 h.blk).1 (by simpa using hc)).trans h.blk, h.pick.fr f hA, hh, own_fr h.ord f (own_notmap h.ord hk), (h.fails.fr f (by simpa using h.ne1.symm)).more hn, (h.links.fr f (by simpa using h.ne2.symm)).more hn, fun r hr' => (by
    rcases hr r hr' with h1 | h1
    · exact (h.trs r h1).fr f hA
    · exact h1.fr f hA), h.ne1, h.ne2, h.ne3, h.cB, h.hB, h.fB, h.lB⟩
theorem CP.setFails (h : CP w B c pa pcap hb ov fb lb lim pk last top n rs ms F L) (f : Fr [fb] w w') {F' : Int → Int → Option Int} {m : Nat} (hn : n ≤ m) (hh : SM w' fb m F') : CP w' B c pa pcap hb ov fb lb lim pk last top m rs ms F' L := by
  obtain ⟨es, cl, hk⟩ := h.fails.blk
  have hA := away_map hk h.fB
  have hc : c ≠ fb := by rintro rfl; rw [h.blk] at hk; cases hk
  exact ⟨(f.block c (Array.getElem?_eq_some_iff.1 h.blk).1 (by simpa using hc)).trans h.blk, h.pick.fr f hA, (h.held.fr f (by simpa using h.ne1)).more hn, own_fr h.ord f (own_notmap h.ord hk), hh, (h.links.fr f (by simpa using h.ne3.symm)).more hn, fun r hr => (h.trs r hr).fr f hA, h.ne1, h.ne2, h.ne3, h.cB, h.hB, h.fB, h.lB⟩
theorem CP.setLinks (h : CP w B c pa pcap hb ov fb lb lim pk last top n rs ms F L) (f : Fr [lb] w w') {L' : Int → Int → Option Int} {m : Nat} (hn : n ≤ m) (hh : SM w' lb m L') : CP w' B c pa pcap hb ov fb lb lim pk last top m rs ms F L' := by
  obtain ⟨es, cl, hk⟩ := h.links.blk
  have hA := away_map hk h.lB
  have hc : c ≠ lb := by rintro rfl; rw [h.blk] at hk; cases hk
  exact ⟨(f.block c (Array.getElem?_eq_some_iff.1 h.blk).1 (by simpa using hc)).trans h.blk, h.pick.fr f hA, (h.held.fr f (by simpa using h.ne2)).more hn, own_fr h.ord f (own_notmap h.ord hk), (h.fails.fr f (by simpa using h.ne3)).more hn, hh, fun r hr => (h.trs r hr).fr f hA, h.ne1, h.ne2, h.ne3, h.cB, h.hB, h.fB, h.lB⟩
/-- Cells of the cache's own block are written: its order, its picks, its numbers. -/
theorem CP.setBlk (h : CP w B c pa pcap hb ov fb lb lim pk last top n rs ms F L) (f : Fr [c] w w') {pa' : Option Addr} {pcap' : Nat} {pk' : List Int} {last' top' : Nat} {ov' : Value}
    (hb' : w'.heap[c]? = some (.cells #[.int .i64 lim, .slice pa' pk'.length pcap', .map (some hb), ov', .map (some fb), .map (some lb), .int .i64 last', .int .i64 top'] 64 (0, 0)))
    (hp : SL w B 3 pa' pk'.length pcap' 1 8 (pk'.map (Value.int .i64))) (ho : ov' = ov) : CP w' B c pa' pcap' hb ov' fb lb lim pk' last' top' n rs ms F L := by
  subst ho
  have hA := away_cells h.blk rfl h.cB
  obtain ⟨es1, cl1, hk1⟩ := h.held.blk
  obtain ⟨es2, cl2, hk2⟩ := h.fails.blk
  obtain ⟨es3, cl3, hk3⟩ := h.links.blk
  have hc1 : hb ≠ c := by rintro rfl; rw [h.blk] at hk1; cases hk1
  have hc2 : fb ≠ c := by rintro rfl; rw [h.blk] at hk2; cases hk2
  have hc3 : lb ≠ c := by rintro rfl; rw [h.blk] at hk3; cases hk3
  exact ⟨hb', hp.fr f hA, h.held.fr f (by simpa using hc1), own_fr h.ord f (fun k hk hm => by
    have : k = c := by simpa using hm
    subst this
    exact own_ne h.ord h.blk (by decide) hk), h.fails.fr f (by simpa using hc2), h.links.fr f (by simpa using hc3), fun r hr => (h.trs r hr).fr f hA, h.ne1, h.ne2, h.ne3, h.cB, h.hB, h.fB, h.lB⟩
/-- The order is written, the cache's own block behind it. -/
theorem CP.setOrd (h : CP w B c pa pcap hb ov fb lb lim pk last top n rs ms F L) {T : List Nat} {w1 : World} (f1 : Fr T w w1) (hT : ∀ k ∈ T, ov.ownBlock = some k) {ov' : Value} {ms' : List Mb} (ho : w1.ownsRow B 83 11 ov' ms'.length (flatM ms')) {last' top' : Nat} (f2 : Fr [c] w1 w')
    (hb' : w'.heap[c]? = some (.cells #[.int .i64 lim, .slice pa pk.length pcap, .map (some hb), ov', .map (some fb), .map (some lb), .int .i64 last', .int .i64 top'] 64 (0, 0))) : CP w' B c pa pcap hb ov' fb lb lim pk last' top' n rs ms' F L := by
  have hA : Away w B T := fun k hk => by
    have hk := hT k hk
    rcases h.ord.2 with ⟨e1, _⟩ | ⟨g, cap, cur, e1, hbg, hg, _⟩
    · rw [e1] at hk; cases hk
    · rw [e1] at hk
      cases hk
      exact ⟨hbg, fun c t hc => by rw [hg] at hc; cases hc; rfl⟩
  have hm : ∀ {k : Nat} {es : Array MapEntry} {cl : Nat}, w.heap[k]? = some (.map es cl) → k ∉ T := fun hk hmem => own_notloop h.ord hk (by intros; simp) (hT _ hmem)
  obtain ⟨es1, cl1, hk1⟩ := h.held.blk
  obtain ⟨es2, cl2, hk2⟩ := h.fails.blk
  obtain ⟨es3, cl3, hk3⟩ := h.links.blk
  have hcT : c ∉ T := fun hmem => own_ne h.ord h.blk (by decide) (hT _ hmem)
  have hb1 := (f1.block c (Array.getElem?_eq_some_iff.1 h.blk).1 hcT).trans h.blk
  have hA2 := away_cells hb1 rfl h.cB
  have hc1 : hb ≠ c := by rintro rfl; rw [h.blk] at hk1; cases hk1
  have hc2 : fb ≠ c := by rintro rfl; rw [h.blk] at hk2; cases hk2
  have hc3 : lb ≠ c := by rintro rfl; rw [h.blk] at hk3; cases hk3
  exact ⟨hb', (h.pick.fr f1 hA).fr f2 hA2, (h.held.fr f1 (hm hk1)).fr f2 (by simpa using hc1), own_fr ho f2 (fun k hk hm => by
    have : k = c := by simpa using hm
    subst this
    exact own_ne ho hb1 (by decide) hk), (h.fails.fr f1 (hm hk2)).fr f2 (by simpa using hc2), (h.links.fr f1 (hm hk3)).fr f2 (by simpa using hc3), fun r hr => ((h.trs r hr).fr f1 hA).fr f2 hA2, h.ne1, h.ne2, h.ne3, h.cB, h.hB, h.fB, h.lB⟩
/-- What is written of a cache is what may be written. -/
theorem CP.gmHeld (h : CP w B c pa pcap hb ov fb lb lim pk last top n rs ms F L) (f : Fr [hb] w w') : Gm B pP true w w' := by
  obtain ⟨es, cl, hk⟩ := h.held.blk
  exact Gm.ofFr f (fun k hm => by
    have : k = hb := by simpa using hm
    subst this
    exact .inr ⟨h.hB, .inr ⟨rfl, es, cl, hk⟩⟩)
theorem CP.gmFails (h : CP w B c pa pcap hb ov fb lb lim pk last top n rs ms F L) (f : Fr [fb] w w') : Gm B pP true w w' := by
  obtain ⟨es, cl, hk⟩ := h.fails.blk
  exact Gm.ofFr f (fun k hm => by
    have : k = fb := by simpa using hm
    subst this
    exact .inr ⟨h.fB, .inr ⟨rfl, es, cl, hk⟩⟩)
theorem CP.gmLinks (h : CP w B c pa pcap hb ov fb lb lim pk last top n rs ms F L) (f : Fr [lb] w w') : Gm B pP true w w' := by
  obtain ⟨es, cl, hk⟩ := h.links.blk
  exact Gm.ofFr f (fun k hm => by
    have : k = lb := by simpa using hm
    subst this
    exact .inr ⟨h.lB, .inr ⟨rfl, es, cl, hk⟩⟩)
theorem CP.gmBlk (h : CP w B c pa pcap hb ov fb lb lim pk last top n rs ms F L) (f : Fr [c] w w') : Gm B pP true w w' :=
  Gm.ofFr f (fun k hm => by
    have : k = c := by simpa using hm
    subst this
    exact .inr ⟨h.cB, .inl ⟨_, _, _, h.blk, rfl⟩⟩)
theorem CP.gmOrd (h : CP w B c pa pcap hb ov fb lb lim pk last top n rs ms F L) {T : List Nat} {w1 : World} (f1 : Fr T w w1) (hT : ∀ k ∈ T, ov.ownBlock = some k) (f2 : Fr [c] w1 w') : Gm B pP true w w' := by
  have hcT : c ∉ T := fun hmem => own_ne h.ord h.blk (by decide) (hT _ hmem)
  have hb1 := (f1.block c (Array.getElem?_eq_some_iff.1 h.blk).1 hcT).trans h.blk
  refine Gm.trans (Gm.ofFr f1 (fun k hk => ?_)) (Gm.ofFr f2 (fun k hm => ?_))
  · have hk := hT k hk
    rcases h.ord.2 with ⟨e1, _⟩ | ⟨g, cap, cur, e1, hbg, hg, _⟩
    · rw [e1] at hk; cases hk
    · rw [e1] at hk
      cases hk
      exact .inr ⟨hbg, .inl ⟨_, _, _, hg, rfl⟩⟩
  · have : k = c := by simpa using hm
    subst this
    exact .inr ⟨h.cB, .inl ⟨_, _, _, hb1, rfl⟩⟩
end
/-- A cache of the program, as it lies. -/
structure CA (w : World) (B c n : Nat) (rs : List Rt) (S : Bk) : Prop where
  ex : ∃ pa pcap hb ov fb lb, CP w B c pa pcap hb ov fb lb S.lim S.pk S.last S.top n rs (rs.map mb) (failsF S.notes) (linksF S.notes)
  abs : rs.map absR = S.rows
theorem CA.fr0 {w w' : World} {B c n : Nat} {rs : List Rt} {S : Bk} (h : CA w B c n rs S) (f : Fr [] w w') : CA w' B c n rs S := by
  obtain ⟨pa, pcap, hb, ov, fb, lb, hp⟩ := h.ex
  exact ⟨⟨_, _, _, _, _, _, hp.fr0 f⟩, h.abs⟩
theorem CA.gm {w w' : World} {B c n : Nat} {rs : List Rt} {S : Bk} (h : CA w B c n rs S) (f : Gm B pR false w w') : CA w' B c n rs S := by
  obtain ⟨pa, pcap, hb, ov, fb, lb, hp⟩ := h.ex
  exact ⟨⟨_, _, _, _, _, _, hp.gm f⟩, h.abs⟩
end Go.Proofs.Ytnhjplfdfbbihaa
