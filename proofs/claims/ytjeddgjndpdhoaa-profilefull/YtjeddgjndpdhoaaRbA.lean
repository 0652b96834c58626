/-
  The document's book as it lies: its rows and who is out; a frame that lets rows be written; conditions: keys are numbers of 64 bits.
-/
import Derived.Test.YtjeddgjndpdhoaaBanP
import Derived.Deep.Cut
namespace Go.Proofs.Ytjeddgjndpdhoaa
open Go.RowKit Go.Shelf Go.Maps Go.ChangeShapes
set_option linter.unusedVariables false
set_option linter.unusedSimpArgs false

section flat
variable {α : Type} {f : α → List Value} {m : Nat}
theorem flat_len (hf : ∀ y, (f y).length = m) : ∀ L : List α, (L.flatMap f).length = L.length * m
  | [] => by simp
  | y :: L => by rw [List.flatMap_cons, List.length_append, hf, flat_len hf L, List.length_cons, Nat.add_mul]; omega
theorem flat_at (hf : ∀ y, (f y).length = m) : ∀ {L : List α} {i : Nat} {y : α}, L[i]? = some y → ∀ {j : Nat} {u : Value}, (f y)[j]? = some u → (L.flatMap f)[i * m + j]? = some u
  | [], i, y, h, _, _, _ => by simp at h
  | x :: L, 0, y, h, j, u, hj => by
    simp at h
    subst h
    have := (List.getElem?_eq_some_iff.1 hj).1
    rw [List.flatMap_cons, Nat.zero_mul, Nat.zero_add, List.getElem?_append_left this]
    exact hj
  | x :: L, i + 1, y, h, j, u, hj => by
    have ih := flat_at hf (L := L) (i := i) (by simpa using h) hj
    rw [List.flatMap_cons, List.getElem?_append_right (by rw [hf, Nat.add_mul]; omega), hf, Nat.add_mul, show i * m + 1 * m + j - m = i * m + j by omega]
    exact ih
theorem flat_take (hf : ∀ y, (f y).length = m) : ∀ (L : List α) (i : Nat), (L.flatMap f).take (i * m) = (L.take i).flatMap f
  | [], i => by simp
  | x :: L, 0 => by simp
  | x :: L, i + 1 => by
    rw [List.flatMap_cons, List.take_succ_cons, List.flatMap_cons, List.take_append, hf, Nat.add_mul, show i * m + 1 * m - m = i * m by omega, flat_take hf L i, List.take_of_length_le (by rw [hf]; omega)]
theorem flat_drop (hf : ∀ y, (f y).length = m) : ∀ (L : List α) (i : Nat), (L.flatMap f).drop (i * m) = (L.drop i).flatMap f
  | [], i => by simp
  | x :: L, 0 => by simp
  | x :: L, i + 1 => by
    rw [List.flatMap_cons, List.drop_succ_cons, List.drop_append, hf, Nat.add_mul, show i * m + 1 * m - m = i * m by omega, flat_drop hf L i, List.drop_of_length_le (by rw [hf]; omega), List.nil_append]
theorem own_at {w : World} {B : Nat} {e : TypeId} {v : Value} {L : List α} (hf : ∀ y, (f y).length = m) (h : w.ownsRow B e m v L.length (L.flatMap f)) {i : Nat} {y : α} (hi : L[i]? = some y) :
    ∃ g c, v = .slice (some ⟨g, 0, none⟩) L.length c ∧ w.rangeAt g (i * m) (f y) ∧ g < w.heap.size ∧ (∀ i, w.frozen? ⟨g, i, none⟩ = false) ∧ B ≤ g ∧ ∃ cur, w.heap[g]? = some (.cells cur e (0, 0)) := by
  have hlt := (List.getElem?_eq_some_iff.1 hi).1
  rcases h.2 with ⟨_, e2⟩ | ⟨g, cap, cur, e1, hb, hg, hnc, hcm, hcs, ht⟩
  · omega
  · refine ⟨g, cap, e1, ?_, (Array.getElem?_eq_some_iff.1 hg).1, fun i => by simp [World.frozen?, hg], hb, cur, hg⟩
    intro j u hu
    have hx := flat_at hf hi hu
    rw [← ht] at hx
    have hx2 : cur.toList[i * m + j]? = some u := by
      rw [List.getElem?_take] at hx
      split at hx
      · exact hx
      · cases hx
    exact at_cells hg _ (by simpa using hx2)
end flat
/-- The cells of a row of the document's book. -/
def rc (r : Rw) : List Value := (kc r.k).toList ++ [.int .i64 r.n]
theorem rc_len (r : Rw) : (rc r).length = 11 := by simp [rc, kc_size]
def kcl (k : Ky) : List Value := (kc k).toList
theorem kcl_len (k : Ky) : (kcl k).length = 10 := by simp [kcl, kc_size]
/-- The document's book as it lies. -/
structure RBk (B : Nat) (w : World) (rb : Nat) (S : Bk) : Prop where
  ex : ∃ sv so, w.heap[rb]? = some (.cells #[sv, so, .int .i64 S.thr] 46 (0, 0)) ∧ w.ownsRow B 64 11 sv S.L.length (S.L.flatMap rc) ∧ w.ownsRow B 28 10 so S.O.length (S.O.flatMap kcl)
theorem own_type {w : World} {B n : Nat} {e : TypeId} {size : Nat} {sv : Value} {xs : List Value} (h : w.ownsRow B e size sv n xs) {k : Nat} (hk : sv.ownBlock = some k) : B ≤ k ∧ ∃ cur, w.heap[k]? = some (.cells cur e (0, 0)) := by
  rcases h.2 with ⟨rfl, _⟩ | ⟨g, cap, cur, rfl, hb, hg, _⟩
  · cases hk
  · cases hk
    exact ⟨hb, cur, hg⟩
theorem RBk.fr {B : Nat} {T : List Nat} {w w' : World} {rb : Nat} {S : Bk} (h : RBk B w rb S) (f : Fr T w w') (h1 : rb ∉ T) (h2 : ∀ k ∈ T, k < B ∨ w.heap.size ≤ k ∨ ∀ c t z, w.heap[k]? = some (.cells c t z) → t ≠ 64 ∧ t ≠ 28) : RBk B w' rb S := by
  obtain ⟨sv, so, hb, h3, h4⟩ := h.ex
  refine ⟨sv, so, (f.block _ (Array.getElem?_eq_some_iff.1 hb).1 h1).trans hb, own_fr h3 f ?_, own_fr h4 f ?_⟩
  · intro k hk hm
    obtain ⟨hB, cur, hc⟩ := own_type h3 hk
    have hlt := (Array.getElem?_eq_some_iff.1 hc).1
    rcases h2 k hm with h | h | h
    · omega
    · omega
    · exact (h _ _ _ hc).1 rfl
  · intro k hk hm
    obtain ⟨hB, cur, hc⟩ := own_type h4 hk
    have hlt := (Array.getElem?_eq_some_iff.1 hc).1
    rcases h2 k hm with h | h | h
    · omega
    · omega
    · exact (h _ _ _ hc).2 rfl
theorem RBk.fr0 {B : Nat} {w w' : World} {rb : Nat} {S : Bk} (h : RBk B w rb S) (f : Fr [] w w') : RBk B w' rb S := h.fr f (by simp) (by simp)
/-- A frame: rows of some types may be written, from B on. -/
structure Gr (B : Nat) (p : TypeId → Bool) (T : List Nat) (w w' : World) : Prop where
  os : w'.os = w.os
  tape : w'.tape = w.tape
  output : w'.output = w.output
  size : w.heap.size ≤ w'.heap.size
  block : ∀ i, i < w.heap.size → i ∉ T → (i < B ∨ ∀ c t z, w.heap[i]? = some (.cells c t z) → p t = false) → w'.heap[i]? = w.heap[i]?
theorem Gr.trans {B : Nat} {p : TypeId → Bool} {T : List Nat} {a b c : World} (h : Gr B p T a b) (k : Gr B p T b c) : Gr B p T a c :=
  ⟨k.os.trans h.os, k.tape.trans h.tape, k.output.trans h.output, Nat.le_trans h.size k.size, fun i hi hT hq => by
    have e := h.block i hi hT hq
    exact (k.block i (Nat.lt_of_lt_of_le hi h.size) hT (by rw [e]; exact hq)).trans e⟩
theorem Gr.ofFr {B : Nat} {p : TypeId → Bool} {T S : List Nat} {w w' : World} (f : Fr S w w') (h : ∀ k ∈ S, k ∈ T ∨ w.heap.size ≤ k ∨ (B ≤ k ∧ ∃ c t z, w.heap[k]? = some (.cells c t z) ∧ p t = true)) : Gr B p T w w' :=
  ⟨f.os, f.tape, f.output, f.size, fun i hi hT hq => f.block i hi (fun hm => by
    rcases h i hm with h1 | h1 | ⟨h1, c, t, z, h2, h3⟩
    · exact hT h1
    · omega
    · rcases hq with hq | hq
      · omega
      · rw [hq c t z h2] at h3; cases h3)⟩
theorem Gr.sub {B : Nat} {p : TypeId → Bool} {T T' : List Nat} {w w' : World} (f : Gr B p T w w') (h : ∀ k ∈ T, k ∈ T' ∨ w.heap.size ≤ k) : Gr B p T' w w' :=
  ⟨f.os, f.tape, f.output, f.size, fun i hi hT hq => f.block i hi (fun hm => by rcases h i hm with h1 | h1; exact hT h1; omega) hq⟩
theorem Gr.wide {B : Nat} {p q : TypeId → Bool} {T : List Nat} {w w' : World} (f : Gr B p T w w') (h : ∀ t, p t = true → q t = true) : Gr B q T w w' :=
  ⟨f.os, f.tape, f.output, f.size, fun i hi hT hq => f.block i hi hT (hq.imp id (fun h1 c t z hc => by have := h1 c t z hc; cases e : p t with | false => rfl | true => rw [h t e] at this; cases this))⟩
theorem Fr.overG {B : Nat} {p : TypeId → Bool} {T : List Nat} {a b c : World} (h : Fr [] a b) (k : Gr B p T b c) (hB : a.heap.size ≤ B) (hT : ∀ i ∈ T, a.heap.size ≤ i) : Fr [] a c :=
  ⟨k.os.trans h.os, k.tape.trans h.tape, k.output.trans h.output, Nat.le_trans h.size k.size, fun i hi hS => (k.block i (Nat.lt_of_lt_of_le hi h.size) (fun hm => by have := hT i hm; omega) (.inl (by omega))).trans (h.block i hi hS)⟩
theorem BA.gr {B : Nat} {p : TypeId → Bool} {T : List Nat} {w w' : World} {b mb bb : Nat} {S : Bk} (h : BA w b mb bb S) (f : Gr B p T w w') (hp : p 54 = false) (h1 : b ∉ T) (h2 : mb ∉ T) (h3 : bb ∉ T) : BA w' b mb bb S := by
  refine ⟨(f.block b (Array.getElem?_eq_some_iff.1 h.blk).1 h1 (.inr (fun c t z hc => by rw [h.blk] at hc; cases hc; exact hp))).trans h.blk, ?_, ?_, h.ne, h.thr⟩
  · obtain ⟨D, ⟨es, clock, hb, r⟩, hD⟩ := h.cm.ex
    exact ⟨D, ⟨es, clock, (f.block mb (Array.getElem?_eq_some_iff.1 hb).1 h2 (.inr (fun c t z hc => by rw [hb] at hc; cases hc))).trans hb, r⟩, hD⟩
  · obtain ⟨D, ⟨es, clock, hb, r⟩, hD⟩ := h.bm.ex
    exact ⟨D, ⟨es, clock, (f.block bb (Array.getElem?_eq_some_iff.1 hb).1 h3 (.inr (fun c t z hc => by rw [hb] at hc; cases hc))).trans hb, r⟩, hD⟩
/-- A key's place in the rows. -/
def fnd (L : List Rw) (k : Ky) : Int := match L.findIdx? (fun r => decide (r.k = k)) with
  | some i => i
  | none => -1
theorem fnd_at {L : List Rw} {k : Ky} {j : Nat} {r : Rw} (h : L[j]? = some r) (hk : r.k = k) (hb : ∀ p q, p < j → L[p]? = some q → q.k ≠ k) : fnd L k = j := by
  have : L.findIdx? (fun r => decide (r.k = k)) = some j := by
    rw [List.findIdx?_eq_some_iff_getElem]
    obtain ⟨h1, h2⟩ := List.getElem?_eq_some_iff.1 h
    refine ⟨h1, by rw [h2]; simp [hk], fun p hp => ?_⟩
    simpa using hb p _ hp (List.getElem?_eq_getElem (by omega))
  simp [fnd, this]
theorem fnd_no {L : List Rw} {k : Ky} (hb : ∀ (p : Nat) (q : Rw), L[p]? = some q → q.k ≠ k) : fnd L k = -1 := by
  have : L.findIdx? (fun r => decide (r.k = k)) = none := by
    rw [List.findIdx?_eq_none_iff]
    intro x hx
    obtain ⟨p, hp⟩ := List.getElem?_of_mem hx
    simpa using hb p x hp
  simp [fnd, this]
theorem fnd_has {L : List Rw} {k : Ky} (hn : Nd L) (h : hasL L k = true) : ∃ (i : Nat) (r : Rw), L[i]? = some r ∧ r.k = k ∧ fnd L k = i ∧ rowOf L k = some r := by
  unfold hasL at h
  cases e : rowOf L k with
  | none => rw [e] at h; cases h
  | some r =>
    obtain ⟨hm, hk⟩ := mem_of_row e
    obtain ⟨i, hi⟩ := List.getElem?_of_mem hm
    refine ⟨i, r, hi, hk, fnd_at hi hk ?_, rfl⟩
    intro p q hp hq e2
    obtain ⟨a1, a2⟩ := List.getElem?_eq_some_iff.1 hi
    obtain ⟨b1, b2⟩ := List.getElem?_eq_some_iff.1 hq
    have := (List.pairwise_iff_getElem.1 hn) p i b1 a1 hp
    rw [a2, b2, hk, e2] at this
    exact this rfl
theorem fnd_hasnt {L : List Rw} {k : Ky} (h : hasL L k = false) : fnd L k = -1 := fnd_no fun p q hq e => by
  have := has_iff.2 ⟨q, List.mem_of_getElem? hq, e⟩
  rw [h] at this
  cases this
theorem info64 : (Try.prog.info? 64).map (·.size) = some 11 := by kernel_rfl
def ra (r : Rw) : Array Value := (rc r).toArray
theorem ra_size (r : Rw) : (ra r).size = 11 := by simp [ra, rc_len]
theorem ra_one (r : Rw) : (ra r).all (fun x => x.oneCell') = true := by
  have h := kc_one r.k
  rw [Array.all_eq_true'] at h ⊢
  intro u hu
  simp only [ra, rc, List.mem_toArray, List.mem_append, List.mem_singleton] at hu
  rcases hu with hu | rfl
  · exact h u (by simpa using hu)
  · rfl
theorem wpList_load64 {ops : Array Oper} {rest : List Oper} {o : Oper} {a : Act} {w : World} {Q : Exit → Act → World → Prop} (hw : Region.wanted o (yielded ops a.tmps) = true) (x : Operand) (ho : o.op = .load 64 x)
    (b off : Nat) (hx : a.eval x = .pointer (some ⟨b, off, none⟩)) (r : Rw) (hc : w.rangeAt b off (rc r)) (h : wpList Try.prog ops Q rest (a.put o.dst (.agg (ra r))) w) : wpList Try.prog ops Q (o :: rest) a w :=
  wpList_want hw fun K hK => wp_load_mid 64 x ho b off hx (rc r) _ hc Try.underlying64 rfl (by rw [info64, rc_len]) (hK _ _ h)
theorem range_row {w : World} {b : Nat} {r : Rw} {t : TypeId} {z : Nat × Nat} (h : w.heap[b]? = some (.cells (ra r) t z)) : w.rangeAt b 0 (kc r.k).toList := fun j v hv => at_cells h (0 + j) (by
  have := (List.getElem?_eq_some_iff.1 hv).1
  rw [Nat.zero_add]
  simp only [ra, rc, List.getElem?_toArray]
  rw [List.getElem?_append_left this]
  exact hv)
set_option maxRecDepth 100000 in
theorem rnew_any (B : Nat) (w : World) (t e : Int) : Calls Try.prog 13 #[.int .i64 t] w fun e' w' => e' = .returned (.pointer (some ⟨w.heap.size, 0, none⟩)) ∧ Fr [] w w' ∧ RBk B w' w.heap.size ⟨max t 1, [], e, []⟩ ∧ w'.heap.size = w.heap.size + 1 := by
  have H : RBk B (w.alloc (.cells #[.slice none 0 0, .slice none 0 0, .int .i64 (max t 1)] 46)) w.heap.size ⟨max t 1, [], e, []⟩ := ⟨_, _, heap_alloc_new _ _, ⟨rfl, .inl ⟨rfl, rfl⟩⟩, ⟨rfl, .inl ⟨rfl, rfl⟩⟩⟩
  have HH : Hid (RBk B (w.alloc (.cells #[.slice none 0 0, .slice none 0 0, .int .i64 (max t 1)] 46)) w.heap.size ⟨max t 1, [], e, []⟩) := H
  clear H
  by_cases h1 : 1 < t
  · rw [show max t 1 = t by omega] at *
    have h2 : ¬ (t < 1) := by omega
    have h3 : ¬ (t ≤ 1) := by omega
    have h4 : 1 ≤ t := by omega
    go_enter Try.func13, Try.ntmps13
    go_wp2
    go_ret
    first | exact ⟨rfl, (Fr.refl _ _).alloc _, HH.out, by simp⟩ | (rw [show max t 1 = t by omega]; exact ⟨rfl, (Fr.refl _ _).alloc _, HH.out, by simp⟩)
  · by_cases h5 : t = 1
    · subst h5
      rw [show max (1 : Int) 1 = 1 by omega] at *
      go_enter Try.func13, Try.ntmps13
      go_wp2
      go_ret
      exact ⟨rfl, (Fr.refl _ _).alloc _, HH.out, by simp⟩
    · rw [show max t 1 = 1 by omega] at *
      have h2 : t < 1 := by omega
      have h3 : ¬ (1 ≤ t) := by omega
      clear h5 h1
      go_enter Try.func13, Try.ntmps13
      go_wp2
      go_ret
      exact ⟨rfl, (Fr.refl _ _).alloc _, HH.out, by simp⟩
end Go.Proofs.Ytjeddgjndpdhoaa
