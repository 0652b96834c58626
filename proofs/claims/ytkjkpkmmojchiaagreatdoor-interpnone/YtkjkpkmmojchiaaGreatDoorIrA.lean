/-
  Frames, rows of one's own and how they grow, instructions and functions in memory; no condition.
-/
import Derived.Test.YtkjkpkmmojchiaaGreatDoorProg
import Derived.WalkKit
import Derived.WalkSpells
import Derived.WalkLawsBesides
import Derived.Deep.QuietTactic
import Derived.BigQuiet
import Derived.Deep.RegionHeld3
import Derived.Deep.RegionLaw
import Derived.Laws.AppendOwn
import Derived.Shelf.RegionOpen
namespace Go.Proofs.YtkjkpkmmojchiaaGreatDoor
open Go.RowKit
set_option linter.unusedVariables false
set_option linter.unusedSimpArgs false

/-- What lay in w lies in w', but for the blocks of S. -/
structure Fr (S : List Nat) (w w' : World) : Prop where
  os : w'.os = w.os
  tape : w'.tape = w.tape
  output : w'.output = w.output
  size : w.heap.size ≤ w'.heap.size
  block : ∀ k, k < w.heap.size → k ∉ S → w'.heap[k]? = w.heap[k]?

theorem Fr.refl (S : List Nat) (w : World) : Fr S w w := ⟨rfl, rfl, rfl, Nat.le_refl _, fun _ _ _ => rfl⟩

theorem Fr.trans {S : List Nat} {a b c : World} (h : Fr S a b) (k : Fr S b c) : Fr S a c :=
  ⟨k.os.trans h.os, k.tape.trans h.tape, k.output.trans h.output, Nat.le_trans h.size k.size, fun i hi hS => (k.block i (Nat.lt_of_lt_of_le hi h.size) hS).trans (h.block i hi hS)⟩

theorem Fr.drew {S : List Nat} {a b : World} (h : Fr S a b) : Fr S a b.drew := ⟨h.os, h.tape, h.output, h.size, h.block⟩
theorem Fr.drewN {S : List Nat} {a b : World} (h : Fr S a b) (n : Nat) : Fr S a (b.drewN n) := ⟨h.os, h.tape, h.output, h.size, h.block⟩

theorem Fr.alloc {S : List Nat} {a b : World} (h : Fr S a b) (o : Obj) : Fr S a (b.alloc o) :=
  h.trans ⟨rfl, rfl, rfl, by simp, fun k hk _ => Below.heap_alloc _ _ _ hk⟩

theorem Fr.setCell {S : List Nat} {a b : World} (h : Fr S a b) {p : Addr} (hp : p.block ∈ S ∨ a.heap.size ≤ p.block) (u : Value) : Fr S a (b.setCell p u) :=
  ⟨h.os, h.tape, h.output, by simpa [World.setCell] using h.size, fun k hk hS => by
    rw [Below.heap_setCell]
    · exact h.block k hk hS
    · rintro rfl
      rcases hp with hp | hp
      · exact hS hp
      · omega⟩

theorem Fr.sub {S T : List Nat} {a b : World} (h : Fr S a b) (hT : ∀ k, k ∈ S → k ∈ T ∨ a.heap.size ≤ k) : Fr T a b :=
  ⟨h.os, h.tape, h.output, h.size, fun k hk hS => h.block k hk (fun hm => by rcases hT k hm with h1 | h1; exact hS h1; omega)⟩

theorem Fr.below {S : List Nat} {a b : World} {B : Nat} (h : Fr S a b) (hB : B ≤ a.heap.size) (hS : ∀ k, k ∈ S → B ≤ k) : Below B a b :=
  ⟨h.os, h.tape, h.output, h.size, fun k hk => h.block k (by omega) (fun hm => by have := hS k hm; omega)⟩

theorem Fr.ofBelow {a b : World} (h : Below a.heap.size a b) : Fr [] a b :=
  ⟨h.os, h.tape, h.output, h.size, fun k hk _ => h.block k hk⟩

theorem Fr.grown {S : List Nat} {a b c : World} {row : Option Nat} (h : Fr S a b) (hg : b.grownBy c row) (hr : ∀ k, row = some k → k ∈ S ∨ a.heap.size ≤ k) : Fr S a c :=
  ⟨hg.os.trans h.os, hg.tape.trans h.tape, hg.output.trans h.output, Nat.le_trans h.size hg.size, fun k hk hS => by
    have h1 := h.size
    rw [hg.block k (by omega) (fun e => by rcases hr k e.symm with h2 | h2; exact hS h2; omega)]
    exact h.block k hk hS⟩

theorem Fr.cell1 {S : List Nat} {w w' : World} {p : Addr} {u : Value} (h : Fr S w w') (hc : w.cell? p = some u) (hS : p.block ∉ S) : w'.cell? p = some u := by
  unfold World.cell? at hc ⊢
  cases hb : w.heap[p.block]? with
  | none => rw [hb] at hc; simp at hc
  | some o =>
    rw [h.block p.block (Array.getElem?_eq_some_iff.1 hb).1 hS]
    exact hc

theorem blk2 (w : World) (o o' : Obj) : ((w.alloc o).alloc o').heap[w.heap.size + 1]? = some o' := by
  have h := heap_alloc_new (w.alloc o) o'
  rw [show (w.alloc o).heap.size = w.heap.size + 1 from by simp] at h
  exact h
theorem own_ne {w : World} {B n : Nat} {e0 : TypeId} {size : Nat} {sv : Value} {xs : List Value} (h : w.ownsRow B e0 size sv n xs) {k : Nat} {c : Array Value} {e : TypeId} {z : Nat × Nat} (hk : w.heap[k]? = some (.cells c e z)) (he : e ≠ e0) : sv.ownBlock ≠ some k := by
  rcases h.2 with ⟨rfl, _⟩ | ⟨g, cap, cur, rfl, _, hgg, _⟩
  · simp [Value.ownBlock]
  · simp [Value.ownBlock]
    rintro rfl
    rw [hgg] at hk
    simp at hk
    exact he hk.2.1.symm
theorem own_fr {S : List Nat} {w w' : World} {B n : Nat} {e : TypeId} {size : Nat} {sv : Value} {xs : List Value} (h : w.ownsRow B e size sv n xs) (f : Fr S w w') (hS : ∀ k, sv.ownBlock = some k → k ∉ S) : w'.ownsRow B e size sv n xs := by
  refine ⟨h.1, ?_⟩
  rcases h.2 with e1 | ⟨g, cap, cur, e1, r1, hgg, r2⟩
  · exact .inl e1
  · exact .inr ⟨g, cap, cur, e1, r1, (f.block g (Array.getElem?_eq_some_iff.1 hgg).1 (hS g (by rw [e1]; rfl))).trans hgg, r2⟩
theorem own_slice {w : World} {B n : Nat} {e : TypeId} {size : Nat} {v : Value} {xs : List Value} (h : w.ownsRow B e size v n xs) : ∃ a c, v = .slice a n c ∧ (a = none → n = 0 ∧ c = 0) := by
  rcases h.2 with ⟨e1, e2⟩ | ⟨g, cap, cur, e1, _⟩
  · exact ⟨none, 0, by rw [e1, e2], fun _ => ⟨e2, rfl⟩⟩
  · exact ⟨_, cap, e1, fun h => by cases h⟩
theorem own_notloop {w : World} {B n : Nat} {e0 : TypeId} {size : Nat} {sv : Value} {xs : List Value} (h : w.ownsRow B e0 size sv n xs) {k : Nat} {o : Obj} (hk : w.heap[k]? = some o) (ho : ∀ c t z, o ≠ .cells c t z) : sv.ownBlock ≠ some k := by
  rcases h.2 with ⟨rfl, _⟩ | ⟨g, cap, cur, rfl, _, hgg, _⟩
  · simp [Value.ownBlock]
  · simp [Value.ownBlock]
    rintro rfl
    rw [hgg] at hk
    injection hk with hk
    exact ho _ _ _ hk.symm
theorem at_cells {w : World} {k : Nat} {c : Array Value} {t : TypeId} {z : Nat × Nat} (h : w.heap[k]? = some (.cells c t z)) (i : Nat) {u : Value} (hu : c[i]? = some u) : w.cell? ⟨k, i, none⟩ = some u := by simp [World.cell?, h, hu]

theorem own_low {w : World} {B B' n : Nat} {e : TypeId} {size : Nat} {v : Value} {xs : List Value} (h : w.ownsRow B e size v n xs) (hB : B' ≤ B) : w.ownsRow B' e size v n xs :=
  ⟨h.1, h.2.imp id (fun ⟨g, cap, cur, e1, e2, r⟩ => ⟨g, cap, cur, e1, Nat.le_trans hB e2, r⟩)⟩

theorem set_same {W : World} {k : Nat} {u v : Value} {t : TypeId} {z : Nat × Nat} (h : W.heap[k]? = some (.cells #[u] t z)) : (W.setCell ⟨k, 0, none⟩ v).heap[k]? = some (.cells #[v] t z) := by simp [World.setCell, Array.getElem?_modify, h]
theorem set_other {W : World} {k j : Nat} {v : Value} {o : Obj} (hk : k ≠ j) (h : W.heap[k]? = some o) : (W.setCell ⟨j, 0, none⟩ v).heap[k]? = some o := (Below.heap_setCell _ _ _ _ (by simpa using hk)).trans h


theorem drop_cons (s : ByteArray) (k : Nat) (h : k < s.size) : s.data.toList.drop k = s[k] :: s.data.toList.drop (k + 1) := by
  rw [List.drop_eq_getElem_cons (by simpa using h)]; rfl
theorem drop_end (s : ByteArray) (k : Nat) (h : s.size ≤ k) : s.data.toList.drop k = [] := by
  rw [List.drop_eq_nil_iff]; simpa using h
theorem byte_lt (b : UInt8) : b.toNat < 256 := b.toNat_lt
theorem beq_int_false {a b : Int} (h : a ≠ b) : (a == b) = false := by simp [h]
theorem Fr.ofGrown {w w' : World} {row : Option Nat} (hg : w.grownBy w' row) : Fr row.toList w w' :=
  Fr.grown (Fr.refl _ _) hg (fun k e => .inl (by rw [e]; simp))

/-- Append onto a row that the call owns, with where the new row lies: where the old one lay, or behind all that was there. -/
theorem run_append_fp {P : Program} (w : World) (base : Nat) (t ty e : TypeId) (i : TypeInfo) (z : Value) (size bytes : Nat) (ht : P.underlying t = some (.slice e)) (hi : P.info? e = some i) (hz : i.zero = some z)
    (hsize : i.size = size) (hby : i.bytes = bytes) (hzs : z.cells.size = size) (hsz : 0 < size)
    (v : Value) (n : Nat) (xs : List Value) (hown : w.ownsRow base e size v n xs)
    (a : Addr) (m c : Nat) (news : List Value) (hl : news.length = m * size) (hnews : ∀ j u, news[j]? = some u → w.cell? (a.add j) = some u) (h1 : ∀ u ∈ news, u.oneCell' = true)
    (h63 : n + m ≤ maxLen) (hbytes : (n + m) * bytes ≤ 140737488355328) (hbase : base ≤ w.heap.size) :
    ∃ v' w', (Builtin.append_ #[t, t] ty #[v, .slice (some a) m c]).run P w = .ok v' w' ∧ w'.ownsRow base e size v' (n + m) (xs ++ news) ∧ w.grownBy w' v.ownBlock ∧
      (∀ k, v'.ownBlock = some k → v.ownBlock = some k ∨ w.heap.size ≤ k) := by
  obtain ⟨v', w', hr, h2, h3, _⟩ := run_append_own (P := P) w base t ty e i z size bytes ht hi hz hsize hby hzs hsz v n xs hown a m c news hl hnews h1 h63 hbytes hbase
  refine ⟨v', w', hr, h2, h3, ?_⟩
  intro k hk
  have hown' := hown
  rcases hown.2 with ⟨rfl, rfl⟩ | ⟨g, cap, cur, rfl, hbg, hg, hnc, hcm, hcs, htake⟩
  · have hx : xs = [] := List.eq_nil_of_length_eq_zero (by simpa using hown.1)
    subst hx
    obtain ⟨v2, w2, hr2, h22, _, _⟩ := run_append_own (P := P) w w.heap.size t ty e i z size bytes ht hi hz hsize hby hzs hsz (.slice none 0 0) 0 [] (World.ownsRow_nil _ _ _ _) a m c news hl hnews h1 h63 hbytes (Nat.le_refl _)
    rw [hr] at hr2
    injection hr2 with e1 e2
    subst e1
    exact .inr (h22.lt k hk).1
  · by_cases hroom : n + m ≤ cap
    · subst hsize
      have hfit : n * i.size + news.length ≤ cur.size := by rw [hl, hcs, ← Nat.add_mul]; exact Nat.mul_le_mul_right _ hroom
      have hr2 := run_append_room (P := P) w t ty e i ht hi g n cap cur hg a m c news hl hnews h1 hroom hfit
      rw [hr] at hr2
      injection hr2 with e1 e2
      subst e1
      exact .inl hk
    · subst hsize
      subst hby
      have holds : ∀ j u, xs[j]? = some u → w.cell? ((⟨g, 0, none⟩ : Addr).add j) = some u := hown.cells (g := g) rfl
      have hr2 := run_append_grow (P := P) w t ty e i z ht hi hz ⟨g, 0, none⟩ n cap xs hown.1 holds a m c news hl hnews (by omega) (by simp only [maxLen] at h63; omega) (growslice_fits (by omega) hbytes)
      rw [hr] at hr2
      injection hr2 with e1 e2
      subst e1
      simp [Value.ownBlock] at hk
      exact .inr (by omega)

theorem wpList_append_fp {P : Program} (w : World) {ops : Array Oper} {rest : List Oper} {o : Oper} {a : Act} {Q : Exit → Act → World → Prop} (hgd : o.guard = none) (s x : Operand) (t : TypeId)
    (ho : o.op = .call { callee := .builtin .append, args := #[s, x], argTypes := #[t, t] })
    (base : Nat) (e : TypeId) (i : TypeInfo) (z : Value) (size bytes : Nat) (ht : P.underlying t = some (.slice e)) (hi : P.info? e = some i) (hz : i.zero = some z)
    (hsize : i.size = size) (hby : i.bytes = bytes) (hzs : z.cells.size = size) (hsz : 0 < size)
    (v : Value) (n : Nat) (xs : List Value) (hs : a.eval s = v) (hown : w.ownsRow base e size v n xs)
    (ad : Addr) (m c : Nat) (news : List Value) (hx : a.eval x = .slice (some ad) m c) (hl : news.length = m * size) (hnews : ∀ j u, news[j]? = some u → w.cell? (ad.add j) = some u) (h1 : ∀ u ∈ news, u.oneCell' = true)
    (h63 : n + m ≤ maxLen) (hbytes : (n + m) * bytes ≤ 140737488355328) (hbase : base ≤ w.heap.size)
    (h : ∀ v' w', w'.ownsRow base e size v' (n + m) (xs ++ news) → w.grownBy w' v.ownBlock → (∀ k, v'.ownBlock = some k → v.ownBlock = some k ∨ w.heap.size ≤ k) → wpList P ops Q rest (a.put o.dst v') w') : wpList P ops Q (o :: rest) a w := by
  refine wpList_plain hgd fun K hK => ?_
  obtain ⟨v', w', hr, h2, h3, h4⟩ := run_append_fp (P := P) w base t o.type e i z size bytes ht hi hz hsize hby hzs hsz v n xs hown ad m c news hl hnews h1 h63 hbytes hbase
  unfold Oper.wp execOp
  simp only [ho, resolve, invoke, builtin, Sem.run_bind, Sem.run_pure, Result.andThen_ok, List.map_toArray, List.map_cons, List.map_nil, hs, hx, hr]
  exact hK _ _ (h v' w' h2 h3 h4)

/-- Append from whatever slice onto a row that the call owns, as one step of a region that draws its order. -/
theorem step_append_src {P : Program} {ops : Array Oper} {o : Oper} {a : Act} {w : World} {K : Act → World → Prop} {Q : Exit → Act → World → Prop} {E : Prop} (hgd : o.guard = none) (s x : Operand) (t : TypeId)
    (ho : o.op = .call { callee := .builtin .append, args := #[s, x], argTypes := #[t, t] })
    (base : Nat) (e : TypeId) (i : TypeInfo) (z : Value) (size bytes : Nat) (ht : P.underlying t = some (.slice e)) (hi : P.info? e = some i) (hz : i.zero = some z)
    (hsize : i.size = size) (hby : i.bytes = bytes) (hzs : z.cells.size = size) (hsz : 0 < size)
    (v : Value) (n : Nat) (xs : List Value) (hs : a.eval s = v) (hown : w.ownsRow base e size v n xs)
    (ao : Option Addr) (m c : Nat) (news : List Value) (hx : a.eval x = .slice ao m c) (hl : news.length = m * size) (hnone : ao = none → m = 0 ∧ c = 0) (hnews : ∀ ad, ao = some ad → ∀ j u, news[j]? = some u → w.cell? (ad.add j) = some u) (h1 : ∀ u ∈ news, u.oneCell' = true)
    (h63 : n + m ≤ maxLen) (hbytes : (n + m) * bytes ≤ 140737488355328) (hbase : base ≤ w.heap.size)
    (h : ∀ v' w', w'.ownsRow base e size v' (n + m) (xs ++ news) → w.grownBy w' v.ownBlock → (∀ k, v'.ownBlock = some k → v.ownBlock = some k ∨ w.heap.size ≤ k) → K (a.put o.dst v') w') :
    if Region.wanted o (yielded ops a.tmps) = true then Oper.wp P o a w K Q else E := by
  have hw : Region.wanted o (yielded ops a.tmps) = true := by simp [Region.wanted, hgd]
  rw [if_pos hw]
  have key : ∃ v' w', (Builtin.append_ #[t, t] o.type #[v, .slice ao m c]).run P w = .ok v' w' ∧ w'.ownsRow base e size v' (n + m) (xs ++ news) ∧ w.grownBy w' v.ownBlock ∧ (∀ k, v'.ownBlock = some k → v.ownBlock = some k ∨ w.heap.size ≤ k) := by
    cases ao with
    | some ad => exact run_append_fp (P := P) w base t o.type e i z size bytes ht hi hz hsize hby hzs hsz v n xs hown ad m c news hl (hnews ad rfl) h1 h63 hbytes hbase
    | none =>
      obtain ⟨rfl, rfl⟩ := hnone rfl
      have hn0 : news = [] := List.eq_nil_of_length_eq_zero (by simpa using hl)
      subst hn0
      have hrun := run_append_owned_none (P := P) w base t o.type e i size ht hi v n xs hown
      exact ⟨v, w, hrun, by simpa using hown, World.grownBy.refl _ _, fun k hk => .inl hk⟩
  obtain ⟨v', w', hr, h2, h3, h4⟩ := key
  unfold Oper.wp execOp
  simp only [ho, resolve, invoke, builtin, Sem.run_bind, Sem.run_pure, Result.andThen_ok, List.map_toArray, List.map_cons, List.map_nil, hs, hx, hr]
  exact h v' w' h2 h3 h4


/-- Append from whatever slice onto a row that the call owns. -/
theorem wpList_append_src {P : Program} (w : World) {ops : Array Oper} {rest : List Oper} {o : Oper} {a : Act} {Q : Exit → Act → World → Prop} (hgd : o.guard = none) (s x : Operand) (t : TypeId)
    (ho : o.op = .call { callee := .builtin .append, args := #[s, x], argTypes := #[t, t] })
    (base : Nat) (e : TypeId) (i : TypeInfo) (z : Value) (size bytes : Nat) (ht : P.underlying t = some (.slice e)) (hi : P.info? e = some i) (hz : i.zero = some z)
    (hsize : i.size = size) (hby : i.bytes = bytes) (hzs : z.cells.size = size) (hsz : 0 < size)
    (v : Value) (n : Nat) (xs : List Value) (hs : a.eval s = v) (hown : w.ownsRow base e size v n xs)
    (ao : Option Addr) (m c : Nat) (news : List Value) (hx : a.eval x = .slice ao m c) (hl : news.length = m * size) (hnone : ao = none → m = 0 ∧ c = 0) (hnews : ∀ ad, ao = some ad → ∀ j u, news[j]? = some u → w.cell? (ad.add j) = some u) (h1 : ∀ u ∈ news, u.oneCell' = true)
    (h63 : n + m ≤ maxLen) (hbytes : (n + m) * bytes ≤ 140737488355328) (hbase : base ≤ w.heap.size)
    (h : ∀ v' w', w'.ownsRow base e size v' (n + m) (xs ++ news) → w.grownBy w' v.ownBlock → (∀ k, v'.ownBlock = some k → v.ownBlock = some k ∨ w.heap.size ≤ k) → wpList P ops Q rest (a.put o.dst v') w') : wpList P ops Q (o :: rest) a w := by
  refine wpList_plain hgd fun K hK => ?_
  have key : ∃ v' w', (Builtin.append_ #[t, t] o.type #[v, .slice ao m c]).run P w = .ok v' w' ∧ w'.ownsRow base e size v' (n + m) (xs ++ news) ∧ w.grownBy w' v.ownBlock ∧ (∀ k, v'.ownBlock = some k → v.ownBlock = some k ∨ w.heap.size ≤ k) := by
    cases ao with
    | some ad => exact run_append_fp (P := P) w base t o.type e i z size bytes ht hi hz hsize hby hzs hsz v n xs hown ad m c news hl (hnews ad rfl) h1 h63 hbytes hbase
    | none =>
      obtain ⟨rfl, rfl⟩ := hnone rfl
      have hn0 : news = [] := List.eq_nil_of_length_eq_zero (by simpa using hl)
      subst hn0
      have hrun := run_append_owned_none (P := P) w base t o.type e i size ht hi v n xs hown
      exact ⟨v, w, hrun, by simpa using hown, World.grownBy.refl _ _, fun k hk => .inl hk⟩
  obtain ⟨v', w', hr, h2, h3, h4⟩ := key
  unfold Oper.wp execOp
  simp only [ho, resolve, invoke, builtin, Sem.run_bind, Sem.run_pure, Result.andThen_ok, List.map_toArray, List.map_cons, List.map_nil, hs, hx, hr]
  exact hK _ _ (h v' w' h2 h3 h4)

theorem own_cells {w : World} {B n : Nat} {e : TypeId} {size : Nat} {v : Value} {xs : List Value} (h : w.ownsRow B e size v n xs) {j : Nat} {x : Value} (hx : xs[j]? = some x) : ∃ g c, v = .slice (some ⟨g, 0, none⟩) n c ∧ w.cell? ⟨g, j, none⟩ = some x ∧ (∀ i, w.frozen? ⟨g, i, none⟩ = false) ∧ g < w.heap.size := by
  rcases h.2 with ⟨_, e2⟩ | ⟨g, cap, cur, e1, _, hgg, _⟩
  · have := h.1
    rw [e2] at this
    have : xs = [] := List.eq_nil_of_length_eq_zero (by simpa using this)
    rw [this] at hx
    simp at hx
  · refine ⟨g, cap, e1, ?_, fun i => by simp [World.frozen?, hgg], (Array.getElem?_eq_some_iff.1 hgg).1⟩
    have hc := h.cells (g := g) (by rw [e1]; rfl) j x hx
    have hadd : (⟨g, 0, none⟩ : Addr).add j = ⟨g, j, none⟩ := by unfold Addr.add; split <;> simp_all
    rw [hadd] at hc
    exact hc


/-- An instruction: its five numbers, where its list lies and its room, the list. -/
structure In where
  op : Int
  a : Int
  b : Int
  c : Int
  k : Int
  la : Option Addr
  lc : Nat
  l : List Int
def In.arr (x : In) : Array Value := #[.int .i64 x.op, .int .i64 x.a, .int .i64 x.b, .int .i64 x.c, .int .i64 x.k, .slice x.la x.l.length x.lc]
/-- A function: its name, parameters, registers, where its code lies and its room, the code. -/
structure Fu where
  name : ByteArray
  ps : Int
  rs : Int
  ca : Option Addr
  cc : Nat
  code : List In
def Fu.arr (x : Fu) : Array Value := #[.string x.name, .int .i64 x.ps, .int .i64 x.rs, .slice x.ca x.code.length x.cc]

/-- Numbers in a row. -/
def KAt (B : Nat) (w : World) (a : Option Addr) (ks : List Int) : Prop := ∀ (j : Nat) (k : Int), ks[j]? = some k → ∃ b o, a = some ⟨b, o, none⟩ ∧ b < B ∧ w.cell? ⟨b, o + j, none⟩ = some (.int .i64 k)
/-- What an instruction's list is. -/
structure InOk (B : Nat) (w : World) (x : In) : Prop where
  k : KAt B w x.la x.l
  kl : x.l.length ≤ 20000000000000
  kc : x.l.length ≤ x.lc
  kn : x.la = none → x.lc = 0
/-- An instruction's six cells. -/
structure ICell (B : Nat) (w : World) (b o : Nat) (x : In) : Prop where
  c0 : w.cell? ⟨b, o, none⟩ = some (.int .i64 x.op)
  c1 : w.cell? ⟨b, o + 1, none⟩ = some (.int .i64 x.a)
  c2 : w.cell? ⟨b, o + 2, none⟩ = some (.int .i64 x.b)
  c3 : w.cell? ⟨b, o + 3, none⟩ = some (.int .i64 x.c)
  c4 : w.cell? ⟨b, o + 4, none⟩ = some (.int .i64 x.k)
  c5 : w.cell? ⟨b, o + 5, none⟩ = some (.slice x.la x.l.length x.lc)
  ok : InOk B w x
/-- Instructions in a row. -/
def IAt (B : Nat) (w : World) (a : Option Addr) (L : List In) : Prop := ∀ (i : Nat) (x : In), L[i]? = some x → ∃ b o, a = some ⟨b, o, none⟩ ∧ b < B ∧ ICell B w b (o + i * 6) x
/-- What a function's code is. -/
structure FuOk (B : Nat) (w : World) (x : Fu) : Prop where
  k : IAt B w x.ca x.code
  nl : x.name.size ≤ 140737488355328
  kl : x.code.length ≤ 20000000000000
  kc : x.code.length ≤ x.cc
  kn : x.ca = none → x.cc = 0
structure FCell (B : Nat) (w : World) (b o : Nat) (x : Fu) : Prop where
  c0 : w.cell? ⟨b, o, none⟩ = some (.string x.name)
  c1 : w.cell? ⟨b, o + 1, none⟩ = some (.int .i64 x.ps)
  c2 : w.cell? ⟨b, o + 2, none⟩ = some (.int .i64 x.rs)
  c3 : w.cell? ⟨b, o + 3, none⟩ = some (.slice x.ca x.code.length x.cc)
  ok : FuOk B w x
/-- Functions in a row. -/
def FAt (B : Nat) (w : World) (a : Option Addr) (L : List Fu) : Prop := ∀ (i : Nat) (x : Fu), L[i]? = some x → ∃ b o, a = some ⟨b, o, none⟩ ∧ b < B ∧ FCell B w b (o + i * 4) x

section
variable {B : Nat} {S : List Nat} {w w' : World}
theorem KAt.fr {a : Option Addr} {ks : List Int} (h : KAt B w a ks) (f : Fr S w w') (hS : ∀ k, k ∈ S → B ≤ k) : KAt B w' a ks := fun j k hk => by
  obtain ⟨b, o, e, hb, hc⟩ := h j k hk
  exact ⟨b, o, e, hb, f.cell1 hc (fun hm => by have := hS _ hm; simp at this; omega)⟩
theorem InOk.fr {x : In} (h : InOk B w x) (f : Fr S w w') (hS : ∀ k, k ∈ S → B ≤ k) : InOk B w' x := ⟨h.k.fr f hS, h.kl, h.kc, h.kn⟩
theorem ICell.fr {b o : Nat} {x : In} (h : ICell B w b o x) (f : Fr S w w') (hb : b < B) (hS : ∀ k, k ∈ S → B ≤ k) : ICell B w' b o x := by
  have hn : b ∉ S := fun hm => by have := hS _ hm; omega
  exact ⟨f.cell1 h.c0 hn, f.cell1 h.c1 hn, f.cell1 h.c2 hn, f.cell1 h.c3 hn, f.cell1 h.c4 hn, f.cell1 h.c5 hn, h.ok.fr f hS⟩
theorem IAt.fr {a : Option Addr} {L : List In} (h : IAt B w a L) (f : Fr S w w') (hS : ∀ k, k ∈ S → B ≤ k) : IAt B w' a L := fun i x hx => by
  obtain ⟨b, o, e, hb, hc⟩ := h i x hx
  exact ⟨b, o, e, hb, hc.fr f hb hS⟩
theorem FuOk.fr {x : Fu} (h : FuOk B w x) (f : Fr S w w') (hS : ∀ k, k ∈ S → B ≤ k) : FuOk B w' x := ⟨h.k.fr f hS, h.nl, h.kl, h.kc, h.kn⟩
theorem FCell.fr {b o : Nat} {x : Fu} (h : FCell B w b o x) (f : Fr S w w') (hb : b < B) (hS : ∀ k, k ∈ S → B ≤ k) : FCell B w' b o x := by
  have hn : b ∉ S := fun hm => by have := hS _ hm; omega
  exact ⟨f.cell1 h.c0 hn, f.cell1 h.c1 hn, f.cell1 h.c2 hn, f.cell1 h.c3 hn, h.ok.fr f hS⟩
theorem FAt.fr {a : Option Addr} {L : List Fu} (h : FAt B w a L) (f : Fr S w w') (hS : ∀ k, k ∈ S → B ≤ k) : FAt B w' a L := fun i x hx => by
  obtain ⟨b, o, e, hb, hc⟩ := h i x hx
  exact ⟨b, o, e, hb, hc.fr f hb hS⟩
end
theorem KAt.nil {B : Nat} {w : World} {a : Option Addr} : KAt B w a [] := fun j k hk => by simp at hk
theorem KAt.none {B : Nat} {w : World} {ks : List Int} (h : KAt B w none ks) : ks = [] := by
  cases ks with
  | nil => rfl
  | cons k r => obtain ⟨b, o, e, _⟩ := h 0 k rfl; cases e
theorem KAt.up {B B' : Nat} {w : World} {a : Option Addr} {ks : List Int} (h : KAt B w a ks) (hB : B ≤ B') : KAt B' w a ks := fun j k hk => by
  obtain ⟨b, o, e, hb, hc⟩ := h j k hk
  exact ⟨b, o, e, by omega, hc⟩

/-- A row of numbers of one's own, that grows. -/
def OR (w : World) (base : Nat) (v : Value) (K : List Int) : Prop := w.ownsRow base 3 1 v K.length (K.map (Value.int .i64))
theorem OR.nil (w : World) (base : Nat) : OR w base (.slice none 0 0) [] := World.ownsRow_nil _ _ _ _
theorem OR.fr {w w' : World} {base : Nat} {v : Value} {K : List Int} {S : List Nat} (h : OR w base v K) (f : Fr S w w') (hS : ∀ k, k ∈ S → k < base) : OR w' base v K := by
  obtain ⟨h1, h2⟩ := h
  refine ⟨h1, ?_⟩
  rcases h2 with h2 | ⟨g, cap, cur, e, hb, hg, r⟩
  · exact .inl h2
  · exact .inr ⟨g, cap, cur, e, hb, (f.block g (Array.getElem?_eq_some_iff.1 hg).1 (fun hm => by have := hS g hm; omega)).trans hg, r⟩
theorem OR.slice {w : World} {base : Nat} {v : Value} {K : List Int} (h : OR w base v K) : ∃ a c, v = .slice a K.length c ∧ K.length ≤ c ∧ (a = none → c = 0) := by
  obtain ⟨h1, h2⟩ := h
  rcases h2 with ⟨e, h0⟩ | ⟨g, cap, cur, e, hb, hg, hc, _⟩
  · exact ⟨none, 0, by rw [h0]; exact e, by omega, fun _ => rfl⟩
  · exact ⟨_, cap, e, hc, fun h => by cases h⟩
theorem OR.kat {w : World} {base : Nat} {a : Option Addr} {n c : Nat} {K : List Int} (h : OR w base (.slice a n c) K) : KAt w.heap.size w a K := fun j k hj => by
  have hlt := (List.getElem?_eq_some_iff.1 hj).1
  obtain ⟨h1, h2⟩ := h
  rcases h2 with ⟨e, h0⟩ | ⟨g, cap, cur, e, hb, hg, hc, hm, hs, ht⟩
  · omega
  · injection e with e1 e2 e3
    subst e1
    have hcell : cur.toList[j]? = some (.int .i64 k) := by
      have : (cur.toList.take (K.length * 1))[j]? = (K.map (Value.int .i64))[j]? := by rw [ht]
      rw [List.getElem?_take_of_lt (by omega)] at this
      rw [this]
      simp [hj]
    refine ⟨g, 0, rfl, (Array.getElem?_eq_some_iff.1 hg).1, ?_⟩
    simp only [World.cell?, hg, Nat.zero_add]
    simpa using hcell
theorem info3 : (Tryz.prog.info? 3).map (fun i => (i.zero, i.size, i.bytes)) = some (some (.int .i64 0), 1, 8) := by kernel_rfl
theorem one_new (W : World) (z : Int) : ∀ j u, [Value.int .i64 z][j]? = some u → (W.alloc (.cells #[.int .i64 z] 3)).cell? ((⟨W.heap.size, 0, none⟩ : Addr).add j) = some u := by
  intro j u hu
  have hadd : (⟨W.heap.size, 0, none⟩ : Addr).add j = ⟨W.heap.size, j, none⟩ := by unfold Addr.add; split <;> simp_all
  rw [hadd]
  exact at_cells (heap_alloc_new W _) j (by simpa using hu)
theorem KAt.news {B : Nat} {w : World} {a : Option Addr} {ks : List Int} (h : KAt B w a ks) : ∀ ad, a = some ad → ∀ j u, (ks.map (Value.int .i64))[j]? = some u → w.cell? (ad.add j) = some u := by
  intro ad ha j u hu
  rw [List.getElem?_map] at hu
  cases hk : ks[j]? with
  | none => rw [hk] at hu; simp at hu
  | some k =>
    rw [hk] at hu
    simp at hu
    subst hu
    obtain ⟨b, o, e, _, hc⟩ := h j k hk
    rw [e] at ha
    injection ha with ha
    subst ha
    rw [Addr.add_lit]
    exact hc

/-- The columns of the chapter's table, by the instructions' numbers. -/
def fieldsT : List (List UInt8) := [[], [65, 75], [65], [65, 66], [65, 66, 67, 75], [65, 66, 75], [65, 66, 67], [65, 66, 67], [65, 66, 99, 75], [65, 66, 99, 75], [65, 66, 67], [65, 66, 67], [65, 66], [65, 99, 75], [65, 66], [65], [65], [65, 66], [65], [65], [65], [75], [65, 75], [65, 75, 76], [65], [65], [], [75, 76], [65, 66]]
def readsT : List (List UInt8) := [[], [], [], [66], [66, 67], [66], [66, 67], [66, 67], [66], [65, 66], [66, 67], [65, 66, 67], [66], [], [66], [], [65], [66], [], [], [65], [], [65], [76], [65], [65], [], [76], [66]]
def writesT : List (List UInt8) := [[], [65], [65], [65], [65], [65], [65], [65], [65], [], [65], [], [65], [65], [65], [65], [], [65], [65], [65], [], [], [], [65], [], [], [], [], [65]]
def namesT : List (List UInt8) := [[63], [110, 117, 109], [110, 117, 108, 108], [109, 111, 118, 101], [98, 105, 110], [117, 110], [101, 113], [110, 101], [103, 101, 116], [112, 117, 116], [101, 108, 101, 109], [115, 101, 116, 101, 108, 101, 109], [108, 101, 110], [110, 101, 119], [97, 114, 114], [105, 110], [111, 117, 116], [105, 109, 103], [115, 105, 122, 101], [114, 111, 111, 116], [115, 101, 116, 114, 111, 111, 116], [106, 117, 109, 112], [122, 101, 114, 111], [99, 97, 108, 108], [114, 101, 116], [115, 116, 111, 112], [115, 116, 101, 112], [109, 101, 114, 103, 101], [112, 114, 111, 109, 111, 116, 101]]
def txt (l : List UInt8) : ByteArray := ⟨l.toArray⟩
def rowN (op : Int) : Nat := if 1 ≤ op ∧ op ≤ 28 then op.toNat else 0
def fT (op : Int) : List UInt8 := fieldsT.getD (rowN op) []
def rT (op : Int) : List UInt8 := readsT.getD (rowN op) []
def wT (op : Int) : List UInt8 := writesT.getD (rowN op) []
def nT (op : Int) : List UInt8 := namesT.getD (rowN op) []
theorem rowN_lt (op : Int) : rowN op < 29 := by unfold rowN; split <;> omega

/-- The registers that letters name. -/
def regs1 (x : In) (c : Nat) : List Int := if c = 65 then [x.a] else if c = 66 then [x.b] else if c = 67 then [x.c] else if c = 76 then x.l else []
def regsL (x : In) : List UInt8 → List Int
  | [] => []
  | c :: r => regs1 x c.toNat ++ regsL x r

/-- The tables as the program's text lays them: of names, fields, reads and writes. -/
structure Tab1 (w : World) (g : Nat) (l : List (List UInt8)) : Prop where
  cell : ∀ n, n < 29 → w.cell? ⟨g, n, none⟩ = some (.string (txt (l.getD n [])))
theorem Tab1.fr {S : List Nat} {w w' : World} {g : Nat} {l : List (List UInt8)} (h : Tab1 w g l) (f : Fr S w w') (hS : g ∉ S) : Tab1 w' g l :=
  ⟨fun n hn => f.cell1 (h.cell n hn) hS⟩
end Go.Proofs.YtkjkpkmmojchiaaGreatDoor
