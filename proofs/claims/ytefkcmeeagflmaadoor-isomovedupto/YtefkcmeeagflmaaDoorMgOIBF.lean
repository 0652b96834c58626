/-
  Texts of the proof, in their order: HeapA, HeapB, HeapC, HeapG, HeapH, HeapI, HeapJ, HeapK, HeapM, HeapQ; conditions: as each says.
-/
import Derived.Test.YtefkcmeeagflmaaDoorProg
import Derived.WalkKit
import Derived.WalkSpells
import Derived.WalkLawsBesides
import Derived.Deep.QuietTactic
import Derived.BigQuiet
namespace Go.Proofs.YtefkcmeeagflmaaDoor
open Go.RowKit

/-- Block b is a heap that New made. -/
def HB (w : World) (b : Nat) (lim used : Int) (sv : Value) (rk rn : Int) : Prop :=
  w.heap[b]? = some (.cells #[.bool true, .int .i64 lim, .int .i64 used, sv, .int .i64 rk, .int .i64 rn] 100 (0, 0))

/-- What lay in w lies in w', but for the blocks of S. -/
structure Fr (S : List Nat) (w w' : World) : Prop where
  os : w'.os = w.os
  tape : w'.tape = w.tape
  output : w'.output = w.output
  size : w.heap.size ≤ w'.heap.size
  block : ∀ k, k < w.heap.size → k ∉ S → w'.heap[k]? = w.heap[k]?

theorem Fr.refl (S : List Nat) (w : World) : Fr S w w := ⟨rfl, rfl, rfl, Nat.le_refl _, fun _ _ _ => rfl⟩

theorem Fr.trans {S : List Nat} {a b c : World} (h : Fr S a b) (k : Fr S b c) : Fr S a c :=
  ⟨k.os.trans h.os, k.tape.trans h.tape, k.output.trans h.output, Nat.le_trans h.size k.size, fun i hi hS => (k.block i (Nat.lt_of_lt_of_le hi h.size) hS).trans (h.block i hi hS)⟩

theorem Fr.drew {S : List Nat} {a b : World} (h : Fr S a b) : Fr S a b.drew := ⟨h.os, h.tape, h.output, h.size, h.block⟩
theorem Fr.drewN {S : List Nat} {a b : World} (h : Fr S a b) (n : Nat) : Fr S a (b.drewN n) := ⟨h.os, h.tape, h.output, h.size, h.block⟩

theorem Fr.alloc {S : List Nat} {a b : World} (h : Fr S a b) (o : Obj) : Fr S a (b.alloc o) :=
  h.trans ⟨rfl, rfl, rfl, by simp, fun k hk _ => Below.heap_alloc _ _ _ hk⟩

theorem Fr.setCell {S : List Nat} {a b : World} (h : Fr S a b) {p : Addr} (hp : p.block ∈ S ∨ a.heap.size ≤ p.block) (u : Value) : Fr S a (b.setCell p u) :=
  ⟨h.os, h.tape, h.output, by simpa [World.setCell] using h.size, fun k hk hS => by
    rw [Below.heap_setCell]
    · exact h.block k hk hS
    · rintro rfl
      rcases hp with hp | hp
      · exact hS hp
      · omega⟩

theorem Fr.sub {S T : List Nat} {a b : World} (h : Fr S a b) (hT : ∀ k, k ∈ S → k ∈ T ∨ a.heap.size ≤ k) : Fr T a b :=
  ⟨h.os, h.tape, h.output, h.size, fun k hk hS => h.block k hk (fun hm => by rcases hT k hm with h1 | h1; exact hS h1; omega)⟩

theorem Fr.below {S : List Nat} {a b : World} {B : Nat} (h : Fr S a b) (hB : B ≤ a.heap.size) (hS : ∀ k, k ∈ S → B ≤ k) : Below B a b :=
  ⟨h.os, h.tape, h.output, h.size, fun k hk => h.block k (by omega) (fun hm => by have := hS k hm; omega)⟩

theorem Fr.grown {S : List Nat} {a b c : World} {row : Option Nat} (h : Fr S a b) (hg : b.grownBy c row) (hr : ∀ k, row = some k → k ∈ S ∨ a.heap.size ≤ k) : Fr S a c :=
  ⟨hg.os.trans h.os, hg.tape.trans h.tape, hg.output.trans h.output, Nat.le_trans h.size hg.size, fun k hk hS => by
    have h1 := h.size
    rw [hg.block k (by omega) (fun e => by rcases hr k e.symm with h2 | h2; exact hS h2; omega)]
    exact h.block k hk hS⟩

section
variable {w : World} {b : Nat} {lim used : Int} {sv : Value} {rk rn : Int}
theorem HB.c0 (h : HB w b lim used sv rk rn) : w.cell? ⟨b, 0, none⟩ = some (.bool true) := by simp [HB] at h; simp [World.cell?, h]
theorem HB.c1 (h : HB w b lim used sv rk rn) : w.cell? ⟨b, 1, none⟩ = some (.int .i64 lim) := by simp [HB] at h; simp [World.cell?, h]
theorem HB.c2 (h : HB w b lim used sv rk rn) : w.cell? ⟨b, 2, none⟩ = some (.int .i64 used) := by simp [HB] at h; simp [World.cell?, h]
theorem HB.c3 (h : HB w b lim used sv rk rn) : w.cell? ⟨b, 3, none⟩ = some sv := by simp [HB] at h; simp [World.cell?, h]
theorem HB.c4 (h : HB w b lim used sv rk rn) : w.cell? ⟨b, 4, none⟩ = some (.int .i64 rk) := by simp [HB] at h; simp [World.cell?, h]
theorem HB.c5 (h : HB w b lim used sv rk rn) : w.cell? ⟨b, 5, none⟩ = some (.int .i64 rn) := by simp [HB] at h; simp [World.cell?, h]
theorem HB.fz (h : HB w b lim used sv rk rn) (i : Nat) : w.frozen? ⟨b, i, none⟩ = false := by simp [HB] at h; simp [World.frozen?, h]
theorem HB.lt (h : HB w b lim used sv rk rn) : b < w.heap.size := (Array.getElem?_eq_some_iff.1 h).1
theorem HB.fr {S : List Nat} {w' : World} (h : HB w b lim used sv rk rn) (f : Fr S w w') (hb : b ∉ S) : HB w' b lim used sv rk rn := (f.block b h.lt hb).trans h
theorem HB.setUsed (h : HB w b lim used sv rk rn) (u : Int) : HB (w.setCell ⟨b, 2, none⟩ (.int .i64 u)) b lim u sv rk rn := by
  unfold HB at h ⊢
  simp [World.setCell, Array.getElem?_modify, h]
theorem HB.setThings (h : HB w b lim used sv rk rn) (s : Value) : HB (w.setCell ⟨b, 3, none⟩ s) b lim used s rk rn := by
  unfold HB at h ⊢
  simp [World.setCell, Array.getElem?_modify, h]
end

theorem alive_any (b : Nat) (w : World) (h : w.cell? ⟨b, 0, none⟩ = some (.bool true)) :
    Calls Tryd.prog 38 #[.pointer (some ⟨b, 0, none⟩)] w fun e w' => e = .returned (.bool true) ∧ w' = w := by
  go_enter Tryd.func38, Tryd.ntmps38
  go_wp2
  go_ret
  exact ⟨rfl, rfl⟩

/-- The limit that New takes. -/
def cap0 (l : Int) : Int := if l < 0 then 0 else if 10000000 < l then 10000000 else l

set_option maxHeartbeats 400000 in
theorem new_any (l : Int) (w : World) :
    Calls Tryd.prog 20 #[.int .i64 l] w fun e w' => e = .returned (.pointer (some ⟨w.heap.size, 0, none⟩)) ∧ w' = w.alloc (.cells #[.bool true, .int .i64 (cap0 l), .int .i64 0, .slice none 0 0, .int .i64 0, .int .i64 0] 100) := by
  unfold cap0
  go_enter Tryd.func20, Tryd.ntmps20
  go_wp2
  all_goals go_ret
  all_goals exact ⟨rfl, rfl⟩

end Go.Proofs.YtefkcmeeagflmaaDoor
namespace Go.Proofs.YtefkcmeeagflmaaDoor
open Go.RowKit

/-- Append onto a row that the call owns, with where the new row lies: where the old one lay, or behind all that was there. -/
theorem run_append_fp {P : Program} (w : World) (base : Nat) (t ty e : TypeId) (i : TypeInfo) (z : Value) (size bytes : Nat) (ht : P.underlying t = some (.slice e)) (hi : P.info? e = some i) (hz : i.zero = some z)
    (hsize : i.size = size) (hby : i.bytes = bytes) (hzs : z.cells.size = size) (hsz : 0 < size)
    (v : Value) (n : Nat) (xs : List Value) (hown : w.ownsRow base e size v n xs)
    (a : Addr) (m c : Nat) (news : List Value) (hl : news.length = m * size) (hnews : ∀ j u, news[j]? = some u → w.cell? (a.add j) = some u) (h1 : ∀ u ∈ news, u.oneCell' = true)
    (h63 : n + m ≤ maxLen) (hbytes : (n + m) * bytes ≤ 140737488355328) (hbase : base ≤ w.heap.size) :
    ∃ v' w', (Builtin.append_ #[t, t] ty #[v, .slice (some a) m c]).run P w = .ok v' w' ∧ w'.ownsRow base e size v' (n + m) (xs ++ news) ∧ w.grownBy w' v.ownBlock ∧
      (∀ k, v'.ownBlock = some k → v.ownBlock = some k ∨ w.heap.size ≤ k) := by
  obtain ⟨v', w', hr, h2, h3, _⟩ := run_append_own (P := P) w base t ty e i z size bytes ht hi hz hsize hby hzs hsz v n xs hown a m c news hl hnews h1 h63 hbytes hbase
  refine ⟨v', w', hr, h2, h3, ?_⟩
  intro k hk
  have hown' := hown
  rcases hown.2 with ⟨rfl, rfl⟩ | ⟨g, cap, cur, rfl, hbg, hg, hnc, hcm, hcs, htake⟩
  · have hx : xs = [] := List.eq_nil_of_length_eq_zero (by simpa using hown.1)
    subst hx
    obtain ⟨v2, w2, hr2, h22, _, _⟩ := run_append_own (P := P) w w.heap.size t ty e i z size bytes ht hi hz hsize hby hzs hsz (.slice none 0 0) 0 [] (World.ownsRow_nil _ _ _ _) a m c news hl hnews h1 h63 hbytes (Nat.le_refl _)
    rw [hr] at hr2
    injection hr2 with e1 e2
    subst e1
    exact .inr (h22.lt k hk).1
  · by_cases hroom : n + m ≤ cap
    · subst hsize
      have hfit : n * i.size + news.length ≤ cur.size := by rw [hl, hcs, ← Nat.add_mul]; exact Nat.mul_le_mul_right _ hroom
      have hr2 := run_append_room (P := P) w t ty e i ht hi g n cap cur hg a m c news hl hnews h1 hroom hfit
      rw [hr] at hr2
      injection hr2 with e1 e2
      subst e1
      exact .inl hk
    · subst hsize
      subst hby
      have holds : ∀ j u, xs[j]? = some u → w.cell? ((⟨g, 0, none⟩ : Addr).add j) = some u := hown.cells (g := g) rfl
      have hr2 := run_append_grow (P := P) w t ty e i z ht hi hz ⟨g, 0, none⟩ n cap xs hown.1 holds a m c news hl hnews (by omega) (by simp only [maxLen] at h63; omega) (growslice_fits (by omega) hbytes)
      rw [hr] at hr2
      injection hr2 with e1 e2
      subst e1
      simp [Value.ownBlock] at hk
      exact .inr (by omega)

theorem wpList_append_fp {P : Program} (w : World) {ops : Array Oper} {rest : List Oper} {o : Oper} {a : Act} {Q : Exit → Act → World → Prop} (hgd : o.guard = none) (s x : Operand) (t : TypeId)
    (ho : o.op = .call { callee := .builtin .append, args := #[s, x], argTypes := #[t, t] })
    (base : Nat) (e : TypeId) (i : TypeInfo) (z : Value) (size bytes : Nat) (ht : P.underlying t = some (.slice e)) (hi : P.info? e = some i) (hz : i.zero = some z)
    (hsize : i.size = size) (hby : i.bytes = bytes) (hzs : z.cells.size = size) (hsz : 0 < size)
    (v : Value) (n : Nat) (xs : List Value) (hs : a.eval s = v) (hown : w.ownsRow base e size v n xs)
    (ad : Addr) (m c : Nat) (news : List Value) (hx : a.eval x = .slice (some ad) m c) (hl : news.length = m * size) (hnews : ∀ j u, news[j]? = some u → w.cell? (ad.add j) = some u) (h1 : ∀ u ∈ news, u.oneCell' = true)
    (h63 : n + m ≤ maxLen) (hbytes : (n + m) * bytes ≤ 140737488355328) (hbase : base ≤ w.heap.size)
    (h : ∀ v' w', w'.ownsRow base e size v' (n + m) (xs ++ news) → w.grownBy w' v.ownBlock → (∀ k, v'.ownBlock = some k → v.ownBlock = some k ∨ w.heap.size ≤ k) → wpList P ops Q rest (a.put o.dst v') w') : wpList P ops Q (o :: rest) a w := by
  refine wpList_plain hgd fun K hK => ?_
  obtain ⟨v', w', hr, h2, h3, h4⟩ := run_append_fp (P := P) w base t o.type e i z size bytes ht hi hz hsize hby hzs hsz v n xs hown ad m c news hl hnews h1 h63 hbytes hbase
  unfold Oper.wp execOp
  simp only [ho, resolve, invoke, builtin, Sem.run_bind, Sem.run_pure, Result.andThen_ok, List.map_toArray, List.map_cons, List.map_nil, hs, hx, hr]
  exact hK _ _ (h v' w' h2 h3 h4)

theorem under98 : Tryd.prog.underlying 98 = some (.slice 103) := by kernel_rfl
theorem info103 : (Tryd.prog.info? 103).map (fun i => (i.zero, i.size, i.bytes)) = some (some .nilIface, 1, 16) := by kernel_rfl
theorem under23 : Tryd.prog.underlying 23 = some (.slice 45) := by kernel_rfl
theorem info45 : (Tryd.prog.info? 45).map (fun i => (i.zero, i.size, i.bytes)) = some (some (.agg #[.int .i64 0, .int .i64 0]), 2, 16) := by kernel_rfl

set_option maxHeartbeats 400000 in
theorem add_any {B b : Nat} {lim used : Int} {sv : Value} {rk rn : Int} (w : World) (T tb : Nat) (n : Nat) (xs : List Value) (h : HB w b lim used sv rk rn) (ho : w.ownsRow B 103 1 sv n xs) (hn : n ≤ 1000000000000) (hB : B ≤ b) :
    Calls Tryd.prog 39 #[.pointer (some ⟨b, 0, none⟩), .iface T (.pointer (some ⟨tb, 0, none⟩))] w fun e w' => e = .returned (.agg #[.int .i64 2, .int .i64 n]) ∧
      ∃ sv', HB w' b lim used sv' rk rn ∧ w'.ownsRow B 103 1 sv' (n + 1) (xs ++ [.iface T (.pointer (some ⟨tb, 0, none⟩))]) ∧ Fr (b :: sv.ownBlock.toList) w w' ∧ (∀ k, sv'.ownBlock = some k → sv.ownBlock = some k ∨ w.heap.size ≤ k) := by
  obtain ⟨i, hi, hz, hs, hby⟩ := info_parts info103
  have c3 := h.c3
  have hlt := h.lt
  have hn' : n + 1 ≤ maxLen := by unfold maxLen; omega
  go_enter Tryd.func39, Tryd.ntmps39
  go_wp2_with (at_builtin; go_loud (refine wpList_append_fp _ rfl _ _ 98 rfl B 103 i .nilIface 1 16 under98 hi hz hs hby rfl (by decide) sv n xs rfl ?own _ 1 _ [.iface T (.pointer (some ⟨tb, 0, none⟩))] rfl rfl ?news ?one ?max (by omega) ?base ?_))
  case own => exact (ho.alloc _).alloc _
  case news =>
    have e := cell_one_new (w.alloc (Obj.cells #[Value.int IntKind.i64 0, Value.int IntKind.i64 0] 45)) (.iface T (.pointer (some ⟨tb, 0, none⟩))) 103
    rw [show (w.alloc (Obj.cells #[Value.int IntKind.i64 0, Value.int IntKind.i64 0] 45)).heap.size = w.heap.size + 1 from by simp] at e
    exact e
  case one => simp [Value.oneCell']
  case max => exact hn'
  case base => simp; omega
  intro v1 w1 ho1 hg1 hk1
  have hbg : some b ≠ sv.ownBlock := by
    intro hb
    rcases ho.2 with ⟨rfl, _⟩ | ⟨g, cap, cur, rfl, _, hgg, _⟩
    · simp [Value.ownBlock] at hb
    · simp [Value.ownBlock] at hb
      subst hb
      unfold HB at h
      rw [h] at hgg
      simp at hgg
  have hog := ho.lt
  have hH : HB w1 b lim used sv rk rn := by
    unfold HB
    rw [hg1.block b (by simp; omega) hbg]
    unfold HB at h
    rw [← h, Below.heap_alloc _ _ _ (by simp; omega), Below.heap_alloc _ _ _ (by omega)]
  have hL : w1.heap[w.heap.size]? = some (.cells #[.int .i64 0, .int .i64 0] 45) := by
    rw [hg1.block w.heap.size (by simp; omega) (fun e => by have := hog _ e.symm; omega), Below.heap_alloc _ _ _ (by simp)]
    exact heap_alloc_new w _
  have hl0 : w1.cell? ⟨w.heap.size, 0, none⟩ = some (.int .i64 0) := by simp [World.cell?, hL]
  have hl1 : w1.cell? ⟨w.heap.size, 1, none⟩ = some (.int .i64 0) := by simp [World.cell?, hL]
  have hlf : ∀ i, w1.frozen? ⟨w.heap.size, i, none⟩ = false := by intro i; simp [World.frozen?, hL]
  have hf3 := hH.fz 3
  have hc3 := hH.c3
  have hex : ∃ g c, v1 = .slice (some ⟨g, 0, none⟩) (n + 1) c := by
    rcases ho1.2 with ⟨_, e⟩ | ⟨g, cap, cur, e, _⟩
    · omega
    · exact ⟨g, cap, e⟩
  obtain ⟨g, c, hv⟩ := hex
  rw [hv]
  clear c3 hi hz hs hby
  go_wp2
  refine bodyPost_ret (v := .agg #[.int .i64 2, .int .i64 n]) (by simp [results, Tryd.results39, go_sem, hl0, hl1]) rfl ⟨rfl, .slice (some ⟨g, 0, none⟩) (n + 1) c, ?_, ?_, ?_, ?_⟩
  · have h1 := hH.setThings (.slice (some ⟨g, 0, none⟩) (n + 1) c)
    unfold HB at h1 ⊢
    rw [Below.heap_setCell _ _ _ _ (by simp; omega), Below.heap_setCell _ _ _ _ (by simp; omega)]
    exact h1
  · rw [hv] at ho1
    have hgb : g ≠ b := by
      rintro rfl
      rcases ho1.2 with ⟨e, _⟩ | ⟨g', cap, cur, e, _, hgg, _⟩
      · simp at e
      · simp at e
        obtain ⟨rfl, _⟩ := e
        unfold HB at hH
        rw [hH] at hgg
        simp at hgg
    have hgl : g ≠ w.heap.size := by
      rintro rfl
      rcases ho1.2 with ⟨e, _⟩ | ⟨g', cap, cur, e, _, hgg, _⟩
      · simp at e
      · simp at e
        obtain ⟨rfl, _⟩ := e
        rw [hL] at hgg
        simp at hgg
    refine ⟨ho1.1, ?_⟩
    rcases ho1.2 with ⟨e, _⟩ | ⟨g', cap, cur, e, r1, hgg, r2⟩
    · simp at e
    · simp at e
      obtain ⟨rfl, rfl⟩ := e
      refine .inr ⟨g, c, cur, rfl, r1, ?_, r2⟩
      rw [Below.heap_setCell _ _ _ _ (by simp; omega), Below.heap_setCell _ _ _ _ (by simp; omega), Below.heap_setCell _ _ _ _ (by simp; omega)]
      exact hgg
  · refine Fr.setCell (Fr.setCell (Fr.setCell ?_ (.inl (by simp)) _) (.inr (by simp)) _) (.inr (by simp)) _
    exact Fr.grown (((Fr.refl _ _).alloc _).alloc _) hg1 (fun k hk => .inl (by simp [hk]))
  · rw [hv] at hk1
    intro k hk
    rcases hk1 k hk with h1 | h1
    · exact .inl h1
    · exact .inr (by omega)

/-- The cells of a list of values. -/
def flat : List (Int × Int) → List Value
  | [] => []
  | x :: r => .int .i64 x.1 :: .int .i64 x.2 :: flat r

/-- A thing: its own block, the block of its cells, its sort (below 0: an array), its cells. -/
structure Thing where
  tb : Nat
  rb : Nat
  sort : Int
  cells : List (Int × Int)

def Thing.sl (t : Thing) : Value := .slice (some ⟨t.rb, 0, none⟩) t.cells.length t.cells.length
def Thing.val (t : Thing) : Value := .iface (if t.sort < 0 then 129 else 132) (.pointer (some ⟨t.tb, 0, none⟩))
def Thing.body (t : Thing) : Obj := if t.sort < 0 then .cells #[t.sl] 131 (0, 0) else .cells #[t.sl, .int .i64 t.sort] 134 (0, 0)

/-- Thing t lies in w. -/
structure TAt (w : World) (t : Thing) : Prop where
  own : w.heap[t.tb]? = some t.body
  row : w.heap[t.rb]? = some (.cells (flat t.cells).toArray 45 (0, 0))

/-- Block b of w is a heap with the things T; what it writes to lies from B on. -/
structure Rep (w : World) (B b : Nat) (lim used : Int) (sv : Value) (rk rn : Int) (T : List Thing) : Prop where
  hb : HB w b lim used sv rk rn
  row : w.ownsRow B 103 1 sv T.length (T.map Thing.val)
  th : ∀ t, t ∈ T → TAt w t
  sep : (T.map Thing.rb).Nodup
  base : B ≤ b
  rows : ∀ t, t ∈ T → B ≤ t.rb

/-- What a heap writes to. -/
def foot (b : Nat) (sv : Value) (T : List Thing) : List Nat := b :: (sv.ownBlock.toList ++ T.map Thing.rb)

theorem Rep.frame {w w' : World} {S : List Nat} {B b : Nat} {lim used : Int} {sv : Value} {rk rn : Int} {T : List Thing} (h : Rep w B b lim used sv rk rn T) (f : Fr S w w') (hS : ∀ k, k ∈ S → w.heap.size ≤ k) : Rep w' B b lim used sv rk rn T := by
  have hn : ∀ k, k < w.heap.size → k ∉ S := fun k hk hm => by have := hS k hm; omega
  refine ⟨h.hb.fr f (hn _ h.hb.lt), ?_, ?_, h.sep, h.base, h.rows⟩
  · refine ⟨h.row.1, ?_⟩
    rcases h.row.2 with e | ⟨g, cap, cur, e, r1, hgg, r2⟩
    · exact .inl e
    · have hlt := (Array.getElem?_eq_some_iff.1 hgg).1
      exact .inr ⟨g, cap, cur, e, r1, (f.block g hlt (hn _ hlt)).trans hgg, r2⟩
  · intro t ht
    have a := (h.th t ht).own
    have c := (h.th t ht).row
    have la := (Array.getElem?_eq_some_iff.1 a).1
    have lc := (Array.getElem?_eq_some_iff.1 c).1
    exact ⟨(f.block _ la (hn _ la)).trans a, (f.block _ lc (hn _ lc)).trans c⟩

set_option maxHeartbeats 400000 in
theorem laid_rec (w : World) (r : Int) (hr : 0 ≤ r) (s : Option Addr) (n c : Nat) :
    Calls Tryd.prog 40 #[.int .i64 r, .slice s n c] w fun e w' => e = .returned (.iface 132 (.pointer (some ⟨w.heap.size, 0, none⟩))) ∧ w' = w.alloc (.cells #[.slice s n c, .int .i64 r] 134) := by
  go_enter Tryd.func40, Tryd.ntmps40
  go_wp2
  go_ret
  exact ⟨rfl, rfl⟩

set_option maxHeartbeats 400000 in
theorem laid_arr (w : World) (r : Int) (hr : r < 0) (s : Option Addr) (n c : Nat) :
    Calls Tryd.prog 40 #[.int .i64 r, .slice s n c] w fun e w' => e = .returned (.iface 129 (.pointer (some ⟨w.heap.size, 0, none⟩))) ∧ w' = w.alloc (.cells #[.slice s n c] 131) := by
  go_enter Tryd.func40, Tryd.ntmps40
  go_wp2
  go_ret
  exact ⟨rfl, rfl⟩
end Go.Proofs.YtefkcmeeagflmaaDoor
namespace Go.Proofs.YtefkcmeeagflmaaDoor
open Go.RowKit

theorem blk2 (w : World) (o o' : Obj) : ((w.alloc o).alloc o').heap[w.heap.size + 1]? = some o' := by
  have h := heap_alloc_new (w.alloc o) o'
  rw [show (w.alloc o).heap.size = w.heap.size + 1 from by simp] at h
  exact h

theorem TAt.fr {S : List Nat} {w w' : World} {t : Thing} (h : TAt w t) (f : Fr S w w') (h1 : t.tb ∉ S) (h2 : t.rb ∉ S) : TAt w' t :=
  ⟨(f.block _ (Array.getElem?_eq_some_iff.1 h.own).1 h1).trans h.own, (f.block _ (Array.getElem?_eq_some_iff.1 h.row).1 h2).trans h.row⟩

theorem HB.ne_of {w : World} {b : Nat} {lim used : Int} {sv : Value} {rk rn : Int} (h : HB w b lim used sv rk rn) {k : Nat} {c : Array Value} {e : TypeId} {z : Nat × Nat} (hk : w.heap[k]? = some (.cells c e z)) (he : e ≠ 100) : k ≠ b := by
  rintro rfl
  unfold HB at h
  rw [h] at hk
  simp at hk
  exact he hk.2.1.symm

theorem own_ne_of {w : World} {B n : Nat} {sv : Value} {xs : List Value} (h : w.ownsRow B 103 1 sv n xs) {k : Nat} {c : Array Value} {e : TypeId} {z : Nat × Nat} (hk : w.heap[k]? = some (.cells c e z)) (he : e ≠ 103) : some k ≠ sv.ownBlock := by
  rcases h.2 with ⟨rfl, _⟩ | ⟨g, cap, cur, rfl, _, hgg, _⟩
  · simp [Value.ownBlock]
  · simp [Value.ownBlock]
    rintro rfl
    rw [hgg] at hk
    simp at hk
    exact he hk.2.1.symm

theorem TAt.tb_ne {w : World} {t : Thing} (h : TAt w t) : ∃ c e, w.heap[t.tb]? = some (.cells c e (0, 0)) ∧ e ≠ 100 ∧ e ≠ 103 ∧ e ≠ 45 := by
  have h1 := h.own
  unfold Thing.body at h1
  split at h1
  · exact ⟨_, _, h1, by decide, by decide, by decide⟩
  · exact ⟨_, _, h1, by decide, by decide, by decide⟩

theorem TAt.out {w : World} {t : Thing} (h : TAt w t) {B b n : Nat} {lim used : Int} {sv : Value} {rk rn : Int} {xs : List Value} (hb : HB w b lim used sv rk rn) (ho : w.ownsRow B 103 1 sv n xs) :
    t.tb ∉ b :: sv.ownBlock.toList ∧ t.rb ∉ b :: sv.ownBlock.toList := by
  obtain ⟨c, e, h1, h2, h3, _⟩ := h.tb_ne
  have a1 := hb.ne_of h1 h2
  have a2 := own_ne_of ho h1 h3
  have a3 := hb.ne_of h.row (by decide)
  have a4 := own_ne_of ho h.row (by decide)
  refine ⟨?_, ?_⟩
  · simp only [List.mem_cons, Option.mem_toList, not_or]
    exact ⟨a1, fun e => a2 e.symm⟩
  · simp only [List.mem_cons, Option.mem_toList, not_or]
    exact ⟨a3, fun e => a4 e.symm⟩

theorem add_rep {w : World} {B b : Nat} {lim used : Int} {sv : Value} {rk rn : Int} {T : List Thing} (h : Rep w B b lim used sv rk rn T) (t : Thing) (ht : TAt w t) (hnew : t.rb ∉ T.map Thing.rb) (hBt : B ≤ t.rb) (hn : T.length ≤ 1000000000000) (ty tb : Nat) (hv : t.val = .iface ty (.pointer (some ⟨tb, 0, none⟩))) :
    Calls Tryd.prog 39 #[.pointer (some ⟨b, 0, none⟩), .iface ty (.pointer (some ⟨tb, 0, none⟩))] w fun e w' => e = .returned (.agg #[.int .i64 2, .int .i64 T.length]) ∧
      ∃ sv', Rep w' B b lim used sv' rk rn (T ++ [t]) ∧ Fr (b :: sv.ownBlock.toList) w w' ∧ (∀ k, sv'.ownBlock = some k → sv.ownBlock = some k ∨ w.heap.size ≤ k) := by
  refine (add_any w ty tb T.length _ h.hb h.row hn h.base).mono ?_
  rintro e w' ⟨he, sv', h1, h2, h3, h4⟩
  refine ⟨he, sv', ⟨h1, ?_, ?_, ?_, h.base, ?_⟩, h3, h4⟩
  · simpa [← hv] using h2
  · intro u hu
    rcases List.mem_append.1 hu with hu | hu
    · have := h.th u hu
      have o := this.out h.hb h.row
      exact this.fr h3 o.1 o.2
    · simp at hu
      subst hu
      have o := ht.out h.hb h.row
      exact ht.fr h3 o.1 o.2
  · rw [List.map_append, List.nodup_append]
    refine ⟨h.sep, by simp, ?_⟩
    intro a ha c hc
    simp at hc
    subst hc
    rintro rfl
    exact hnew ha
  · intro u hu
    rcases List.mem_append.1 hu with hu | hu
    · exact h.rows u hu
    · simp at hu
      subst hu
      exact hBt

theorem flat_zero : ∀ n : Nat, (madeCells #[Value.int .i64 0, Value.int .i64 0] (n * 2)).toList = flat (List.replicate n ((0 : Int), (0 : Int))) := by
  intro n
  have key : ∀ n : Nat, flat (List.replicate n ((0 : Int), (0 : Int))) = List.replicate (n * 2) (.int .i64 0) := by
    intro n
    induction n with
    | zero => rfl
    | succ n ih => rw [List.replicate_succ]; simp only [flat]; rw [ih]; rw [show (n + 1) * 2 = n * 2 + 1 + 1 from by omega, List.replicate_succ, List.replicate_succ]
  rw [key]
  apply List.ext_getElem?
  intro i
  simp only [madeCells, Array.toList_map, List.getElem?_map, List.getElem?_replicate]
  by_cases hi : i < n * 2
  · rcases Nat.mod_two_eq_zero_or_one i with hm | hm <;> simp [hi, hm]
  · simp [hi]

theorem make_run (n : Nat) (hn : n ≤ 10000000) (w : World) :
    (Instr.makeSlice 23 (.int .i64 (n : Int)) (.int .i64 (n : Int))).run Tryd.prog w = .ok (.slice (some ⟨w.heap.size, 0, none⟩) n n) (w.alloc (.cells (flat (List.replicate n ((0 : Int), (0 : Int)))).toArray 45)) := by
  obtain ⟨i, hi, hz, hs, hby⟩ := info_parts info45
  have h := run_make (P := Tryd.prog) w 23 45 i _ under23 hi hz .i64 .i64 n n (by omega) (Int.le_refl _) (by rw [hby]; omega) (by omega)
  rw [h]
  simp only [Int.toNat_natCast, hs, ← flat_zero, Array.toArray_toList]
  rfl

theorem Rep.setUsed {w : World} {B b : Nat} {lim used : Int} {sv : Value} {rk rn : Int} {T : List Thing} (h : Rep w B b lim used sv rk rn T) (u : Int) : Rep (w.setCell ⟨b, 2, none⟩ (.int .i64 u)) B b lim u sv rk rn T := by
  have hf : Fr [b] w (w.setCell ⟨b, 2, none⟩ (.int .i64 u)) := (Fr.refl _ _).setCell (.inl (by simp)) _
  refine ⟨h.hb.setUsed u, ?_, ?_, h.sep, h.base, h.rows⟩
  · refine ⟨h.row.1, ?_⟩
    rcases h.row.2 with e | ⟨g, cap, cur, e, r1, hgg, r2⟩
    · exact .inl e
    · have hlt := (Array.getElem?_eq_some_iff.1 hgg).1
      exact .inr ⟨g, cap, cur, e, r1, (hf.block g hlt (by simpa using h.hb.ne_of hgg (by decide))).trans hgg, r2⟩
  · intro t ht
    obtain ⟨c, e, h1, h2, _⟩ := (h.th t ht).tb_ne
    exact (h.th t ht).fr hf (by simpa using h.hb.ne_of h1 h2) (by simpa using h.hb.ne_of (h.th t ht).row (by decide))

theorem Rep.lt {w : World} {B b : Nat} {lim used : Int} {sv : Value} {rk rn : Int} {T : List Thing} (h : Rep w B b lim used sv rk rn T) : ∀ k, k ∈ foot b sv T → k < w.heap.size := by
  intro k hk
  unfold foot at hk
  simp only [List.mem_cons, List.mem_append, Option.mem_toList, List.mem_map] at hk
  rcases hk with rfl | hk | ⟨t, ht, rfl⟩
  · exact h.hb.lt
  · exact (h.row.lt k hk).2
  · exact (Array.getElem?_eq_some_iff.1 (h.th t ht).row).1

/-- Stores into the callers' own boxes leave a heap as it is. -/
theorem Rep.boxes {w w' : World} {S : List Nat} {B b : Nat} {lim used : Int} {sv : Value} {rk rn : Int} {T : List Thing} (h : Rep w B b lim used sv rk rn T) (f : Fr S w w')
    (hS : ∀ k, k ∈ S → (∃ c z, w.heap[k]? = some (.cells c 45 z) ∧ k ∉ T.map Thing.rb) ∨ w.heap.size ≤ k) : Rep w' B b lim used sv rk rn T := by
  have nb : b ∉ S := by
    intro hm
    rcases hS b hm with ⟨c, z, e, _⟩ | e
    · exact h.hb.ne_of e (by decide) rfl
    · have := h.hb.lt; omega
  refine ⟨h.hb.fr f nb, ?_, ?_, h.sep, h.base, h.rows⟩
  · refine ⟨h.row.1, ?_⟩
    rcases h.row.2 with e | ⟨g, cap, cur, e, r1, hgg, r2⟩
    · exact .inl e
    · have hlt := (Array.getElem?_eq_some_iff.1 hgg).1
      refine .inr ⟨g, cap, cur, e, r1, (f.block g hlt ?_).trans hgg, r2⟩
      intro hm
      rcases hS g hm with ⟨c, z, e, _⟩ | e
      · rw [hgg] at e
        simp at e
      · omega
  · intro t ht
    have hl := (Array.getElem?_eq_some_iff.1 (h.th t ht).row).1
    obtain ⟨c, e, h1, h2, h3, h4⟩ := (h.th t ht).tb_ne
    have hl2 := (Array.getElem?_eq_some_iff.1 h1).1
    refine (h.th t ht).fr f ?_ ?_
    · intro hm
      rcases hS _ hm with ⟨c', z', e', _⟩ | e'
      · rw [h1] at e'
        simp at e'
        exact h4 e'.2.1
      · omega
    · intro hm
      rcases hS _ hm with ⟨c', z', _, e'⟩ | e'
      · exact e' (List.mem_map.2 ⟨t, ht, rfl⟩)
      · omega

/-- The world as it is when a new record is numbered. -/
theorem rec_world {w : World} {B b : Nat} {lim used : Int} {sv : Value} {rk rn : Int} {T : List Thing} (h : Rep w B b lim used sv rk rn T) (o1 : Obj) (k : Nat) (u : Int) (t : Thing) (h1 : t.rb = w.heap.size + 1) (h2 : t.tb = w.heap.size + 1 + 1) (o3 : Obj) (ho3 : t.body = o3) (X : Array Value) (hX : X = (flat t.cells).toArray) :
    Rep (((((w.alloc o1).drewN k).setCell ⟨b, 2, none⟩ (.int .i64 u)).alloc (.cells X 45)).alloc o3) B b lim u sv rk rn T ∧
    TAt (((((w.alloc o1).drewN k).setCell ⟨b, 2, none⟩ (.int .i64 u)).alloc (.cells X 45)).alloc o3) t ∧
    t.rb ∉ T.map Thing.rb ∧ B ≤ t.rb ∧
    Fr (b :: sv.ownBlock.toList) w (((((w.alloc o1).drewN k).setCell ⟨b, 2, none⟩ (.int .i64 u)).alloc (.cells X 45)).alloc o3) ∧
    (((((w.alloc o1).drewN k).setCell ⟨b, 2, none⟩ (.int .i64 u)).alloc (.cells X 45)).alloc o3).heap[w.heap.size]? = some o1 := by
  subst hX
  subst ho3
  have hlt := h.hb.lt
  have a1 : Rep ((w.alloc o1).drewN k) B b lim used sv rk rn T := h.frame (S := []) (Fr.drewN ((Fr.refl _ _).alloc _) _) (by simp)
  have a2 := a1.setUsed u
  have s2 : (((w.alloc o1).drewN k).setCell ⟨b, 2, none⟩ (.int .i64 u)).heap.size = w.heap.size + 1 := by simp [World.setCell, World.drewN]
  generalize hW : ((w.alloc o1).drewN k).setCell ⟨b, 2, none⟩ (.int .i64 u) = W2 at *
  have f2 : Fr (b :: sv.ownBlock.toList) w W2 := by
    rw [← hW]
    exact Fr.setCell (Fr.drewN ((Fr.refl _ _).alloc _) _) (.inl (by simp)) _
  have n2 : W2.heap[w.heap.size]? = some o1 := by
    rw [← hW, Below.heap_setCell _ _ _ _ (by simp; omega)]
    exact heap_alloc_new w o1
  have a3 := a2.frame (S := []) ((Fr.refl _ _).alloc (.cells (flat t.cells).toArray 45)) (by simp)
  have a4 := a3.frame (S := []) ((Fr.refl _ _).alloc t.body) (by simp)
  refine ⟨a4, ⟨?_, ?_⟩, ?_, ?_, (f2.alloc _).alloc _, ?_⟩
  · rw [h2, ← s2, show W2.heap.size + 1 = (W2.alloc (.cells (flat t.cells).toArray 45)).heap.size from by simp]
    exact heap_alloc_new _ _
  · rw [Below.heap_alloc _ _ _ (by rw [h1, ← s2]; simp), h1, ← s2]
    exact heap_alloc_new _ _
  · intro hm
    have := h.lt t.rb (by unfold foot; simp only [List.mem_cons, List.mem_append]; exact .inr (.inr hm))
    omega
  · have := h.base
    omega
  · rw [Below.heap_alloc _ _ _ (by simp; omega), Below.heap_alloc _ _ _ (by omega)]
    exact n2

theorem Rep.new (w : World) (l : Int) : Rep (w.alloc (.cells #[.bool true, .int .i64 (cap0 l), .int .i64 0, .slice none 0 0, .int .i64 0, .int .i64 0] 100)) w.heap.size w.heap.size (cap0 l) 0 (.slice none 0 0) 0 0 [] :=
  ⟨heap_alloc_new w _, World.ownsRow_nil _ _ _ _, fun _ ht => by simp at ht, by simp, Nat.le_refl _, fun _ ht => by simp at ht⟩

theorem cap0_le (l : Int) : 0 ≤ cap0 l ∧ cap0 l ≤ 10000000 := by unfold cap0; split <;> (try split) <;> omega

set_option maxHeartbeats 400000 in
theorem find_null {w : World} {b : Nat} {lim used : Int} {sv : Value} {rk rn : Int} (h : HB w b lim used sv rk rn) (n : Int) :
    Calls Tryd.prog 53 #[.pointer (some ⟨b, 0, none⟩), .agg #[.int .i64 1, .int .i64 n]] w fun e w' => e = .returned (.tuple #[.nilIface, .int .i64 3]) ∧ Fr [] w w' := by
  have hA : ∀ o, HB (w.alloc o) b lim used sv rk rn := fun o => h.fr (S := []) ((Fr.refl _ _).alloc o) (by simp)
  go_enter Tryd.func53, Tryd.ntmps53
  go_wp2_with (first | (go_at_call 38; refine (alive_any _ _ (hA _).c0).mono ?_; rintro e w' ⟨rfl, rfl⟩))
  go_ret2
  exact ⟨rfl, (Fr.refl _ _).alloc _⟩

end Go.Proofs.YtefkcmeeagflmaaDoor
namespace Go.Proofs.YtefkcmeeagflmaaDoor
open Go.RowKit

set_option maxHeartbeats 400000 in
theorem view_any (tb rb n : Nat) (w : World) (h : w.cell? ⟨tb, 0, none⟩ = some (.slice (some ⟨rb, 0, none⟩) n n)) :
    Calls Tryd.prog 90 #[.pointer (some ⟨tb, 0, none⟩)] w fun e w' => e = .returned (.slice (some ⟨rb, 0, none⟩) n n) ∧ w' = w := by
  go_enter Tryd.func90, Tryd.ntmps90
  go_wp2
  go_ret
  exact ⟨rfl, rfl⟩

theorem ta_rec (a : Addr) (w : World) : (Instr.typeAssert (.iface 132 (.pointer (some a))) 103 132 true).run Tryd.prog w = .ok (.tuple #[.pointer (some a), .bool true]) w := by kernel_rfl
theorem ta_arr (a : Addr) (w : World) : (Instr.typeAssert (.iface 129 (.pointer (some a))) 103 132 true).run Tryd.prog w = .ok (.tuple #[.pointer none, .bool false]) w := by kernel_rfl

set_option maxHeartbeats 400000 in
theorem sort_rec (tb : Nat) (r : Int) (w : World) (h : w.cell? ⟨tb, 1, none⟩ = some (.int .i64 r)) :
    Calls Tryd.prog 54 #[.iface 132 (.pointer (some ⟨tb, 0, none⟩))] w fun e w' => e = .returned (.int .i64 r) ∧ w' = w := by
  have t1 := ta_rec
  have t2 := ta_arr
  go_enter Tryd.func54, Tryd.ntmps54
  go_wp2
  go_ret
  exact ⟨rfl, rfl⟩

set_option maxHeartbeats 400000 in
theorem sort_arr (tb : Nat) (w : World) :
    Calls Tryd.prog 54 #[.iface 129 (.pointer (some ⟨tb, 0, none⟩))] w fun e w' => e = .returned (.int .i64 (-1)) ∧ w' = w := by
  have t1 := ta_rec
  have t2 := ta_arr
  go_enter Tryd.func54, Tryd.ntmps54
  go_wp2
  go_ret
  exact ⟨rfl, rfl⟩

/-- A thing that a value names. -/
theorem Rep.cell {w : World} {B b : Nat} {lim used : Int} {sv : Value} {rk rn : Int} {T : List Thing} (h : Rep w B b lim used sv rk rn T) {i : Nat} {t : Thing} (ht : T[i]? = some t) :
    ∃ g c, sv = .slice (some ⟨g, 0, none⟩) T.length c ∧ w.cell? ⟨g, i, none⟩ = some t.val := by
  have hi : i < T.length := (List.getElem?_eq_some_iff.1 ht).1
  rcases h.row.2 with ⟨_, e⟩ | ⟨g, cap, cur, e, _⟩
  · omega
  · refine ⟨g, cap, e, ?_⟩
    have hc := h.row.cells (g := g) (by rw [e]; rfl) i t.val (by rw [List.getElem?_map, ht]; rfl)
    have hadd : (⟨g, 0, none⟩ : Addr).add i = ⟨g, i, none⟩ := by unfold Addr.add; split <;> simp_all
    rw [hadd] at hc
    exact hc

/-- How long the things are. -/
theorem Rep.slice {w : World} {B b : Nat} {lim used : Int} {sv : Value} {rk rn : Int} {T : List Thing} (h : Rep w B b lim used sv rk rn T) : ∃ a c, sv = .slice a T.length c := by
  rcases h.row.2 with ⟨e1, e2⟩ | ⟨g, cap, cur, e, _⟩
  · exact ⟨none, 0, by rw [e1, e2]⟩
  · exact ⟨_, cap, e⟩

set_option maxHeartbeats 400000 in
theorem find_kind {w : World} {b : Nat} {lim used : Int} {sv : Value} {rk rn : Int} (h : HB w b lim used sv rk rn) (k n : Int) (h1 : (k == 1) = false) (h2 : (k == 2) = false) :
    Calls Tryd.prog 53 #[.pointer (some ⟨b, 0, none⟩), .agg #[.int .i64 k, .int .i64 n]] w fun e w' => e = .returned (.tuple #[.nilIface, .int .i64 6]) ∧ Fr [] w w' := by
  have hA : ∀ o, HB (w.alloc o) b lim used sv rk rn := fun o => h.fr (S := []) ((Fr.refl _ _).alloc o) (by simp)
  have h3 : (k != 2) = true := by simp [bne, h2]
  go_enter Tryd.func53, Tryd.ntmps53
  go_wp2_with (first | (go_at_call 38; refine (alive_any _ _ (hA _).c0).mono ?_; rintro e w' ⟨rfl, rfl⟩))
  go_quiet (fail)
  go_wp2
  go_ret2
  exact ⟨rfl, Fr.drewN ((Fr.refl _ _).alloc _) _⟩

set_option maxHeartbeats 400000 in
theorem find_neg {w : World} {b : Nat} {lim used : Int} {sv : Value} {rk rn : Int} (h : HB w b lim used sv rk rn) (n : Int) (h1 : n < 0) :
    Calls Tryd.prog 53 #[.pointer (some ⟨b, 0, none⟩), .agg #[.int .i64 2, .int .i64 n]] w fun e w' => e = .returned (.tuple #[.nilIface, .int .i64 6]) ∧ Fr [] w w' := by
  have hA : ∀ o, HB (w.alloc o) b lim used sv rk rn := fun o => h.fr (S := []) ((Fr.refl _ _).alloc o) (by simp)
  have hd : decide (n < 0) = true := by simpa using h1
  go_enter Tryd.func53, Tryd.ntmps53
  go_wp2_with (first | (go_at_call 38; refine (alive_any _ _ (hA _).c0).mono ?_; rintro e w' ⟨rfl, rfl⟩))
  go_quiet (fail)
  go_wp2
  go_ret2
  exact ⟨rfl, Fr.drewN ((Fr.refl _ _).alloc _) _⟩

set_option maxHeartbeats 400000 in
theorem find_big {w : World} {B b : Nat} {lim used : Int} {sv : Value} {rk rn : Int} {T : List Thing} (R : Rep w B b lim used sv rk rn T) (n : Int) (h0 : 0 ≤ n) (h1 : (T.length : Int) ≤ n) :
    Calls Tryd.prog 53 #[.pointer (some ⟨b, 0, none⟩), .agg #[.int .i64 2, .int .i64 n]] w fun e w' => e = .returned (.tuple #[.nilIface, .int .i64 6]) ∧ Fr [] w w' := by
  obtain ⟨a, c, rfl⟩ := R.slice
  have hA : ∀ o, HB (w.alloc o) b lim used (.slice a T.length c) rk rn := fun o => R.hb.fr (S := []) ((Fr.refl _ _).alloc o) (by simp)
  have c3 := fun o => (hA o).c3
  have hd : decide (n < 0) = false := by simpa using h0
  have hd2 : decide ((T.length : Int) ≤ n) = true := by simpa using h1
  have hlt := R.hb.lt
  go_enter Tryd.func53, Tryd.ntmps53
  go_wp2_with (first | (go_at_call 38; refine (alive_any _ _ (hA _).c0).mono ?_; rintro e w' ⟨rfl, rfl⟩))
  go_quiet (fail)
  go_wp2
  go_ret2
  exact ⟨rfl, Fr.drewN ((Fr.refl _ _).alloc _) _⟩

set_option maxHeartbeats 400000 in
theorem find_ok {w : World} {B b : Nat} {lim used : Int} {sv : Value} {rk rn : Int} {T : List Thing} (R : Rep w B b lim used sv rk rn T) (i : Nat) (t : Thing) (ht : T[i]? = some t) :
    Calls Tryd.prog 53 #[.pointer (some ⟨b, 0, none⟩), .agg #[.int .i64 2, .int .i64 (i : Int)]] w fun e w' => e = .returned (.tuple #[t.val, .int .i64 0]) ∧ Fr [] w w' := by
  obtain ⟨g, c, rfl, hcell⟩ := R.cell ht
  have hi : i < T.length := (List.getElem?_eq_some_iff.1 ht).1
  have hlt := R.hb.lt
  have hA : ∀ o, HB (w.alloc o) b lim used (.slice (some ⟨g, 0, none⟩) T.length c) rk rn := fun o => R.hb.fr (S := []) ((Fr.refl _ _).alloc o) (by simp)
  have c3 := fun o => (hA o).c3
  have hgl : g < w.heap.size := (R.row.lt g rfl).2
  have hd : decide ((i : Int) < 0) = false := by simp
  have hd2 : decide ((T.length : Int) ≤ (i : Int)) = false := by simp; omega
  have c4 : ∀ o, (w.alloc o).cell? ⟨g, i, none⟩ = some t.val := fun o => by rw [World.cell?_of_block (w := w) (Below.heap_alloc w o g hgl)]; exact hcell
  unfold Thing.val at c4 ⊢
  generalize (if t.sort < 0 then (129 : Nat) else 132) = ty at c4 ⊢
  generalize t.tb = tb at c4 ⊢
  go_enter Tryd.func53, Tryd.ntmps53
  go_wp2_with (first | (go_at_call 38; refine (alive_any _ _ (hA _).c0).mono ?_; rintro e w' ⟨rfl, rfl⟩))
  go_quiet (fail)
  go_wp2
  go_quiet (fail)
  go_wp2
  go_ret2
  exact ⟨rfl, Fr.drewN (Fr.drewN ((Fr.refl _ _).alloc _) _) _⟩
end Go.Proofs.YtefkcmeeagflmaaDoor
namespace Go.Proofs.YtefkcmeeagflmaaDoor
open Go.RowKit

/-- A value that names no thing. -/
def bad (T : List Thing) (k n : Int) : Prop := ¬ (k = 2 ∧ 0 ≤ n ∧ n < T.length)

/-- The trap of a value that names no thing. -/
def trapOf (k : Int) : Int := if k = 1 then 3 else 6
theorem trapOf_ne (k : Int) : (trapOf k != 0) = true := by unfold trapOf; split <;> rfl
theorem trapOf_ne' (k : Int) : (trapOf k == 0) = false := by unfold trapOf; split <;> rfl

theorem find_bad {w : World} {B b : Nat} {lim used : Int} {sv : Value} {rk rn : Int} {T : List Thing} (R : Rep w B b lim used sv rk rn T) (k n : Int) (h : bad T k n) :
    Calls Tryd.prog 53 #[.pointer (some ⟨b, 0, none⟩), .agg #[.int .i64 k, .int .i64 n]] w fun e w' => e = .returned (.tuple #[.nilIface, .int .i64 (trapOf k)]) ∧ Fr [] w w' := by
  unfold trapOf
  by_cases h1 : k = 1
  · subst h1
    rw [if_pos rfl]
    exact find_null R.hb n
  · rw [if_neg h1]
    by_cases h2 : k = 2
    · subst h2
      by_cases h3 : n < 0
      · exact find_neg R.hb n h3
      · exact find_big R n (by omega) (by unfold bad at h; omega)
    · exact find_kind R.hb k n (by simpa using h1) (by simpa using h2)

theorem meth132 (tb : Nat) (w : World) : (method 272 132 (.pointer (some ⟨tb, 0, none⟩)) "swath/heap.view").run Tryd.prog w = .ok (90, .pointer (some ⟨tb, 0, none⟩)) w := by kernel_rfl
theorem meth129 (tb : Nat) (w : World) : (method 272 129 (.pointer (some ⟨tb, 0, none⟩)) "swath/heap.view").run Tryd.prog w = .ok (90, .pointer (some ⟨tb, 0, none⟩)) w := by kernel_rfl

theorem TAt.recd {w : World} {t : Thing} (h : TAt w t) (hs : 0 ≤ t.sort) : w.cell? ⟨t.tb, 0, none⟩ = some t.sl ∧ w.cell? ⟨t.tb, 1, none⟩ = some (.int .i64 t.sort) := by
  have h1 := h.own
  unfold Thing.body at h1
  rw [if_neg (by omega)] at h1
  constructor <;> simp [World.cell?, h1]

theorem TAt.arr {w : World} {t : Thing} (h : TAt w t) (hs : t.sort < 0) : w.cell? ⟨t.tb, 0, none⟩ = some t.sl := by
  have h1 := h.own
  unfold Thing.body at h1
  rw [if_pos hs] at h1
  simp [World.cell?, h1]

theorem TAt.later {w w' : World} {t : Thing} (h : TAt w t) (f : Fr [] w w') : TAt w' t := h.fr f (by simp) (by simp)

theorem val_rec {t : Thing} (h : 0 ≤ t.sort) : t.val = .iface 132 (.pointer (some ⟨t.tb, 0, none⟩)) := by unfold Thing.val; rw [if_neg (by omega)]
theorem val_arr {t : Thing} (h : t.sort < 0) : t.val = .iface 129 (.pointer (some ⟨t.tb, 0, none⟩)) := by unfold Thing.val; rw [if_pos h]

/-- What a thing is, wherever it lies. -/
def Thing.abs (t : Thing) : Int × List (Int × Int) := (t.sort, t.cells)

/-- The trap of a record's cell. -/
def fieldTrap (O : List (Int × List (Int × Int))) (k n r a : Int) : Int :=
  if k = 1 then 3 else if k = 2 ∧ 0 ≤ n then
    match O[n.toNat]? with
    | some o => if 0 ≤ r ∧ o.1 = r ∧ 0 ≤ a ∧ a < o.2.length then 0 else 6
    | none => 6
  else 6

theorem fieldTrap_zero {T : List Thing} {k n r a : Int} (h : fieldTrap (T.map Thing.abs) k n r a = 0) : ∃ (i j : Nat) (t : Thing), k = 2 ∧ n = i ∧ a = j ∧ T[i]? = some t ∧ t.sort = r ∧ 0 ≤ t.sort ∧ j < t.cells.length := by
  unfold fieldTrap at h
  split at h
  · omega
  · split at h
    · rename_i h2
      split at h
      · rename_i o ho
        split at h
        · rename_i h3
          rw [List.getElem?_map] at ho
          cases hT : T[n.toNat]? with
          | none => rw [hT] at ho; simp at ho
          | some t =>
            rw [hT] at ho
            simp at ho
            subst ho
            simp only [Thing.abs] at h3
            exact ⟨n.toNat, a.toNat, t, h2.1, by omega, by omega, hT, h3.2.1, by omega, by omega⟩
        · omega
      · omega
    · omega

theorem bad_or (T : List Thing) (k n : Int) : bad T k n ∨ ∃ (i : Nat) (t : Thing), k = 2 ∧ n = i ∧ T[i]? = some t := by
  by_cases h : k = 2 ∧ 0 ≤ n ∧ n < T.length
  · right
    have hi : n.toNat < T.length := by omega
    exact ⟨n.toNat, T[n.toNat], h.1, by omega, List.getElem?_eq_getElem hi⟩
  · exact .inl h

theorem fieldTrap_bad {T : List Thing} {k n : Int} (h : bad T k n) (r a : Int) : fieldTrap (T.map Thing.abs) k n r a = trapOf k := by
  unfold fieldTrap trapOf
  split
  · rfl
  · split
    · rename_i h2
      have : (T.map Thing.abs)[n.toNat]? = none := by
        rw [List.getElem?_eq_none_iff, List.length_map]
        unfold bad at h
        omega
      rw [this]
    · rfl

end Go.Proofs.YtefkcmeeagflmaaDoor
namespace Go.Proofs.YtefkcmeeagflmaaDoor
open Go.RowKit

theorem flat_length : ∀ cs : List (Int × Int), (flat cs).length = cs.length * 2
  | [] => rfl
  | _ :: r => by simp only [flat, List.length_cons, flat_length r]; omega

theorem flat_at : ∀ (cs : List (Int × Int)) (a : Nat) (x : Int × Int), cs[a]? = some x → (flat cs)[a * 2]? = some (.int .i64 x.1) ∧ (flat cs)[a * 2 + 1]? = some (.int .i64 x.2)
  | [], _, _, h => by simp at h
  | y :: r, 0, x, h => by simp at h; subst h; exact ⟨rfl, rfl⟩
  | y :: r, a + 1, x, h => by
    have ih := flat_at r a x (by simpa using h)
    rw [show (a + 1) * 2 = a * 2 + 1 + 1 from by omega]
    simpa [flat] using ih

theorem flat_set : ∀ (cs : List (Int × Int)) (a : Nat) (x : Int × Int), flat (cs.set a x) = ((flat cs).set (a * 2) (.int .i64 x.1)).set (a * 2 + 1) (.int .i64 x.2)
  | [], _, _ => by simp [flat]
  | y :: r, 0, x => by simp [flat]
  | y :: r, a + 1, x => by
    have ih := flat_set r a x
    rw [show (a + 1) * 2 = a * 2 + 1 + 1 from by omega]
    simp [flat, ih]

theorem TAt.cells {w : World} {t : Thing} (h : TAt w t) {a : Nat} {x : Int × Int} (hx : t.cells[a]? = some x) : w.cell? ⟨t.rb, a * 2, none⟩ = some (.int .i64 x.1) ∧ w.cell? ⟨t.rb, a * 2 + 1, none⟩ = some (.int .i64 x.2) := by
  have h1 := h.row
  have h2 := flat_at t.cells a x hx
  constructor
  · simp [World.cell?, h1, h2.1]
  · simp [World.cell?, h1, h2.2]

theorem TAt.fz {w : World} {t : Thing} (h : TAt w t) (i : Nat) : w.frozen? ⟨t.rb, i, none⟩ = false := by simp [World.frozen?, h.row]

/-- Thing t with x in its cell a. -/
def Thing.put (t : Thing) (a : Nat) (x : Int × Int) : Thing := { t with cells := t.cells.set a x }

theorem Thing.put_val (t : Thing) (a : Nat) (x : Int × Int) : (t.put a x).val = t.val := rfl
theorem Thing.put_body (t : Thing) (a : Nat) (x : Int × Int) : (t.put a x).body = t.body := by simp [Thing.body, Thing.put, Thing.sl]

theorem Rep.put {w : World} {B b : Nat} {lim used : Int} {sv : Value} {rk rn : Int} {T : List Thing} (R : Rep w B b lim used sv rk rn T) {i : Nat} {t : Thing} (ht : T[i]? = some t) (a : Nat) (x : Int × Int) :
    Rep ((w.setCell ⟨t.rb, a * 2, none⟩ (.int .i64 x.1)).setCell ⟨t.rb, a * 2 + 1, none⟩ (.int .i64 x.2)) B b lim used sv rk rn (T.set i (t.put a x)) := by
  have hm := List.mem_of_getElem? ht
  have hi : i < T.length := (List.getElem?_eq_some_iff.1 ht).1
  have hti : T[i] = t := (List.getElem?_eq_some_iff.1 ht).2
  have hTA := R.th t hm
  have f : Fr [t.rb] w ((w.setCell ⟨t.rb, a * 2, none⟩ (.int .i64 x.1)).setCell ⟨t.rb, a * 2 + 1, none⟩ (.int .i64 x.2)) := Fr.setCell (Fr.setCell (Fr.refl _ _) (.inl (by simp)) _) (.inl (by simp)) _
  have hnew : ((w.setCell ⟨t.rb, a * 2, none⟩ (.int .i64 x.1)).setCell ⟨t.rb, a * 2 + 1, none⟩ (.int .i64 x.2)).heap[t.rb]? = some (.cells (flat (t.cells.set a x)).toArray 45 (0, 0)) := by
    simp [World.setCell, Array.getElem?_modify, hTA.row, flat_set]
  have hmap : (T.set i (t.put a x)).map Thing.rb = T.map Thing.rb := by
    rw [List.map_set]
    show (T.map Thing.rb).set i t.rb = _
    rw [← hti, ← List.getElem_map (f := Thing.rb) (h := by simpa using hi), List.set_getElem_self]
  have hmapv : (T.set i (t.put a x)).map Thing.val = T.map Thing.val := by
    rw [List.map_set, Thing.put_val]
    rw [← hti, ← List.getElem_map (f := Thing.val) (h := by simpa using hi), List.set_getElem_self]
  refine ⟨R.hb.fr f (by simpa using (R.hb.ne_of hTA.row (by decide)).symm), ?_, ?_, by rw [hmap]; exact R.sep, R.base, ?_⟩
  · rw [hmapv, List.length_set]
    refine ⟨R.row.1, ?_⟩
    rcases R.row.2 with e | ⟨g, cap, cur, e, r1, hgg, r2⟩
    · exact .inl e
    · have hlt := (Array.getElem?_eq_some_iff.1 hgg).1
      refine .inr ⟨g, cap, cur, e, r1, (f.block g hlt ?_).trans hgg, r2⟩
      simp
      rintro rfl
      rw [hTA.row] at hgg
      simp at hgg
  · intro u hu
    obtain ⟨j, hj, hju⟩ := List.getElem_of_mem hu
    rw [List.length_set] at hj
    rw [List.getElem_set] at hju
    split at hju
    · subst hju
      refine ⟨?_, hnew⟩
      rw [Thing.put_body]
      obtain ⟨c, e, h1, _, _, h4⟩ := hTA.tb_ne
      refine (f.block t.tb (Array.getElem?_eq_some_iff.1 h1).1 ?_).trans hTA.own
      simp
      intro he
      rw [he, hTA.row] at h1
      simp at h1
      exact h4 h1.2.symm
    · rename_i hne
      have hum : u ∈ T := by rw [← hju]; exact List.getElem_mem _
      have hTu := R.th u hum
      obtain ⟨c, e, h1, _, _, h4⟩ := hTu.tb_ne
      refine hTu.fr f ?_ ?_
      · simp
        intro he
        rw [he, hTA.row] at h1
        simp at h1
        exact h4 h1.2.symm
      · simp
        intro he
        have hnd := List.pairwise_iff_getElem.1 R.sep
        have hij : i < j ∨ j < i := by omega
        rcases hij with hij | hij
        · have := hnd i j (by simpa using hi) (by simpa using hj) hij
          simp [hti, hju, he] at this
        · have := hnd j i (by simpa using hj) (by simpa using hi) hij
          simp [hti, hju, he] at this
  · intro u hu
    obtain ⟨j, hj, hju⟩ := List.getElem_of_mem hu
    rw [List.length_set] at hj
    rw [List.getElem_set] at hju
    split at hju
    · subst hju
      exact R.rows t hm
    · exact R.rows u (by rw [← hju]; exact List.getElem_mem _)

end Go.Proofs.YtefkcmeeagflmaaDoor
namespace Go.Proofs.YtefkcmeeagflmaaDoor
open Go.RowKit

/-- The trap of an array. -/
def arrTrap (O : List (Int × List (Int × Int))) (k n : Int) : Int :=
  if k = 1 then 3 else if k = 2 ∧ 0 ≤ n then
    match O[n.toNat]? with
    | some o => if o.1 < 0 then 0 else 6
    | none => 6
  else 6

/-- The trap of an array's cell. -/
def elemTrap (O : List (Int × List (Int × Int))) (k n ak an : Int) : Int :=
  if k = 1 then 3 else if k = 2 ∧ 0 ≤ n then
    match O[n.toNat]? with
    | some o => if o.1 < 0 then (if ak = 0 then (if 0 ≤ an ∧ an < o.2.length then 0 else 2) else 6) else 6
    | none => 6
  else 6

theorem arrTrap_bad {T : List Thing} {k n : Int} (h : bad T k n) : arrTrap (T.map Thing.abs) k n = trapOf k := by
  unfold arrTrap trapOf
  split
  · rfl
  · split
    · have : (T.map Thing.abs)[n.toNat]? = none := by
        rw [List.getElem?_eq_none_iff, List.length_map]
        unfold bad at h
        omega
      rw [this]
    · rfl

theorem elemTrap_bad {T : List Thing} {k n : Int} (h : bad T k n) (ak an : Int) : elemTrap (T.map Thing.abs) k n ak an = trapOf k := by
  unfold elemTrap trapOf
  split
  · rfl
  · split
    · have : (T.map Thing.abs)[n.toNat]? = none := by
        rw [List.getElem?_eq_none_iff, List.length_map]
        unfold bad at h
        omega
      rw [this]
    · rfl

theorem arrTrap_at {T : List Thing} {i : Nat} {t : Thing} (ht : T[i]? = some t) : arrTrap (T.map Thing.abs) 2 (i : Int) = if t.sort < 0 then 0 else 6 := by
  unfold arrTrap
  rw [if_neg (by omega), if_pos (by omega), Int.toNat_natCast, List.getElem?_map, ht]
  rfl

theorem elemTrap_at {T : List Thing} {i : Nat} {t : Thing} (ht : T[i]? = some t) (ak an : Int) : elemTrap (T.map Thing.abs) 2 (i : Int) ak an = if t.sort < 0 then (if ak = 0 then (if 0 ≤ an ∧ an < t.cells.length then 0 else 2) else 6) else 6 := by
  unfold elemTrap
  rw [if_neg (by omega), if_pos (by omega), Int.toNat_natCast, List.getElem?_map, ht]
  rfl

end Go.Proofs.YtefkcmeeagflmaaDoor
namespace Go.Proofs.YtefkcmeeagflmaaDoor
open Go.RowKit

theorem blk3 (w : World) (o o' o'' : Obj) : (((w.alloc o).alloc o').alloc o'').heap[w.heap.size + 1 + 1]? = some o'' := by
  have h := blk2 (w.alloc o) o' o''
  rw [show (w.alloc o).heap.size = w.heap.size + 1 from by simp] at h
  exact h

end Go.Proofs.YtefkcmeeagflmaaDoor
namespace Go.Proofs.YtefkcmeeagflmaaDoor
open Go.RowKit

/-- The trap of a new array. -/
def arrMake (lim used k n : Int) : Int := if k = 0 then (if n < 0 then 2 else if lim - used < 1 + n then 5 else 0) else 6

theorem mk_world {w : World} {B b : Nat} {lim used : Int} {sv : Value} {rk rn : Int} {T : List Thing} (h : Rep w B b lim used sv rk rn T) (m : Nat) (hm : w.heap.size = m) (o1 : Obj) (k : Nat) (u : Int) (t : Thing) (h1 : t.rb = m + 1) (h2 : t.tb = m + 1 + 1) (o3 : Obj) (ho3 : t.body = o3) (X : Array Value) (hX : X = (flat t.cells).toArray) :
    Rep (((((w.alloc o1).drewN k).setCell ⟨b, 2, none⟩ (.int .i64 u)).alloc (.cells X 45)).alloc o3) B b lim u sv rk rn T ∧
    TAt (((((w.alloc o1).drewN k).setCell ⟨b, 2, none⟩ (.int .i64 u)).alloc (.cells X 45)).alloc o3) t ∧
    t.rb ∉ T.map Thing.rb ∧ B ≤ t.rb ∧
    Fr (b :: sv.ownBlock.toList) w (((((w.alloc o1).drewN k).setCell ⟨b, 2, none⟩ (.int .i64 u)).alloc (.cells X 45)).alloc o3) ∧
    (((((w.alloc o1).drewN k).setCell ⟨b, 2, none⟩ (.int .i64 u)).alloc (.cells X 45)).alloc o3).heap[m]? = some o1 := by
  subst hm
  exact rec_world h o1 k u t h1 h2 o3 ho3 X hX

theorem make_int (n : Int) (h0 : 0 ≤ n) (hn : n ≤ 10000000) (w : World) :
    (Instr.makeSlice 23 (.int .i64 n) (.int .i64 n)).run Tryd.prog w = .ok (.slice (some ⟨w.heap.size, 0, none⟩) n.toNat n.toNat) (w.alloc (.cells (flat (List.replicate n.toNat ((0 : Int), (0 : Int)))).toArray 45)) := by
  obtain ⟨m, rfl⟩ := Int.eq_ofNat_of_zero_le h0
  rw [Int.toNat_natCast]
  exact make_run m (by omega) w

end Go.Proofs.YtefkcmeeagflmaaDoor
namespace Go.Proofs.YtefkcmeeagflmaaDoor
open Go.RowKit

/-- The values xs lie at a slice's place. -/
def Lies (w : World) (a : Option Addr) (xs : List (Int × Int)) : Prop := 0 < xs.length → ∃ ad, a = some ad ∧ ∀ j u, (flat xs)[j]? = some u → w.cell? (ad.add j) = some u

theorem flat_one : ∀ (xs : List (Int × Int)) (u : Value), u ∈ flat xs → u.oneCell' = true
  | [], _, h => by simp [flat] at h
  | x :: r, u, h => by
    simp only [flat, List.mem_cons] at h
    rcases h with rfl | rfl | h
    · rfl
    · rfl
    · exact flat_one r u h

theorem run_copy_rows {P : Program} (w : World) (dT sT ty elem : TypeId) (size : Nat) (g n dCap : Nat) (a : Addr) (sCap : Nat) (cur : Array Value) (t : TypeId) (cs : List Value)
    (hu : P.underlying dT = some (.slice elem)) (hs : (P.info? elem).map (·.size) = some size)
    (hg : w.heap[g]? = some (.cells cur t (0, 0))) (hn : cs.length = n * size)
    (hsrc : ∀ j v, cs[j]? = some v → w.cell? (a.add j) = some v) (hfit : cs.length = cur.size) (h1 : ∀ v ∈ cs, v.oneCell' = true) :
    (Builtin.copy_ #[dT, sT] ty #[.slice (some ⟨g, 0, none⟩) n dCap, .slice (some a) n sCap]).run P w = .ok (goInt n) (w.setRow g cs.toArray) := by
  have hl := run_loadCells_list (P := P) w a cs hsrc
  have hst := run_storeCells_at P g 0 t cs 0 cur w hg (by simp; omega) h1
  have hcut : (cur.toList.take 0 ++ cs ++ cur.toList.drop cs.length).toArray = cs.toArray := by
    rw [List.drop_of_length_le (by simp; omega)]
    simp
  simp only [Nat.add_zero, Nat.zero_add, hcut] at hst
  cases hq : P.info? elem with
  | none => simp [hq] at hs
  | some i =>
    have hi : i.size = size := by simpa [hq] using hs
    simp [Builtin.copy_, run_underlying hu, Builtin.lenOf, Builtin.firstCells, sizeOf, typeInfo, hq, hi, ← hn, hl, hst]

theorem size30 : (Tryd.prog.info? 45).map (·.size) = some 2 := by kernel_rfl

/-- The world behind copied. -/
theorem copy_world (w : World) (xs : List (Int × Int)) : ∃ w', (w.alloc (.cells (flat (List.replicate xs.length ((0 : Int), (0 : Int)))).toArray 45)).setRow w.heap.size (flat xs).toArray = w' ∧ w'.heap[w.heap.size]? = some (.cells (flat xs).toArray 45 (0, 0)) ∧ w'.heap.size = w.heap.size + 1 ∧ Fr [] w w' := by
  refine ⟨_, rfl, setRow_heap _ _ _ _ _ _ (heap_alloc_new w _), by simp [World.setRow], rfl, rfl, rfl, by simp [World.setRow], fun k hk _ => ?_⟩
  rw [setRow_other _ _ _ _ (by omega)]
  exact Below.heap_alloc _ _ _ hk

theorem copy_run (w : World) (xs : List (Int × Int)) (a : Option Addr) (c : Nat) (h : Lies w a xs) (h0 : xs.length = 0 → a = none → c = 0) (ty : TypeId) :
    ∃ w', (Builtin.copy_ #[23, 23] ty #[.slice (some ⟨w.heap.size, 0, none⟩) xs.length xs.length, .slice a xs.length c]).run Tryd.prog (w.alloc (.cells (flat (List.replicate xs.length ((0 : Int), (0 : Int)))).toArray 45)) = .ok (goInt xs.length) w' ∧ w'.heap[w.heap.size]? = some (.cells (flat xs).toArray 45 (0, 0)) ∧ w'.heap.size = w.heap.size + 1 ∧ Fr [] w w' := by
  by_cases hp : 0 < xs.length
  · obtain ⟨ad, rfl, hc⟩ := h hp
    obtain ⟨w', e, h1, h2, h3⟩ := copy_world w xs
    refine ⟨w', ?_, h1, h2, h3⟩
    rw [← e]
    refine run_copy_rows _ 23 23 ty 45 2 _ xs.length xs.length ad c _ 45 (flat xs) under23 size30 (heap_alloc_new w _) (flat_length xs) ?_ ?_ (flat_one xs)
    · intro j u hj
      have hcj := hc j u hj
      have hlt := World.block_lt_of_cell? w _ hcj
      rw [World.cell?_of_block (w := w) (Below.heap_alloc w _ _ hlt)]
      exact hcj
    · simp [flat_length]
  · obtain rfl : xs = [] := List.eq_nil_of_length_eq_zero (by omega)
    refine ⟨w.alloc (.cells #[] 45), ?_, heap_alloc_new w _, by simp, (Fr.refl _ _).alloc _⟩
    cases a with
    | none =>
      have := h0 rfl rfl
      subst this
      exact run_copy_nil (P := Tryd.prog) _ 23 23 ty 45 _ 0 0 under23 (by rw [size30]; rfl)
    | some ad =>
      have e := run_copy_rows (P := Tryd.prog) (w.alloc (.cells #[] 45)) 23 23 ty 45 2 w.heap.size 0 0 ad c #[] 45 [] under23 size30 (heap_alloc_new w _) (by simp) (by simp) (by simp) (by simp)
      rw [show (w.alloc (.cells #[] 45)).setRow w.heap.size #[] = w.alloc (.cells #[] 45) from setRow_self _ _ _ 45 (0, 0) (heap_alloc_new w _)] at e
      exact e

set_option maxHeartbeats 400000 in
theorem copied_any (w : World) (xs : List (Int × Int)) (a : Option Addr) (c : Nat) (h : Lies w a xs) (h0 : xs.length = 0 → a = none → c = 0) (hn : xs.length ≤ 10000000) :
    Calls Tryd.prog 41 #[.slice a xs.length c] w fun e w' => e = .returned (.slice (some ⟨w.heap.size, 0, none⟩) xs.length xs.length) ∧ w'.heap[w.heap.size]? = some (.cells (flat xs).toArray 45 (0, 0)) ∧ w'.heap.size = w.heap.size + 1 ∧ Fr [] w w' := by
  have hmk := make_run xs.length hn
  obtain ⟨w', hr, q1, q2, q3⟩ := copy_run w xs a c h h0 3
  go_enter Tryd.func41, Tryd.ntmps41
  go_wp2
  go_ret
  exact ⟨rfl, q1, q2, q3⟩

theorem Lies.fr {S : List Nat} {w w' : World} {a : Option Addr} {xs : List (Int × Int)} (h : Lies w a xs) (f : Fr S w w') (hS : ∀ ad, a = some ad → ad.block ∉ S) : Lies w' a xs := by
  intro hp
  obtain ⟨ad, e, hc⟩ := h hp
  refine ⟨ad, e, fun j u hj => ?_⟩
  have hcj := hc j u hj
  have hlt := World.block_lt_of_cell? w _ hcj
  have hb : (ad.add j).block = ad.block := by unfold Addr.add; split <;> rfl
  rw [World.cell?_of_block (w := w) (f.block _ hlt (by rw [hb]; exact hS ad e))]
  exact hcj

theorem TAt.mk' {w : World} (t : Thing) (m : Nat) (hm : w.heap.size = m) (htb : t.tb = m) (hr : w.heap[t.rb]? = some (.cells (flat t.cells).toArray 45 (0, 0))) (o : Obj) (ho : t.body = o) : TAt (w.alloc o) t := by
  subst hm
  subst ho
  refine ⟨by rw [htb]; exact heap_alloc_new w _, ?_⟩
  rw [Below.heap_alloc _ _ _ (Array.getElem?_eq_some_iff.1 hr).1]
  exact hr

theorem lay_world {w w2 : World} {B b : Nat} {lim used : Int} {sv : Value} {rk rn : Int} {T : List Thing} (R : Rep w B b lim used sv rk rn T) {o1 : Obj} {xs : List (Int × Int)}
    (q1 : w2.heap[(w.alloc o1).heap.size]? = some (.cells (flat xs).toArray 45)) (q2 : w2.heap.size = (w.alloc o1).heap.size + 1) (q3 : Fr [] (w.alloc o1) w2) (t : Thing) (h1 : t.rb = w.heap.size + 1) (h2 : t.tb = w.heap.size + 1 + 1) (h3 : t.cells = xs) (o3 : Obj) (ho3 : t.body = o3) :
    w2.heap.size = w.heap.size + 1 + 1 ∧ Rep (w2.alloc o3) B b lim used sv rk rn T ∧ TAt (w2.alloc o3) t ∧ t.rb ∉ T.map Thing.rb ∧ B ≤ t.rb ∧ Fr (b :: sv.ownBlock.toList) w (w2.alloc o3) ∧ (w2.alloc o3).heap[w.heap.size]? = some o1 := by
  have s1 : (w.alloc o1).heap.size = w.heap.size + 1 := by simp
  rw [s1] at q1 q2
  have f : Fr [] w w2 := ((Fr.refl _ _).alloc o1).trans q3
  refine ⟨q2, R.frame (f.alloc o3) (by simp), TAt.mk' t (w.heap.size + 1 + 1) q2 h2 (by rw [h1, h3]; exact q1) o3 ho3, ?_, ?_, (f.alloc o3).sub (by simp), ?_⟩
  · intro hm
    have := R.lt t.rb (by unfold foot; simp only [List.mem_cons, List.mem_append]; exact .inr (.inr hm))
    omega
  · have := R.base
    have := R.hb.lt
    omega
  · rw [Below.heap_alloc _ _ _ (by omega), q3.block _ (by omega) (by simp)]
    exact heap_alloc_new w o1

set_option maxHeartbeats 400000 in
theorem Lay_rec {w : World} {B b : Nat} {lim used : Int} {sv : Value} {rk rn : Int} {T : List Thing} (R : Rep w B b lim used sv rk rn T) (r : Int) (hr : 0 ≤ r) (xs : List (Int × Int)) (a : Option Addr) (c : Nat) (h : Lies w a xs) (h0 : xs.length = 0 → a = none → c = 0) (hn : xs.length ≤ 10000000) (hT : T.length ≤ 1000000000000) :
    Calls Tryd.prog 21 #[.pointer (some ⟨b, 0, none⟩), .int .i64 r, .slice a xs.length c] w fun e w' => e = .returned (.agg #[.int .i64 2, .int .i64 T.length]) ∧
      ∃ sv' t, Rep w' B b lim used sv' rk rn (T ++ [t]) ∧ t.sort = r ∧ t.cells = xs ∧ w.heap.size ≤ t.rb ∧ Fr (b :: sv.ownBlock.toList) w w' ∧ (∀ k, sv'.ownBlock = some k → sv.ownBlock = some k ∨ w.heap.size ≤ k) := by
  have hlt := R.hb.lt
  have hA : ∀ o, HB (w.alloc o) b lim used sv rk rn := fun o => R.hb.fr (S := []) ((Fr.refl _ _).alloc o) (by simp)
  have hL1 : ∀ o, Lies (w.alloc o) a xs := fun o => h.fr (S := []) ((Fr.refl _ _).alloc o) (by simp)
  go_enter Tryd.func21, Tryd.ntmps21
  go_wp2_with (first | (go_at_call 38; refine (alive_any _ _ (hA _).c0).mono ?_; rintro e w' ⟨rfl, rfl⟩) | (go_at_call 41; refine (copied_any _ xs a c (hL1 _) h0 hn).mono ?_; rintro e w2 ⟨rfl, q1, q2, q3⟩) | (go_at_call 40; refine (laid_rec _ _ hr _ _ _).mono ?_; rintro e w' ⟨rfl, rfl⟩))
  obtain ⟨p0, p1, p2, p3, p4, p5, p6⟩ := lay_world R q1 q2 q3 ⟨w.heap.size + 1 + 1, w.heap.size + 1, r, xs⟩ rfl rfl rfl (.cells #[.slice (some ⟨w.heap.size + 1, 0, none⟩) xs.length xs.length, .int .i64 r] 134) (by simp [Thing.body, Thing.sl]; omega)
  refine (add_rep p1 _ p2 p3 p4 hT 132 (w.heap.size + 1 + 1) (by simp [Thing.val]; omega)).mono ?_
  rintro e w' ⟨rfl, sv', r1, r2, r3⟩
  have hL : w'.heap[w.heap.size]? = some (.cells #[.int .i64 0, .int .i64 0] 45) := by
    rw [r2.block _ (by simp; omega) ?_]
    · exact p6
    · simp only [List.mem_cons, Option.mem_toList, not_or]
      exact ⟨by omega, fun e => by have := R.row.lt _ e; omega⟩
  have hFr : Fr (b :: sv.ownBlock.toList) w w' := p5.trans r2
  have hl0 : w'.cell? ⟨w.heap.size, 0, none⟩ = some (.int .i64 0) := by simp [World.cell?, hL]
  have hl1 : w'.cell? ⟨w.heap.size, 1, none⟩ = some (.int .i64 0) := by simp [World.cell?, hL]
  have hlf : ∀ i, w'.frozen? ⟨w.heap.size, i, none⟩ = false := by intro i; simp [World.frozen?, hL]
  clear p1 p2 p3 p4 p5 p6 hA hL1 q1 q2 q3
  go_wp2
  refine bodyPost_ret (v := .agg #[.int .i64 2, .int .i64 T.length]) (by simp [results, Tryd.results21, go_sem, hl0, hl1]) rfl ⟨rfl, sv', _, r1.boxes (S := [w.heap.size]) (Fr.setCell (Fr.setCell (Fr.refl _ _) (.inl (by simp)) _) (.inl (by simp)) _) ?_, rfl, rfl, by simp, ?_, ?_⟩
  · intro k hk
    simp at hk
    subst hk
    refine .inl ⟨_, _, hL, ?_⟩
    rw [List.map_append, List.mem_append, not_or]
    refine ⟨fun hm => ?_, by simp⟩
    have := R.lt w.heap.size (by unfold foot; simp only [List.mem_cons, List.mem_append]; exact .inr (.inr hm))
    omega
  · exact Fr.setCell (Fr.setCell hFr (.inr (by simp)) _) (.inr (by simp)) _
  · intro j hj
    rcases r3 j hj with e | e
    · exact .inl e
    · right
      simp at e
      omega

set_option maxHeartbeats 400000 in
theorem Lay_arr {w : World} {B b : Nat} {lim used : Int} {sv : Value} {rk rn : Int} {T : List Thing} (R : Rep w B b lim used sv rk rn T) (r : Int) (hr : r < 0) (xs : List (Int × Int)) (a : Option Addr) (c : Nat) (h : Lies w a xs) (h0 : xs.length = 0 → a = none → c = 0) (hn : xs.length ≤ 10000000) (hT : T.length ≤ 1000000000000) :
    Calls Tryd.prog 21 #[.pointer (some ⟨b, 0, none⟩), .int .i64 r, .slice a xs.length c] w fun e w' => e = .returned (.agg #[.int .i64 2, .int .i64 T.length]) ∧
      ∃ sv' t, Rep w' B b lim used sv' rk rn (T ++ [t]) ∧ t.sort = (-1) ∧ t.cells = xs ∧ w.heap.size ≤ t.rb ∧ Fr (b :: sv.ownBlock.toList) w w' ∧ (∀ k, sv'.ownBlock = some k → sv.ownBlock = some k ∨ w.heap.size ≤ k) := by
  have hlt := R.hb.lt
  have hA : ∀ o, HB (w.alloc o) b lim used sv rk rn := fun o => R.hb.fr (S := []) ((Fr.refl _ _).alloc o) (by simp)
  have hL1 : ∀ o, Lies (w.alloc o) a xs := fun o => h.fr (S := []) ((Fr.refl _ _).alloc o) (by simp)
  go_enter Tryd.func21, Tryd.ntmps21
  go_wp2_with (first | (go_at_call 38; refine (alive_any _ _ (hA _).c0).mono ?_; rintro e w' ⟨rfl, rfl⟩) | (go_at_call 41; refine (copied_any _ xs a c (hL1 _) h0 hn).mono ?_; rintro e w2 ⟨rfl, q1, q2, q3⟩) | (go_at_call 40; refine (laid_arr _ _ hr _ _ _).mono ?_; rintro e w' ⟨rfl, rfl⟩))
  obtain ⟨p0, p1, p2, p3, p4, p5, p6⟩ := lay_world R q1 q2 q3 ⟨w.heap.size + 1 + 1, w.heap.size + 1, (-1), xs⟩ rfl rfl rfl (.cells #[.slice (some ⟨w.heap.size + 1, 0, none⟩) xs.length xs.length] 131) (by simp [Thing.body, Thing.sl])
  refine (add_rep p1 _ p2 p3 p4 hT 129 (w.heap.size + 1 + 1) (by simp [Thing.val])).mono ?_
  rintro e w' ⟨rfl, sv', r1, r2, r3⟩
  have hL : w'.heap[w.heap.size]? = some (.cells #[.int .i64 0, .int .i64 0] 45) := by
    rw [r2.block _ (by simp; omega) ?_]
    · exact p6
    · simp only [List.mem_cons, Option.mem_toList, not_or]
      exact ⟨by omega, fun e => by have := R.row.lt _ e; omega⟩
  have hFr : Fr (b :: sv.ownBlock.toList) w w' := p5.trans r2
  have hl0 : w'.cell? ⟨w.heap.size, 0, none⟩ = some (.int .i64 0) := by simp [World.cell?, hL]
  have hl1 : w'.cell? ⟨w.heap.size, 1, none⟩ = some (.int .i64 0) := by simp [World.cell?, hL]
  have hlf : ∀ i, w'.frozen? ⟨w.heap.size, i, none⟩ = false := by intro i; simp [World.frozen?, hL]
  clear p1 p2 p3 p4 p5 p6 hA hL1 q1 q2 q3
  go_wp2
  refine bodyPost_ret (v := .agg #[.int .i64 2, .int .i64 T.length]) (by simp [results, Tryd.results21, go_sem, hl0, hl1]) rfl ⟨rfl, sv', _, r1.boxes (S := [w.heap.size]) (Fr.setCell (Fr.setCell (Fr.refl _ _) (.inl (by simp)) _) (.inl (by simp)) _) ?_, rfl, rfl, by simp, ?_, ?_⟩
  · intro k hk
    simp at hk
    subst hk
    refine .inl ⟨_, _, hL, ?_⟩
    rw [List.map_append, List.mem_append, not_or]
    refine ⟨fun hm => ?_, by simp⟩
    have := R.lt w.heap.size (by unfold foot; simp only [List.mem_cons, List.mem_append]; exact .inr (.inr hm))
    omega
  · exact Fr.setCell (Fr.setCell hFr (.inr (by simp)) _) (.inr (by simp)) _
  · intro j hj
    rcases r3 j hj with e | e
    · exact .inl e
    · right
      simp at e
      omega

set_option maxHeartbeats 400000 in
theorem Obj_no {w : World} {B b : Nat} {lim used : Int} {sv : Value} {rk rn : Int} {T : List Thing} (R : Rep w B b lim used sv rk rn T) (k n : Int) (h : bad T k n) :
    Calls Tryd.prog 34 #[.pointer (some ⟨b, 0, none⟩), .agg #[.int .i64 k, .int .i64 n]] w fun e w' => e = .returned (.tuple #[.agg #[.int .i64 0, .slice none 0 0], .bool false]) ∧ Fr [] w w' := by
  have hA : ∀ o o', Rep ((w.alloc o).alloc o') B b lim used sv rk rn T := fun o o' => R.frame (S := []) (((Fr.refl _ _).alloc o).alloc o') (by simp)
  have hF := fun o o' => find_bad (hA o o') k n h
  have ht := trapOf_ne k
  generalize trapOf k = X at *
  go_enter Tryd.func34, Tryd.ntmps34
  go_wp2_with fail
  refine (hF _ _).mono ?_
  rintro e w' ⟨rfl, hfr⟩
  have hL : w'.heap[w.heap.size + 1]? = some (.cells #[.int .i64 0, .slice none 0 0] 41) := by
    rw [hfr.block _ (by simp) (by simp)]
    exact blk2 w _ _
  have hl0 : w'.cell? ⟨w.heap.size + 1, 0, none⟩ = some (.int .i64 0) := by simp [World.cell?, hL]
  have hl1 : w'.cell? ⟨w.heap.size + 1, 1, none⟩ = some (.slice none 0 0) := by simp [World.cell?, hL]
  have hlf : ∀ i, w'.frozen? ⟨w.heap.size + 1, i, none⟩ = false := by intro i; simp [World.frozen?, hL]
  clear hF hA
  go_wp2
  refine bodyPost_ret (v := .tuple #[.agg #[.int .i64 0, .slice none 0 0], .bool false]) (by simp [results, Tryd.results34, go_sem, hl0, hl1]) rfl ⟨rfl, ?_⟩
  exact Fr.setCell (Fr.setCell ((((Fr.refl _ _).alloc _).alloc _).trans hfr) (.inr (by simp)) _) (.inr (by simp)) _

theorem res40 {w : World} {k : Nat} (h : w.heap[k]? = some (.cells #[.int .i64 0, .slice none 0 0] 41)) : w.cell? ⟨k, 0, none⟩ = some (.int .i64 0) ∧ w.cell? ⟨k, 1, none⟩ = some (.slice none 0 0) ∧ ∀ i, w.frozen? ⟨k, i, none⟩ = false :=
  ⟨by simp [World.cell?, h], by simp [World.cell?, h], fun i => by simp [World.frozen?, h]⟩

theorem TAt.lies {w : World} {t : Thing} (h : TAt w t) : Lies w (some ⟨t.rb, 0, none⟩) t.cells := by
  intro _
  refine ⟨_, rfl, fun j u hj => ?_⟩
  have hadd : (⟨t.rb, 0, none⟩ : Addr).add j = ⟨t.rb, j, none⟩ := by unfold Addr.add; split <;> simp_all
  rw [hadd]
  simp [World.cell?, h.row, hj]

set_option maxHeartbeats 400000 in
theorem Obj_rec {w : World} {B b : Nat} {lim used : Int} {sv : Value} {rk rn : Int} {T : List Thing} (R : Rep w B b lim used sv rk rn T) (i : Nat) (t : Thing) (ht : T[i]? = some t) (hs : 0 ≤ t.sort) (hn : t.cells.length ≤ 10000000) :
    Calls Tryd.prog 34 #[.pointer (some ⟨b, 0, none⟩), .agg #[.int .i64 2, .int .i64 (i : Int)]] w fun e w' => ∃ g, e = .returned (.tuple #[.agg #[.int .i64 t.sort, .slice (some ⟨g, 0, none⟩) t.cells.length t.cells.length], .bool true]) ∧ Fr [] w w' ∧ w.heap.size ≤ g ∧ w'.heap[g]? = some (.cells (flat t.cells).toArray 45 (0, 0)) := by
  have hA : ∀ o o', Rep ((w.alloc o).alloc o') B b lim used sv rk rn T := fun o o' => R.frame (S := []) (((Fr.refl _ _).alloc o).alloc o') (by simp)
  have hTA := R.th t (List.mem_of_getElem? ht)
  have hm := meth132 t.tb
  go_enter Tryd.func34, Tryd.ntmps34
  go_wp2_with fail
  refine (find_ok (hA _ _) i t ht).mono ?_
  rintro e w' ⟨rfl, hfr⟩
  have hTw := hTA.later ((((Fr.refl _ _).alloc _).alloc _).trans hfr)
  have h1 := hTw.recd hs
  rw [val_rec hs]
  have hz : w.heap.size + 1 < w'.heap.size := by have := hfr.size; simp at this; omega
  have hL : w'.heap[w.heap.size + 1]? = some (.cells #[.int .i64 0, .slice none 0 0] 41) := by
    rw [hfr.block _ (by simp) (by simp)]
    exact blk2 w _ _
  have hFr := (((Fr.refl [] w).alloc _).alloc _).trans hfr
  go_wp2_with (first | (go_at_call 54; refine (sort_rec _ _ _ h1.2).mono ?_; rintro e w' ⟨rfl, rfl⟩) | (go_at_call 90; refine (view_any _ _ _ _ h1.1).mono ?_; rintro e w' ⟨rfl, rfl⟩) | (go_at_call 41; refine (copied_any _ t.cells _ _ hTw.lies (by simp) hn).mono ?_; rintro e w3 ⟨rfl, q1, q2, q3⟩; have ⟨hl0, hl1, hlf⟩ := res40 ((q3.block _ hz (by simp)).trans hL)))
  have hFr3 := hFr.trans q3
  refine bodyPost_ret (v := .tuple #[.agg #[.int .i64 t.sort, .slice (some ⟨w'.heap.size, 0, none⟩) t.cells.length t.cells.length], .bool true]) (by simp [results, Tryd.results34, go_sem, hl0, hl1]) rfl ⟨w'.heap.size, rfl, ?_, by omega, ?_⟩
  · exact Fr.setCell (Fr.setCell hFr3 (.inr (by simp)) _) (.inr (by simp)) _
  · rw [Below.heap_setCell _ _ _ _ (by simp; omega), Below.heap_setCell _ _ _ _ (by simp; omega)]
    exact q1

set_option maxHeartbeats 400000 in
theorem Obj_arr {w : World} {B b : Nat} {lim used : Int} {sv : Value} {rk rn : Int} {T : List Thing} (R : Rep w B b lim used sv rk rn T) (i : Nat) (t : Thing) (ht : T[i]? = some t) (hs : t.sort < 0) (hn : t.cells.length ≤ 10000000) :
    Calls Tryd.prog 34 #[.pointer (some ⟨b, 0, none⟩), .agg #[.int .i64 2, .int .i64 (i : Int)]] w fun e w' => ∃ g, e = .returned (.tuple #[.agg #[.int .i64 (-1), .slice (some ⟨g, 0, none⟩) t.cells.length t.cells.length], .bool true]) ∧ Fr [] w w' ∧ w.heap.size ≤ g ∧ w'.heap[g]? = some (.cells (flat t.cells).toArray 45 (0, 0)) := by
  have hA : ∀ o o', Rep ((w.alloc o).alloc o') B b lim used sv rk rn T := fun o o' => R.frame (S := []) (((Fr.refl _ _).alloc o).alloc o') (by simp)
  have hTA := R.th t (List.mem_of_getElem? ht)
  have hm := meth129 t.tb
  go_enter Tryd.func34, Tryd.ntmps34
  go_wp2_with fail
  refine (find_ok (hA _ _) i t ht).mono ?_
  rintro e w' ⟨rfl, hfr⟩
  have hTw := hTA.later ((((Fr.refl _ _).alloc _).alloc _).trans hfr)
  have h1 := hTw.arr hs
  rw [val_arr hs]
  have hz : w.heap.size + 1 < w'.heap.size := by have := hfr.size; simp at this; omega
  have hL : w'.heap[w.heap.size + 1]? = some (.cells #[.int .i64 0, .slice none 0 0] 41) := by
    rw [hfr.block _ (by simp) (by simp)]
    exact blk2 w _ _
  have hFr := (((Fr.refl [] w).alloc _).alloc _).trans hfr
  go_wp2_with (first | (go_at_call 54; refine (sort_arr _ _).mono ?_; rintro e w' ⟨rfl, rfl⟩) | (go_at_call 90; refine (view_any _ _ _ _ h1).mono ?_; rintro e w' ⟨rfl, rfl⟩) | (go_at_call 41; refine (copied_any _ t.cells _ _ hTw.lies (by simp) hn).mono ?_; rintro e w3 ⟨rfl, q1, q2, q3⟩; have ⟨hl0, hl1, hlf⟩ := res40 ((q3.block _ hz (by simp)).trans hL)))
  have hFr3 := hFr.trans q3
  refine bodyPost_ret (v := .tuple #[.agg #[.int .i64 (-1), .slice (some ⟨w'.heap.size, 0, none⟩) t.cells.length t.cells.length], .bool true]) (by simp [results, Tryd.results34, go_sem, hl0, hl1]) rfl ⟨w'.heap.size, rfl, ?_, by omega, ?_⟩
  · exact Fr.setCell (Fr.setCell hFr3 (.inr (by simp)) _) (.inr (by simp)) _
  · rw [Below.heap_setCell _ _ _ _ (by simp; omega), Below.heap_setCell _ _ _ _ (by simp; omega)]
    exact q1

end Go.Proofs.YtefkcmeeagflmaaDoor
