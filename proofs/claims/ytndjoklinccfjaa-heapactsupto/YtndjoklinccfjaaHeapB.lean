/-
  Append with where the new row lies, add, laid, and what it is that a block of memory is a heap with a list of things; conditions: at most 10 to the 12th things.
-/
import Derived.Test.YtndjoklinccfjaaHeapA
namespace Go.Proofs.Ytndjoklinccfjaa
open Go.RowKit

/-- Append onto a row that the call owns, with where the new row lies: where the old one lay, or behind all that was there. -/
theorem run_append_fp {P : Program} (w : World) (base : Nat) (t ty e : TypeId) (i : TypeInfo) (z : Value) (size bytes : Nat) (ht : P.underlying t = some (.slice e)) (hi : P.info? e = some i) (hz : i.zero = some z)
    (hsize : i.size = size) (hby : i.bytes = bytes) (hzs : z.cells.size = size) (hsz : 0 < size)
    (v : Value) (n : Nat) (xs : List Value) (hown : w.ownsRow base e size v n xs)
    (a : Addr) (m c : Nat) (news : List Value) (hl : news.length = m * size) (hnews : ∀ j u, news[j]? = some u → w.cell? (a.add j) = some u) (h1 : ∀ u ∈ news, u.oneCell' = true)
    (h63 : n + m ≤ maxLen) (hbytes : (n + m) * bytes ≤ 140737488355328) (hbase : base ≤ w.heap.size) :
    ∃ v' w', (Builtin.append_ #[t, t] ty #[v, .slice (some a) m c]).run P w = .ok v' w' ∧ w'.ownsRow base e size v' (n + m) (xs ++ news) ∧ w.grownBy w' v.ownBlock ∧
      (∀ k, v'.ownBlock = some k → v.ownBlock = some k ∨ w.heap.size ≤ k) := by
  obtain ⟨v', w', hr, h2, h3, _⟩ := run_append_own (P := P) w base t ty e i z size bytes ht hi hz hsize hby hzs hsz v n xs hown a m c news hl hnews h1 h63 hbytes hbase
  refine ⟨v', w', hr, h2, h3, ?_⟩
  intro k hk
  have hown' := hown
  rcases hown.2 with ⟨rfl, rfl⟩ | ⟨g, cap, cur, rfl, hbg, hg, hnc, hcm, hcs, htake⟩
  · have hx : xs = [] := List.eq_nil_of_length_eq_zero (by simpa using hown.1)
    subst hx
    obtain ⟨v2, w2, hr2, h22, _, _⟩ := run_append_own (P := P) w w.heap.size t ty e i z size bytes ht hi hz hsize hby hzs hsz (.slice none 0 0) 0 [] (World.ownsRow_nil _ _ _ _) a m c news hl hnews h1 h63 hbytes (Nat.le_refl _)
    rw [hr] at hr2
    injection hr2 with e1 e2
    subst e1
    exact .inr (h22.lt k hk).1
  · by_cases hroom : n + m ≤ cap
    · subst hsize
      have hfit : n * i.size + news.length ≤ cur.size := by rw [hl, hcs, ← Nat.add_mul]; exact Nat.mul_le_mul_right _ hroom
      have hr2 := run_append_room (P := P) w t ty e i ht hi g n cap cur hg a m c news hl hnews h1 hroom hfit
      rw [hr] at hr2
      injection hr2 with e1 e2
      subst e1
      exact .inl hk
    · subst hsize
      subst hby
      have holds : ∀ j u, xs[j]? = some u → w.cell? ((⟨g, 0, none⟩ : Addr).add j) = some u := hown.cells (g := g) rfl
      have hr2 := run_append_grow (P := P) w t ty e i z ht hi hz ⟨g, 0, none⟩ n cap xs hown.1 holds a m c news hl hnews (by omega) (by simp only [maxLen] at h63; omega) (growslice_fits (by omega) hbytes)
      rw [hr] at hr2
      injection hr2 with e1 e2
      subst e1
      simp [Value.ownBlock] at hk
      exact .inr (by omega)

theorem wpList_append_fp {P : Program} (w : World) {ops : Array Oper} {rest : List Oper} {o : Oper} {a : Act} {Q : Exit → Act → World → Prop} (hgd : o.guard = none) (s x : Operand) (t : TypeId)
    (ho : o.op = .call { callee := .builtin .append, args := #[s, x], argTypes := #[t, t] })
    (base : Nat) (e : TypeId) (i : TypeInfo) (z : Value) (size bytes : Nat) (ht : P.underlying t = some (.slice e)) (hi : P.info? e = some i) (hz : i.zero = some z)
    (hsize : i.size = size) (hby : i.bytes = bytes) (hzs : z.cells.size = size) (hsz : 0 < size)
    (v : Value) (n : Nat) (xs : List Value) (hs : a.eval s = v) (hown : w.ownsRow base e size v n xs)
    (ad : Addr) (m c : Nat) (news : List Value) (hx : a.eval x = .slice (some ad) m c) (hl : news.length = m * size) (hnews : ∀ j u, news[j]? = some u → w.cell? (ad.add j) = some u) (h1 : ∀ u ∈ news, u.oneCell' = true)
    (h63 : n + m ≤ maxLen) (hbytes : (n + m) * bytes ≤ 140737488355328) (hbase : base ≤ w.heap.size)
    (h : ∀ v' w', w'.ownsRow base e size v' (n + m) (xs ++ news) → w.grownBy w' v.ownBlock → (∀ k, v'.ownBlock = some k → v.ownBlock = some k ∨ w.heap.size ≤ k) → wpList P ops Q rest (a.put o.dst v') w') : wpList P ops Q (o :: rest) a w := by
  refine wpList_plain hgd fun K hK => ?_
  obtain ⟨v', w', hr, h2, h3, h4⟩ := run_append_fp (P := P) w base t o.type e i z size bytes ht hi hz hsize hby hzs hsz v n xs hown ad m c news hl hnews h1 h63 hbytes hbase
  unfold Oper.wp execOp
  simp only [ho, resolve, invoke, builtin, Sem.run_bind, Sem.run_pure, Result.andThen_ok, List.map_toArray, List.map_cons, List.map_nil, hs, hx, hr]
  exact hK _ _ (h v' w' h2 h3 h4)

theorem under59 : Try.prog.underlying 59 = some (.slice 67) := by kernel_rfl
theorem info67 : (Try.prog.info? 67).map (fun i => (i.zero, i.size, i.bytes)) = some (some .nilIface, 1, 16) := by kernel_rfl
theorem under31 : Try.prog.underlying 31 = some (.slice 30) := by kernel_rfl
theorem info30 : (Try.prog.info? 30).map (fun i => (i.zero, i.size, i.bytes)) = some (some (.agg #[.int .i64 0, .int .i64 0]), 2, 16) := by kernel_rfl

set_option maxHeartbeats 400000 in
theorem add_any {B b : Nat} {lim used : Int} {sv : Value} {rk rn : Int} (w : World) (T tb : Nat) (n : Nat) (xs : List Value) (h : HB w b lim used sv rk rn) (ho : w.ownsRow B 67 1 sv n xs) (hn : n ≤ 1000000000000) (hB : B ≤ b) :
    Calls Try.prog 42 #[.pointer (some ⟨b, 0, none⟩), .iface T (.pointer (some ⟨tb, 0, none⟩))] w fun e w' => e = .returned (.agg #[.int .i64 2, .int .i64 n]) ∧
      ∃ sv', HB w' b lim used sv' rk rn ∧ w'.ownsRow B 67 1 sv' (n + 1) (xs ++ [.iface T (.pointer (some ⟨tb, 0, none⟩))]) ∧ Fr (b :: sv.ownBlock.toList) w w' ∧ (∀ k, sv'.ownBlock = some k → sv.ownBlock = some k ∨ w.heap.size ≤ k) := by
  obtain ⟨i, hi, hz, hs, hby⟩ := info_parts info67
  have c3 := h.c3
  have hlt := h.lt
  have hn' : n + 1 ≤ maxLen := by unfold maxLen; omega
  go_enter Try.func42, Try.ntmps42
  go_wp2_with (at_builtin; go_loud (refine wpList_append_fp _ rfl _ _ 59 rfl B 67 i .nilIface 1 16 under59 hi hz hs hby rfl (by decide) sv n xs rfl ?own _ 1 _ [.iface T (.pointer (some ⟨tb, 0, none⟩))] rfl rfl ?news ?one ?max (by omega) ?base ?_))
  case own => exact (ho.alloc _).alloc _
  case news =>
    have e := cell_one_new (w.alloc (Obj.cells #[Value.int IntKind.i64 0, Value.int IntKind.i64 0] 30)) (.iface T (.pointer (some ⟨tb, 0, none⟩))) 67
    rw [show (w.alloc (Obj.cells #[Value.int IntKind.i64 0, Value.int IntKind.i64 0] 30)).heap.size = w.heap.size + 1 from by simp] at e
    exact e
  case one => simp [Value.oneCell']
  case max => exact hn'
  case base => simp; omega
  intro v1 w1 ho1 hg1 hk1
  have hbg : some b ≠ sv.ownBlock := by
    intro hb
    rcases ho.2 with ⟨rfl, _⟩ | ⟨g, cap, cur, rfl, _, hgg, _⟩
    · simp [Value.ownBlock] at hb
    · simp [Value.ownBlock] at hb
      subst hb
      unfold HB at h
      rw [h] at hgg
      simp at hgg
  have hog := ho.lt
  have hH : HB w1 b lim used sv rk rn := by
    unfold HB
    rw [hg1.block b (by simp; omega) hbg]
    unfold HB at h
    rw [← h, Below.heap_alloc _ _ _ (by simp; omega), Below.heap_alloc _ _ _ (by omega)]
  have hL : w1.heap[w.heap.size]? = some (.cells #[.int .i64 0, .int .i64 0] 30) := by
    rw [hg1.block w.heap.size (by simp; omega) (fun e => by have := hog _ e.symm; omega), Below.heap_alloc _ _ _ (by simp)]
    exact heap_alloc_new w _
  have hl0 : w1.cell? ⟨w.heap.size, 0, none⟩ = some (.int .i64 0) := by simp [World.cell?, hL]
  have hl1 : w1.cell? ⟨w.heap.size, 1, none⟩ = some (.int .i64 0) := by simp [World.cell?, hL]
  have hlf : ∀ i, w1.frozen? ⟨w.heap.size, i, none⟩ = false := by intro i; simp [World.frozen?, hL]
  have hf3 := hH.fz 3
  have hc3 := hH.c3
  have hex : ∃ g c, v1 = .slice (some ⟨g, 0, none⟩) (n + 1) c := by
    rcases ho1.2 with ⟨_, e⟩ | ⟨g, cap, cur, e, _⟩
    · omega
    · exact ⟨g, cap, e⟩
  obtain ⟨g, c, hv⟩ := hex
  rw [hv]
  clear c3 hi hz hs hby
  go_wp2
  refine bodyPost_ret (v := .agg #[.int .i64 2, .int .i64 n]) (by simp [results, Try.results42, go_sem, hl0, hl1]) rfl ⟨rfl, .slice (some ⟨g, 0, none⟩) (n + 1) c, ?_, ?_, ?_, ?_⟩
  · have h1 := hH.setThings (.slice (some ⟨g, 0, none⟩) (n + 1) c)
    unfold HB at h1 ⊢
    rw [Below.heap_setCell _ _ _ _ (by simp; omega), Below.heap_setCell _ _ _ _ (by simp; omega)]
    exact h1
  · rw [hv] at ho1
    have hgb : g ≠ b := by
      rintro rfl
      rcases ho1.2 with ⟨e, _⟩ | ⟨g', cap, cur, e, _, hgg, _⟩
      · simp at e
      · simp at e
        obtain ⟨rfl, _⟩ := e
        unfold HB at hH
        rw [hH] at hgg
        simp at hgg
    have hgl : g ≠ w.heap.size := by
      rintro rfl
      rcases ho1.2 with ⟨e, _⟩ | ⟨g', cap, cur, e, _, hgg, _⟩
      · simp at e
      · simp at e
        obtain ⟨rfl, _⟩ := e
        rw [hL] at hgg
        simp at hgg
    refine ⟨ho1.1, ?_⟩
    rcases ho1.2 with ⟨e, _⟩ | ⟨g', cap, cur, e, r1, hgg, r2⟩
    · simp at e
    · simp at e
      obtain ⟨rfl, rfl⟩ := e
      refine .inr ⟨g, c, cur, rfl, r1, ?_, r2⟩
      rw [Below.heap_setCell _ _ _ _ (by simp; omega), Below.heap_setCell _ _ _ _ (by simp; omega), Below.heap_setCell _ _ _ _ (by simp; omega)]
      exact hgg
  · refine Fr.setCell (Fr.setCell (Fr.setCell ?_ (.inl (by simp)) _) (.inr (by simp)) _) (.inr (by simp)) _
    exact Fr.grown (((Fr.refl _ _).alloc _).alloc _) hg1 (fun k hk => .inl (by simp [hk]))
  · rw [hv] at hk1
    intro k hk
    rcases hk1 k hk with h1 | h1
    · exact .inl h1
    · exact .inr (by omega)

/-- The cells of a list of values. -/
def flat : List (Int × Int) → List Value
  | [] => []
  | x :: r => .int .i64 x.1 :: .int .i64 x.2 :: flat r

/-- A thing: its own block, the block of its cells, its sort (below 0: an array), its cells. -/
structure Thing where
  tb : Nat
  rb : Nat
  sort : Int
  cells : List (Int × Int)

def Thing.sl (t : Thing) : Value := .slice (some ⟨t.rb, 0, none⟩) t.cells.length t.cells.length
def Thing.val (t : Thing) : Value := .iface (if t.sort < 0 then 90 else 85) (.pointer (some ⟨t.tb, 0, none⟩))
def Thing.body (t : Thing) : Obj := if t.sort < 0 then .cells #[t.sl] 87 (0, 0) else .cells #[t.sl, .int .i64 t.sort] 89 (0, 0)

/-- Thing t lies in w. -/
structure TAt (w : World) (t : Thing) : Prop where
  own : w.heap[t.tb]? = some t.body
  row : w.heap[t.rb]? = some (.cells (flat t.cells).toArray 30 (0, 0))

/-- Block b of w is a heap with the things T; what it writes to lies from B on. -/
structure Rep (w : World) (B b : Nat) (lim used : Int) (sv : Value) (rk rn : Int) (T : List Thing) : Prop where
  hb : HB w b lim used sv rk rn
  row : w.ownsRow B 67 1 sv T.length (T.map Thing.val)
  th : ∀ t, t ∈ T → TAt w t
  sep : (T.map Thing.rb).Nodup
  base : B ≤ b
  rows : ∀ t, t ∈ T → B ≤ t.rb

/-- What a heap writes to. -/
def foot (b : Nat) (sv : Value) (T : List Thing) : List Nat := b :: (sv.ownBlock.toList ++ T.map Thing.rb)

theorem Rep.frame {w w' : World} {S : List Nat} {B b : Nat} {lim used : Int} {sv : Value} {rk rn : Int} {T : List Thing} (h : Rep w B b lim used sv rk rn T) (f : Fr S w w') (hS : ∀ k, k ∈ S → w.heap.size ≤ k) : Rep w' B b lim used sv rk rn T := by
  have hn : ∀ k, k < w.heap.size → k ∉ S := fun k hk hm => by have := hS k hm; omega
  refine ⟨h.hb.fr f (hn _ h.hb.lt), ?_, ?_, h.sep, h.base, h.rows⟩
  · refine ⟨h.row.1, ?_⟩
    rcases h.row.2 with e | ⟨g, cap, cur, e, r1, hgg, r2⟩
    · exact .inl e
    · have hlt := (Array.getElem?_eq_some_iff.1 hgg).1
      exact .inr ⟨g, cap, cur, e, r1, (f.block g hlt (hn _ hlt)).trans hgg, r2⟩
  · intro t ht
    have a := (h.th t ht).own
    have c := (h.th t ht).row
    have la := (Array.getElem?_eq_some_iff.1 a).1
    have lc := (Array.getElem?_eq_some_iff.1 c).1
    exact ⟨(f.block _ la (hn _ la)).trans a, (f.block _ lc (hn _ lc)).trans c⟩

set_option maxHeartbeats 400000 in
theorem laid_rec (w : World) (r : Int) (hr : 0 ≤ r) (s : Option Addr) (n c : Nat) :
    Calls Try.prog 43 #[.int .i64 r, .slice s n c] w fun e w' => e = .returned (.iface 85 (.pointer (some ⟨w.heap.size, 0, none⟩))) ∧ w' = w.alloc (.cells #[.slice s n c, .int .i64 r] 89) := by
  go_enter Try.func43, Try.ntmps43
  go_wp2
  go_ret
  exact ⟨rfl, rfl⟩

set_option maxHeartbeats 400000 in
theorem laid_arr (w : World) (r : Int) (hr : r < 0) (s : Option Addr) (n c : Nat) :
    Calls Try.prog 43 #[.int .i64 r, .slice s n c] w fun e w' => e = .returned (.iface 90 (.pointer (some ⟨w.heap.size, 0, none⟩))) ∧ w' = w.alloc (.cells #[.slice s n c] 87) := by
  go_enter Try.func43, Try.ntmps43
  go_wp2
  go_ret
  exact ⟨rfl, rfl⟩
end Go.Proofs.Ytndjoklinccfjaa
