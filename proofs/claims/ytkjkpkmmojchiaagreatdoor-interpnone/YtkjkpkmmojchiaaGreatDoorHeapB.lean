/-
  Append with where the new row lies, add, laid, and what it is that a block of memory is a heap with a list of things; conditions: at most 10 to the 12th things.
-/
import Derived.Test.YtkjkpkmmojchiaaGreatDoorHeapA
namespace Go.Proofs.YtkjkpkmmojchiaaGreatDoor
open Go.RowKit

theorem under59 : Tryz.prog.underlying 149 = some (.slice 143) := by kernel_rfl
theorem info67 : (Tryz.prog.info? 143).map (fun i => (i.zero, i.size, i.bytes)) = some (some .nilIface, 1, 16) := by kernel_rfl
theorem under31 : Tryz.prog.underlying 55 = some (.slice 33) := by kernel_rfl
theorem info30 : (Tryz.prog.info? 33).map (fun i => (i.zero, i.size, i.bytes)) = some (some (.agg #[.int .i64 0, .int .i64 0]), 2, 16) := by kernel_rfl

set_option maxHeartbeats 400000 in
theorem add_any {B b : Nat} {lim used : Int} {sv : Value} {rk rn : Int} (w : World) (T tb : Nat) (n : Nat) (xs : List Value) (h : HB w b lim used sv rk rn) (ho : w.ownsRow B 143 1 sv n xs) (hn : n ≤ 1000000000000) (hB : B ≤ b) :
    Calls Tryz.prog 162 #[.pointer (some ⟨b, 0, none⟩), .iface T (.pointer (some ⟨tb, 0, none⟩))] w fun e w' => e = .returned (.agg #[.int .i64 2, .int .i64 n]) ∧
      ∃ sv', HB w' b lim used sv' rk rn ∧ w'.ownsRow B 143 1 sv' (n + 1) (xs ++ [.iface T (.pointer (some ⟨tb, 0, none⟩))]) ∧ Fr (b :: sv.ownBlock.toList) w w' ∧ (∀ k, sv'.ownBlock = some k → sv.ownBlock = some k ∨ w.heap.size ≤ k) := by
  obtain ⟨i, hi, hz, hs, hby⟩ := info_parts info67
  have c3 := h.c3
  have hlt := h.lt
  have hn' : n + 1 ≤ maxLen := by unfold maxLen; omega
  go_enter Tryz.func162, Tryz.ntmps162
  go_wp2_with (at_builtin; go_loud (refine wpList_append_fp _ rfl _ _ 149 rfl B 143 i .nilIface 1 16 under59 hi hz hs hby rfl (by decide) sv n xs rfl ?own _ 1 _ [.iface T (.pointer (some ⟨tb, 0, none⟩))] rfl rfl ?news ?one ?max (by omega) ?base ?_))
  case own => exact (ho.alloc _).alloc _
  case news =>
    have e := cell_one_new (w.alloc (Obj.cells #[Value.int IntKind.i64 0, Value.int IntKind.i64 0] 33)) (.iface T (.pointer (some ⟨tb, 0, none⟩))) 143
    rw [show (w.alloc (Obj.cells #[Value.int IntKind.i64 0, Value.int IntKind.i64 0] 33)).heap.size = w.heap.size + 1 from by simp] at e
    exact e
  case one => simp [Value.oneCell']
  case max => exact hn'
  case base => simp; omega
  intro v1 w1 ho1 hg1 hk1
  have hbg : some b ≠ sv.ownBlock := by
    intro hb
    rcases ho.2 with ⟨rfl, _⟩ | ⟨g, cap, cur, rfl, _, hgg, _⟩
    · simp [Value.ownBlock] at hb
    · simp [Value.ownBlock] at hb
      subst hb
      unfold HB at h
      rw [h] at hgg
      simp at hgg
  have hog := ho.lt
  have hH : HB w1 b lim used sv rk rn := by
    unfold HB
    rw [hg1.block b (by simp; omega) hbg]
    unfold HB at h
    rw [← h, Below.heap_alloc _ _ _ (by simp; omega), Below.heap_alloc _ _ _ (by omega)]
  have hL : w1.heap[w.heap.size]? = some (.cells #[.int .i64 0, .int .i64 0] 33) := by
    rw [hg1.block w.heap.size (by simp; omega) (fun e => by have := hog _ e.symm; omega), Below.heap_alloc _ _ _ (by simp)]
    exact heap_alloc_new w _
  have hl0 : w1.cell? ⟨w.heap.size, 0, none⟩ = some (.int .i64 0) := by simp [World.cell?, hL]
  have hl1 : w1.cell? ⟨w.heap.size, 1, none⟩ = some (.int .i64 0) := by simp [World.cell?, hL]
  have hlf : ∀ i, w1.frozen? ⟨w.heap.size, i, none⟩ = false := by intro i; simp [World.frozen?, hL]
  have hf3 := hH.fz 3
  have hc3 := hH.c3
  have hex : ∃ g c, v1 = .slice (some ⟨g, 0, none⟩) (n + 1) c := by
    rcases ho1.2 with ⟨_, e⟩ | ⟨g, cap, cur, e, _⟩
    · omega
    · exact ⟨g, cap, e⟩
  obtain ⟨g, c, hv⟩ := hex
  rw [hv]
  clear c3 hi hz hs hby
  go_wp2
  refine bodyPost_ret (v := .agg #[.int .i64 2, .int .i64 n]) (by simp [results, Tryz.results162, go_sem, hl0, hl1]) rfl ⟨rfl, .slice (some ⟨g, 0, none⟩) (n + 1) c, ?_, ?_, ?_, ?_⟩
  · have h1 := hH.setThings (.slice (some ⟨g, 0, none⟩) (n + 1) c)
    unfold HB at h1 ⊢
    rw [Below.heap_setCell _ _ _ _ (by simp; omega), Below.heap_setCell _ _ _ _ (by simp; omega)]
    exact h1
  · rw [hv] at ho1
    have hgb : g ≠ b := by
      rintro rfl
      rcases ho1.2 with ⟨e, _⟩ | ⟨g', cap, cur, e, _, hgg, _⟩
      · simp at e
      · simp at e
        obtain ⟨rfl, _⟩ := e
        unfold HB at hH
        rw [hH] at hgg
        simp at hgg
    have hgl : g ≠ w.heap.size := by
      rintro rfl
      rcases ho1.2 with ⟨e, _⟩ | ⟨g', cap, cur, e, _, hgg, _⟩
      · simp at e
      · simp at e
        obtain ⟨rfl, _⟩ := e
        rw [hL] at hgg
        simp at hgg
    refine ⟨ho1.1, ?_⟩
    rcases ho1.2 with ⟨e, _⟩ | ⟨g', cap, cur, e, r1, hgg, r2⟩
    · simp at e
    · simp at e
      obtain ⟨rfl, rfl⟩ := e
      refine .inr ⟨g, c, cur, rfl, r1, ?_, r2⟩
      rw [Below.heap_setCell _ _ _ _ (by simp; omega), Below.heap_setCell _ _ _ _ (by simp; omega), Below.heap_setCell _ _ _ _ (by simp; omega)]
      exact hgg
  · refine Fr.setCell (Fr.setCell (Fr.setCell ?_ (.inl (by simp)) _) (.inr (by simp)) _) (.inr (by simp)) _
    exact Fr.grown (((Fr.refl _ _).alloc _).alloc _) hg1 (fun k hk => .inl (by simp [hk]))
  · rw [hv] at hk1
    intro k hk
    rcases hk1 k hk with h1 | h1
    · exact .inl h1
    · exact .inr (by omega)

/-- The cells of a list of values. -/
def flat : List (Int × Int) → List Value
  | [] => []
  | x :: r => .int .i64 x.1 :: .int .i64 x.2 :: flat r

/-- A thing: its own block, the block of its cells, its sort (below 0: an array), its cells. -/
structure Thing where
  tb : Nat
  rb : Nat
  sort : Int
  cells : List (Int × Int)

def Thing.sl (t : Thing) : Value := .slice (some ⟨t.rb, 0, none⟩) t.cells.length t.cells.length
def Thing.val (t : Thing) : Value := .iface (if t.sort < 0 then 212 else 165) (.pointer (some ⟨t.tb, 0, none⟩))
def Thing.body (t : Thing) : Obj := if t.sort < 0 then .cells #[t.sl] 167 (0, 0) else .cells #[t.sl, .int .i64 t.sort] 169 (0, 0)

/-- Thing t lies in w. -/
structure TAt (w : World) (t : Thing) : Prop where
  own : w.heap[t.tb]? = some t.body
  row : w.heap[t.rb]? = some (.cells (flat t.cells).toArray 33 (0, 0))

/-- Block b of w is a heap with the things T; what it writes to lies from B on. -/
structure Rep (w : World) (B b : Nat) (lim used : Int) (sv : Value) (rk rn : Int) (T : List Thing) : Prop where
  hb : HB w b lim used sv rk rn
  row : w.ownsRow B 143 1 sv T.length (T.map Thing.val)
  th : ∀ t, t ∈ T → TAt w t
  sep : (T.map Thing.rb).Nodup
  base : B ≤ b
  rows : ∀ t, t ∈ T → B ≤ t.rb

/-- What a heap writes to. -/
def foot (b : Nat) (sv : Value) (T : List Thing) : List Nat := b :: (sv.ownBlock.toList ++ T.map Thing.rb)

theorem Rep.frame {w w' : World} {S : List Nat} {B b : Nat} {lim used : Int} {sv : Value} {rk rn : Int} {T : List Thing} (h : Rep w B b lim used sv rk rn T) (f : Fr S w w') (hS : ∀ k, k ∈ S → w.heap.size ≤ k) : Rep w' B b lim used sv rk rn T := by
  have hn : ∀ k, k < w.heap.size → k ∉ S := fun k hk hm => by have := hS k hm; omega
  refine ⟨h.hb.fr f (hn _ h.hb.lt), ?_, ?_, h.sep, h.base, h.rows⟩
  · refine ⟨h.row.1, ?_⟩
    rcases h.row.2 with e | ⟨g, cap, cur, e, r1, hgg, r2⟩
    · exact .inl e
    · have hlt := (Array.getElem?_eq_some_iff.1 hgg).1
      exact .inr ⟨g, cap, cur, e, r1, (f.block g hlt (hn _ hlt)).trans hgg, r2⟩
  · intro t ht
    have a := (h.th t ht).own
    have c := (h.th t ht).row
    have la := (Array.getElem?_eq_some_iff.1 a).1
    have lc := (Array.getElem?_eq_some_iff.1 c).1
    exact ⟨(f.block _ la (hn _ la)).trans a, (f.block _ lc (hn _ lc)).trans c⟩

set_option maxHeartbeats 400000 in
theorem laid_rec (w : World) (r : Int) (hr : 0 ≤ r) (s : Option Addr) (n c : Nat) :
    Calls Tryz.prog 163 #[.int .i64 r, .slice s n c] w fun e w' => e = .returned (.iface 165 (.pointer (some ⟨w.heap.size, 0, none⟩))) ∧ w' = w.alloc (.cells #[.slice s n c, .int .i64 r] 169) := by
  go_enter Tryz.func163, Tryz.ntmps163
  go_wp2
  go_ret
  exact ⟨rfl, rfl⟩

set_option maxHeartbeats 400000 in
theorem laid_arr (w : World) (r : Int) (hr : r < 0) (s : Option Addr) (n c : Nat) :
    Calls Tryz.prog 163 #[.int .i64 r, .slice s n c] w fun e w' => e = .returned (.iface 212 (.pointer (some ⟨w.heap.size, 0, none⟩))) ∧ w' = w.alloc (.cells #[.slice s n c] 167) := by
  go_enter Tryz.func163, Tryz.ntmps163
  go_wp2
  go_ret
  exact ⟨rfl, rfl⟩
end Go.Proofs.YtkjkpkmmojchiaaGreatDoor
