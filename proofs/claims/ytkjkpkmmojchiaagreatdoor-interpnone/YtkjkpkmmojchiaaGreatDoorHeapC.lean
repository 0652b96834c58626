/-
  Rec on a heap that New made, and Field of Null; conditions: a sort from 0 on, 0 to 1000 fields.
-/
import Derived.Test.YtkjkpkmmojchiaaGreatDoorHeapB
namespace Go.Proofs.YtkjkpkmmojchiaaGreatDoor
open Go.RowKit

theorem TAt.fr {S : List Nat} {w w' : World} {t : Thing} (h : TAt w t) (f : Fr S w w') (h1 : t.tb ∉ S) (h2 : t.rb ∉ S) : TAt w' t :=
  ⟨(f.block _ (Array.getElem?_eq_some_iff.1 h.own).1 h1).trans h.own, (f.block _ (Array.getElem?_eq_some_iff.1 h.row).1 h2).trans h.row⟩

theorem HB.ne_of {w : World} {b : Nat} {lim used : Int} {sv : Value} {rk rn : Int} (h : HB w b lim used sv rk rn) {k : Nat} {c : Array Value} {e : TypeId} {z : Nat × Nat} (hk : w.heap[k]? = some (.cells c e z)) (he : e ≠ 151) : k ≠ b := by
  rintro rfl
  unfold HB at h
  rw [h] at hk
  simp at hk
  exact he hk.2.1.symm

theorem own_ne_of {w : World} {B n : Nat} {sv : Value} {xs : List Value} (h : w.ownsRow B 143 1 sv n xs) {k : Nat} {c : Array Value} {e : TypeId} {z : Nat × Nat} (hk : w.heap[k]? = some (.cells c e z)) (he : e ≠ 143) : some k ≠ sv.ownBlock := by
  rcases h.2 with ⟨rfl, _⟩ | ⟨g, cap, cur, rfl, _, hgg, _⟩
  · simp [Value.ownBlock]
  · simp [Value.ownBlock]
    rintro rfl
    rw [hgg] at hk
    simp at hk
    exact he hk.2.1.symm

theorem TAt.tb_ne {w : World} {t : Thing} (h : TAt w t) : ∃ c e, w.heap[t.tb]? = some (.cells c e (0, 0)) ∧ e ≠ 151 ∧ e ≠ 143 ∧ e ≠ 33 := by
  have h1 := h.own
  unfold Thing.body at h1
  split at h1
  · exact ⟨_, _, h1, by decide, by decide, by decide⟩
  · exact ⟨_, _, h1, by decide, by decide, by decide⟩

theorem TAt.out {w : World} {t : Thing} (h : TAt w t) {B b n : Nat} {lim used : Int} {sv : Value} {rk rn : Int} {xs : List Value} (hb : HB w b lim used sv rk rn) (ho : w.ownsRow B 143 1 sv n xs) :
    t.tb ∉ b :: sv.ownBlock.toList ∧ t.rb ∉ b :: sv.ownBlock.toList := by
  obtain ⟨c, e, h1, h2, h3, _⟩ := h.tb_ne
  have a1 := hb.ne_of h1 h2
  have a2 := own_ne_of ho h1 h3
  have a3 := hb.ne_of h.row (by decide)
  have a4 := own_ne_of ho h.row (by decide)
  refine ⟨?_, ?_⟩
  · simp only [List.mem_cons, Option.mem_toList, not_or]
    exact ⟨a1, fun e => a2 e.symm⟩
  · simp only [List.mem_cons, Option.mem_toList, not_or]
    exact ⟨a3, fun e => a4 e.symm⟩

theorem add_rep {w : World} {B b : Nat} {lim used : Int} {sv : Value} {rk rn : Int} {T : List Thing} (h : Rep w B b lim used sv rk rn T) (t : Thing) (ht : TAt w t) (hnew : t.rb ∉ T.map Thing.rb) (hBt : B ≤ t.rb) (hn : T.length ≤ 1000000000000) (ty tb : Nat) (hv : t.val = .iface ty (.pointer (some ⟨tb, 0, none⟩))) :
    Calls Tryz.prog 162 #[.pointer (some ⟨b, 0, none⟩), .iface ty (.pointer (some ⟨tb, 0, none⟩))] w fun e w' => e = .returned (.agg #[.int .i64 2, .int .i64 T.length]) ∧
      ∃ sv', Rep w' B b lim used sv' rk rn (T ++ [t]) ∧ Fr (b :: sv.ownBlock.toList) w w' ∧ (∀ k, sv'.ownBlock = some k → sv.ownBlock = some k ∨ w.heap.size ≤ k) := by
  refine (add_any w ty tb T.length _ h.hb h.row hn h.base).mono ?_
  rintro e w' ⟨he, sv', h1, h2, h3, h4⟩
  refine ⟨he, sv', ⟨h1, ?_, ?_, ?_, h.base, ?_⟩, h3, h4⟩
  · simpa [← hv] using h2
  · intro u hu
    rcases List.mem_append.1 hu with hu | hu
    · have := h.th u hu
      have o := this.out h.hb h.row
      exact this.fr h3 o.1 o.2
    · simp at hu
      subst hu
      have o := ht.out h.hb h.row
      exact ht.fr h3 o.1 o.2
  · rw [List.map_append, List.nodup_append]
    refine ⟨h.sep, by simp, ?_⟩
    intro a ha c hc
    simp at hc
    subst hc
    rintro rfl
    exact hnew ha
  · intro u hu
    rcases List.mem_append.1 hu with hu | hu
    · exact h.rows u hu
    · simp at hu
      subst hu
      exact hBt

theorem flat_zero : ∀ n : Nat, (madeCells #[Value.int .i64 0, Value.int .i64 0] (n * 2)).toList = flat (List.replicate n ((0 : Int), (0 : Int))) := by
  intro n
  have key : ∀ n : Nat, flat (List.replicate n ((0 : Int), (0 : Int))) = List.replicate (n * 2) (.int .i64 0) := by
    intro n
    induction n with
    | zero => rfl
    | succ n ih => rw [List.replicate_succ]; simp only [flat]; rw [ih]; rw [show (n + 1) * 2 = n * 2 + 1 + 1 from by omega, List.replicate_succ, List.replicate_succ]
  rw [key]
  apply List.ext_getElem?
  intro i
  simp only [madeCells, Array.toList_map, List.getElem?_map, List.getElem?_replicate]
  by_cases hi : i < n * 2
  · rcases Nat.mod_two_eq_zero_or_one i with hm | hm <;> simp [hi, hm]
  · simp [hi]

theorem make_run (n : Nat) (hn : n ≤ 10000000) (w : World) :
    (Instr.makeSlice 55 (.int .i64 (n : Int)) (.int .i64 (n : Int))).run Tryz.prog w = .ok (.slice (some ⟨w.heap.size, 0, none⟩) n n) (w.alloc (.cells (flat (List.replicate n ((0 : Int), (0 : Int)))).toArray 33)) := by
  obtain ⟨i, hi, hz, hs, hby⟩ := info_parts info30
  have h := run_make (P := Tryz.prog) w 55 33 i _ under31 hi hz .i64 .i64 n n (by omega) (Int.le_refl _) (by rw [hby]; omega) (by omega)
  rw [h]
  simp only [Int.toNat_natCast, hs, ← flat_zero, Array.toArray_toList]
  rfl

set_option maxHeartbeats 400000 in
theorem rec_no {w : World} {b : Nat} {lim used : Int} {sv : Value} {rk rn : Int} (h : HB w b lim used sv rk rn) (r f : Int) (hr : 0 ≤ r) (hf : 0 ≤ f) (hf2 : f ≤ 1000) (hl : 0 ≤ lim) (hu : 0 ≤ used) (hul : used ≤ lim) (hlm : lim ≤ 10000000) (hc : lim - used < 1 + f) :
    Calls Tryz.prog 143 #[.pointer (some ⟨b, 0, none⟩), .int .i64 r, .int .i64 f] w fun e w' => e = .returned (.tuple #[.agg #[.int .i64 0, .int .i64 0], .int .i64 5]) ∧ Fr [] w w' := by
  have hlt := h.lt
  have hA : ∀ o, HB (w.alloc o) b lim used sv rk rn := fun o => h.fr (S := []) ((Fr.refl _ _).alloc o) (by simp)
  go_enter Tryz.func143, Tryz.ntmps143
  go_wp2_with (first | (go_at_call 85; refine (alive_any _ _ (hA _).c0).mono ?_; rintro e w' ⟨rfl, rfl⟩) | (go_at_call 161; go_loud (refine (charge_no _ (hA _) _ (by omega) hl hu hul hlm (by omega)).mono ?_); rintro e w' ⟨rfl, k, rfl⟩))
  refine bodyPost_ret (v := .tuple #[.agg #[.int .i64 0, .int .i64 0], .int .i64 5]) (by simp [results, Tryz.results143, go_sem]) rfl ⟨rfl, ?_⟩
  exact Fr.setCell (Fr.setCell (Fr.drewN ((Fr.refl _ _).alloc _) _) (.inr (by simp)) _) (.inr (by simp)) _

theorem Rep.setUsed {w : World} {B b : Nat} {lim used : Int} {sv : Value} {rk rn : Int} {T : List Thing} (h : Rep w B b lim used sv rk rn T) (u : Int) : Rep (w.setCell ⟨b, 2, none⟩ (.int .i64 u)) B b lim u sv rk rn T := by
  have hf : Fr [b] w (w.setCell ⟨b, 2, none⟩ (.int .i64 u)) := (Fr.refl _ _).setCell (.inl (by simp)) _
  refine ⟨h.hb.setUsed u, ?_, ?_, h.sep, h.base, h.rows⟩
  · refine ⟨h.row.1, ?_⟩
    rcases h.row.2 with e | ⟨g, cap, cur, e, r1, hgg, r2⟩
    · exact .inl e
    · have hlt := (Array.getElem?_eq_some_iff.1 hgg).1
      exact .inr ⟨g, cap, cur, e, r1, (hf.block g hlt (by simpa using h.hb.ne_of hgg (by decide))).trans hgg, r2⟩
  · intro t ht
    obtain ⟨c, e, h1, h2, _⟩ := (h.th t ht).tb_ne
    exact (h.th t ht).fr hf (by simpa using h.hb.ne_of h1 h2) (by simpa using h.hb.ne_of (h.th t ht).row (by decide))

theorem Rep.lt {w : World} {B b : Nat} {lim used : Int} {sv : Value} {rk rn : Int} {T : List Thing} (h : Rep w B b lim used sv rk rn T) : ∀ k, k ∈ foot b sv T → k < w.heap.size := by
  intro k hk
  unfold foot at hk
  simp only [List.mem_cons, List.mem_append, Option.mem_toList, List.mem_map] at hk
  rcases hk with rfl | hk | ⟨t, ht, rfl⟩
  · exact h.hb.lt
  · exact (h.row.lt k hk).2
  · exact (Array.getElem?_eq_some_iff.1 (h.th t ht).row).1

/-- Stores into the callers' own boxes leave a heap as it is. -/
theorem Rep.boxes {w w' : World} {S : List Nat} {B b : Nat} {lim used : Int} {sv : Value} {rk rn : Int} {T : List Thing} (h : Rep w B b lim used sv rk rn T) (f : Fr S w w')
    (hS : ∀ k, k ∈ S → (∃ c z, w.heap[k]? = some (.cells c 33 z) ∧ k ∉ T.map Thing.rb) ∨ w.heap.size ≤ k) : Rep w' B b lim used sv rk rn T := by
  have nb : b ∉ S := by
    intro hm
    rcases hS b hm with ⟨c, z, e, _⟩ | e
    · exact h.hb.ne_of e (by decide) rfl
    · have := h.hb.lt; omega
  refine ⟨h.hb.fr f nb, ?_, ?_, h.sep, h.base, h.rows⟩
  · refine ⟨h.row.1, ?_⟩
    rcases h.row.2 with e | ⟨g, cap, cur, e, r1, hgg, r2⟩
    · exact .inl e
    · have hlt := (Array.getElem?_eq_some_iff.1 hgg).1
      refine .inr ⟨g, cap, cur, e, r1, (f.block g hlt ?_).trans hgg, r2⟩
      intro hm
      rcases hS g hm with ⟨c, z, e, _⟩ | e
      · rw [hgg] at e
        simp at e
      · omega
  · intro t ht
    have hl := (Array.getElem?_eq_some_iff.1 (h.th t ht).row).1
    obtain ⟨c, e, h1, h2, h3, h4⟩ := (h.th t ht).tb_ne
    have hl2 := (Array.getElem?_eq_some_iff.1 h1).1
    refine (h.th t ht).fr f ?_ ?_
    · intro hm
      rcases hS _ hm with ⟨c', z', e', _⟩ | e'
      · rw [h1] at e'
        simp at e'
        exact h4 e'.2.1
      · omega
    · intro hm
      rcases hS _ hm with ⟨c', z', _, e'⟩ | e'
      · exact e' (List.mem_map.2 ⟨t, ht, rfl⟩)
      · omega

/-- The world as it is when a new record is numbered. -/
theorem rec_world {w : World} {B b : Nat} {lim used : Int} {sv : Value} {rk rn : Int} {T : List Thing} (h : Rep w B b lim used sv rk rn T) (o1 : Obj) (k : Nat) (u : Int) (t : Thing) (h1 : t.rb = w.heap.size + 1) (h2 : t.tb = w.heap.size + 1 + 1) (o3 : Obj) (ho3 : t.body = o3) (X : Array Value) (hX : X = (flat t.cells).toArray) :
    Rep (((((w.alloc o1).drewN k).setCell ⟨b, 2, none⟩ (.int .i64 u)).alloc (.cells X 33)).alloc o3) B b lim u sv rk rn T ∧
    TAt (((((w.alloc o1).drewN k).setCell ⟨b, 2, none⟩ (.int .i64 u)).alloc (.cells X 33)).alloc o3) t ∧
    t.rb ∉ T.map Thing.rb ∧ B ≤ t.rb ∧
    Fr (b :: sv.ownBlock.toList) w (((((w.alloc o1).drewN k).setCell ⟨b, 2, none⟩ (.int .i64 u)).alloc (.cells X 33)).alloc o3) ∧
    (((((w.alloc o1).drewN k).setCell ⟨b, 2, none⟩ (.int .i64 u)).alloc (.cells X 33)).alloc o3).heap[w.heap.size]? = some o1 := by
  subst hX
  subst ho3
  have hlt := h.hb.lt
  have a1 : Rep ((w.alloc o1).drewN k) B b lim used sv rk rn T := h.frame (S := []) (Fr.drewN ((Fr.refl _ _).alloc _) _) (by simp)
  have a2 := a1.setUsed u
  have s2 : (((w.alloc o1).drewN k).setCell ⟨b, 2, none⟩ (.int .i64 u)).heap.size = w.heap.size + 1 := by simp [World.setCell, World.drewN]
  generalize hW : ((w.alloc o1).drewN k).setCell ⟨b, 2, none⟩ (.int .i64 u) = W2 at *
  have f2 : Fr (b :: sv.ownBlock.toList) w W2 := by
    rw [← hW]
    exact Fr.setCell (Fr.drewN ((Fr.refl _ _).alloc _) _) (.inl (by simp)) _
  have n2 : W2.heap[w.heap.size]? = some o1 := by
    rw [← hW, Below.heap_setCell _ _ _ _ (by simp; omega)]
    exact heap_alloc_new w o1
  have a3 := a2.frame (S := []) ((Fr.refl _ _).alloc (.cells (flat t.cells).toArray 33)) (by simp)
  have a4 := a3.frame (S := []) ((Fr.refl _ _).alloc t.body) (by simp)
  refine ⟨a4, ⟨?_, ?_⟩, ?_, ?_, (f2.alloc _).alloc _, ?_⟩
  · rw [h2, ← s2, show W2.heap.size + 1 = (W2.alloc (.cells (flat t.cells).toArray 33)).heap.size from by simp]
    exact heap_alloc_new _ _
  · rw [Below.heap_alloc _ _ _ (by rw [h1, ← s2]; simp), h1, ← s2]
    exact heap_alloc_new _ _
  · intro hm
    have := h.lt t.rb (by unfold foot; simp only [List.mem_cons, List.mem_append]; exact .inr (.inr hm))
    omega
  · have := h.base
    omega
  · rw [Below.heap_alloc _ _ _ (by simp; omega), Below.heap_alloc _ _ _ (by omega)]
    exact n2

set_option maxHeartbeats 400000 in
theorem rec_yes {w : World} {B b : Nat} {lim used : Int} {sv : Value} {rk rn : Int} {T : List Thing} (h : Rep w B b lim used sv rk rn T) (r : Int) (f : Nat) (hr : 0 ≤ r) (hf2 : (f : Int) ≤ 1000) (hl : 0 ≤ lim) (hu : 0 ≤ used) (hul : used ≤ lim) (hlm : lim ≤ 10000000) (hc : 1 + (f : Int) ≤ lim - used) (hT : T.length ≤ 1000000000000) :
    Calls Tryz.prog 143 #[.pointer (some ⟨b, 0, none⟩), .int .i64 r, .int .i64 (f : Int)] w fun e w' => e = .returned (.tuple #[.agg #[.int .i64 2, .int .i64 T.length], .int .i64 0]) ∧
      ∃ sv' t, Rep w' B b lim (used + (1 + f)) sv' rk rn (T ++ [t]) ∧ t.sort = r ∧ t.cells = List.replicate f ((0 : Int), (0 : Int)) ∧ w.heap.size ≤ t.rb ∧ Fr (b :: sv.ownBlock.toList) w w' ∧ (∀ k, sv'.ownBlock = some k → sv.ownBlock = some k ∨ w.heap.size ≤ k) := by
  have hlt := h.hb.lt
  have hA : ∀ o, HB (w.alloc o) b lim used sv rk rn := fun o => h.hb.fr (S := []) ((Fr.refl _ _).alloc o) (by simp)
  have hmk := make_run f (by omega)
  go_enter Tryz.func143, Tryz.ntmps143
  go_wp2_with (first | (go_at_call 85; refine (alive_any _ _ (hA _).c0).mono ?_; rintro e w' ⟨rfl, rfl⟩) | (go_at_call 161; refine (charge_yes _ (hA _) _ (by omega) hl hu hul hlm (by omega)).mono ?_; rintro e w' ⟨rfl, k, rfl⟩) | (go_at_call 163; refine (laid_rec _ _ hr _ _ _).mono ?_; rintro e w' ⟨rfl, rfl⟩))
  obtain ⟨q1, q2, q3, q4, q5, q6⟩ := rec_world h (.cells #[.int .i64 0, .int .i64 0] 33) k (used + (1 + (f : Int))) ⟨w.heap.size + 1 + 1, w.heap.size + 1, r, List.replicate f ((0 : Int), (0 : Int))⟩ rfl rfl (.cells #[.slice (some ⟨w.heap.size + 1, 0, none⟩) f f, .int .i64 r] 169) (by simp [Thing.body, Thing.sl]; omega) (flat (List.replicate f ((0 : Int), (0 : Int)))).toArray rfl
  refine (add_rep q1 _ q2 q3 q4 hT 165 (w.heap.size + 1 + 1) (by simp [Thing.val]; omega)).mono ?_
  rintro e w' ⟨rfl, sv', p1, p2, p3⟩
  have hsz : w.heap.size < (((((w.alloc (Obj.cells #[Value.int IntKind.i64 0, Value.int IntKind.i64 0] 33)).drewN k).setCell { block := b, off := 2 } (Value.int IntKind.i64 (used + (1 + (f : Int))))).alloc (Obj.cells (flat (List.replicate f ((0 : Int), (0 : Int)))).toArray 33)).alloc (Obj.cells #[Value.slice (some { block := w.heap.size + 1, off := 0 }) f f, Value.int IntKind.i64 r] 169)).heap.size := by simp [World.setCell, World.drewN]; omega
  have hL : w'.heap[w.heap.size]? = some (.cells #[.int .i64 0, .int .i64 0] 33) := by
    rw [p2.block _ hsz ?_]
    · exact q6
    · simp only [List.mem_cons, Option.mem_toList, not_or]
      exact ⟨by omega, fun e => by have := h.row.lt _ e; omega⟩
  have hFr : Fr (b :: sv.ownBlock.toList) w w' := q5.trans p2
  have hl0 : w'.cell? ⟨w.heap.size, 0, none⟩ = some (.int .i64 0) := by simp [World.cell?, hL]
  have hl1 : w'.cell? ⟨w.heap.size, 1, none⟩ = some (.int .i64 0) := by simp [World.cell?, hL]
  have hlf : ∀ i, w'.frozen? ⟨w.heap.size, i, none⟩ = false := by intro i; simp [World.frozen?, hL]
  clear q1 q2 q3 q4 q5 q6 hsz hmk hA
  go_wp2
  refine bodyPost_ret (v := .tuple #[.agg #[.int .i64 2, .int .i64 T.length], .int .i64 0]) (by simp [results, Tryz.results143, go_sem, hl0, hl1]) rfl ⟨rfl, sv', _, p1.boxes (S := [w.heap.size]) (Fr.setCell (Fr.setCell (Fr.refl _ _) (.inl (by simp)) _) (.inl (by simp)) _) ?_, rfl, rfl, by simp, ?_, ?_⟩
  · intro k hk
    simp at hk
    subst hk
    refine .inl ⟨_, _, hL, ?_⟩
    rw [List.map_append, List.mem_append, not_or]
    refine ⟨fun hm => ?_, by simp⟩
    have := h.lt w.heap.size (by unfold foot; simp only [List.mem_cons, List.mem_append]; exact .inr (.inr hm))
    omega
  · exact Fr.setCell (Fr.setCell hFr (.inr (by simp)) _) (.inr (by simp)) _
  · intro j hj
    rcases p3 j hj with e | e
    · exact .inl e
    · right
      simp [World.setCell, World.drewN] at e
      omega

theorem Rep.new (w : World) (l : Int) : Rep (w.alloc (.cells #[.bool true, .int .i64 (cap0 l), .int .i64 0, .slice none 0 0, .int .i64 0, .int .i64 0] 151)) w.heap.size w.heap.size (cap0 l) 0 (.slice none 0 0) 0 0 [] :=
  ⟨heap_alloc_new w _, World.ownsRow_nil _ _ _ _, fun _ ht => by simp at ht, by simp, Nat.le_refl _, fun _ ht => by simp at ht⟩

theorem cap0_le (l : Int) : 0 ≤ cap0 l ∧ cap0 l ≤ 10000000 := by unfold cap0; split <;> (try split) <;> omega

set_option maxHeartbeats 400000 in
theorem find_null {w : World} {b : Nat} {lim used : Int} {sv : Value} {rk rn : Int} (h : HB w b lim used sv rk rn) (n : Int) :
    Calls Tryz.prog 82 #[.pointer (some ⟨b, 0, none⟩), .agg #[.int .i64 1, .int .i64 n]] w fun e w' => e = .returned (.tuple #[.nilIface, .int .i64 3]) ∧ Fr [] w w' := by
  have hA : ∀ o, HB (w.alloc o) b lim used sv rk rn := fun o => h.fr (S := []) ((Fr.refl _ _).alloc o) (by simp)
  go_enter Tryz.func82, Tryz.ntmps82
  go_wp2_with (first | (go_at_call 85; refine (alive_any _ _ (hA _).c0).mono ?_; rintro e w' ⟨rfl, rfl⟩))
  go_ret2
  exact ⟨rfl, (Fr.refl _ _).alloc _⟩

set_option maxHeartbeats 400000 in
theorem field_null {w : World} {b : Nat} {lim used : Int} {sv : Value} {rk rn : Int} (h : HB w b lim used sv rk rn) (n r a : Int) :
    Calls Tryz.prog 158 #[.pointer (some ⟨b, 0, none⟩), .agg #[.int .i64 1, .int .i64 n], .int .i64 r, .int .i64 a] w fun e w' => e = .returned (.tuple #[.pointer none, .int .i64 3]) ∧ Fr [] w w' := by
  have hA : ∀ o, HB (w.alloc o) b lim used sv rk rn := fun o => h.fr (S := []) ((Fr.refl _ _).alloc o) (by simp)
  go_enter Tryz.func158, Tryz.ntmps158
  go_wp2_with (first | (go_at_call 82; refine (find_null (hA _) _).mono ?_; rintro e w' ⟨rfl, hfr⟩))
  go_ret2
  exact ⟨rfl, ((Fr.refl _ _).alloc _).trans hfr⟩

set_option maxHeartbeats 400000 in
theorem Field_null {w : World} {b : Nat} {lim used : Int} {sv : Value} {rk rn : Int} (h : HB w b lim used sv rk rn) (n r a : Int) :
    Calls Tryz.prog 137 #[.pointer (some ⟨b, 0, none⟩), .agg #[.int .i64 1, .int .i64 n], .int .i64 r, .int .i64 a] w fun e w' => e = .returned (.tuple #[.agg #[.int .i64 0, .int .i64 0], .int .i64 3]) ∧ Fr [] w w' := by
  have hlt := h.lt
  have hA : ∀ o o', HB ((w.alloc o).alloc o') b lim used sv rk rn := fun o o' => h.fr (S := []) (((Fr.refl _ _).alloc o).alloc o') (by simp)
  go_enter Tryz.func137, Tryz.ntmps137
  go_wp2_with fail
  refine (field_null (hA _ _) _ _ _).mono ?_
  rintro e w' ⟨rfl, hfr⟩
  have hL : w'.heap[w.heap.size + 1]? = some (.cells #[.int .i64 0, .int .i64 0] 33) := by
    rw [hfr.block _ (by simp) (by simp)]
    exact blk2 w _ _
  have hl0 : w'.cell? ⟨w.heap.size + 1, 0, none⟩ = some (.int .i64 0) := by simp [World.cell?, hL]
  have hl1 : w'.cell? ⟨w.heap.size + 1, 1, none⟩ = some (.int .i64 0) := by simp [World.cell?, hL]
  have hlf : ∀ i, w'.frozen? ⟨w.heap.size + 1, i, none⟩ = false := by intro i; simp [World.frozen?, hL]
  go_wp2
  refine bodyPost_ret (v := .tuple #[.agg #[.int .i64 0, .int .i64 0], .int .i64 3]) (by simp [results, Tryz.results137, go_sem, hl0, hl1]) rfl ⟨rfl, ?_⟩
  exact Fr.setCell (Fr.setCell ((((Fr.refl _ _).alloc _).alloc _).trans hfr) (.inr (by simp)) _) (.inr (by simp)) _
end Go.Proofs.YtkjkpkmmojchiaaGreatDoor
