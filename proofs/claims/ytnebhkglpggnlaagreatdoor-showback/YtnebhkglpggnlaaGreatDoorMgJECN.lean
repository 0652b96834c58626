/-
  Texts of the proof, in their order: ShwC; conditions: as each says.
-/
import Derived.Lib.Builder
import Derived.Lib.AppendStr
import Derived.Deep.RegionHeld3
import Derived.Test.YtnebhkglpggnlaaGreatDoorMgGPHI
import Derived.Test.YtnebhkglpggnlaaGreatDoorMgHDMG
namespace Go.Proofs.YtnebhkglpggnlaaGreatDoor
open Go.RowKit
set_option linter.unusedVariables false
set_option linter.unusedSimpArgs false

/-- What is written behind b as long as it fits. -/
def Adds (most : Nat) (b : List UInt8) (l : Bool) (t b' : List UInt8) (l' : Bool) : Prop := b'.length ≤ b.length + t.length ∧ b'.length ≤ most ∧ (l = false ∧ b.length + t.length ≤ most → b' = b ++ t ∧ l' = false) ∧ (¬ (l = false ∧ b.length + t.length ≤ most) → l' = true)
theorem Adds.nil {most : Nat} {b : List UInt8} {l : Bool} (h : b.length ≤ most) : Adds most b l [] b l :=
  ⟨by simp, h, fun ⟨h1, _⟩ => ⟨by simp, h1⟩, fun hn => by
    cases l with
    | true => rfl
    | false => exact absurd ⟨rfl, by simpa using h⟩ hn⟩
theorem Adds.trans {most : Nat} {b b1 b2 t1 t2 : List UInt8} {l l1 l2 : Bool} (h : Adds most b l t1 b1 l1) (k : Adds most b1 l1 t2 b2 l2) : Adds most b l (t1 ++ t2) b2 l2 := by
  obtain ⟨h1, h2, h3, h4⟩ := h
  obtain ⟨k1, k2, k3, k4⟩ := k
  refine ⟨by simp only [List.length_append]; omega, k2, fun ⟨e1, e2⟩ => ?_, fun hn => ?_⟩
  · simp only [List.length_append] at e2
    obtain ⟨rfl, rfl⟩ := h3 ⟨e1, by omega⟩
    obtain ⟨rfl, rfl⟩ := k3 ⟨rfl, by simp only [List.length_append]; omega⟩
    exact ⟨by simp, rfl⟩
  · by_cases hc : l = false ∧ b.length + t1.length ≤ most
    · obtain ⟨rfl, rfl⟩ := h3 hc
      refine k4 (fun ⟨_, e⟩ => hn ⟨hc.1, ?_⟩)
      simp only [List.length_append] at e ⊢
      omega
    · have := h4 hc
      subst this
      exact k4 (fun ⟨e, _⟩ => by cases e)
theorem Adds.cast {most : Nat} {b b' t t' : List UInt8} {l l' : Bool} (h : Adds most b l t b' l') (e : t = t') : Adds most b l t' b' l' := e ▸ h

/-- A writer in memory; F: the blocks that are its own. -/
structure WS (B wb : Nat) (F : List Nat) (av : Value) (most : Nat) (bs : List UInt8) (lg : Bool) (ab : Nat) (w : World) : Prop where
  ex : ∃ (p v : Value), w.heap[wb]? = some (.cells #[av, p, v, .int .i64 (most : Nat), .bool lg, .int .i64 (ab : Nat)] 64 (0, 0)) ∧ (p = .pointer none ∨ p = .pointer (some ⟨wb, 1, none⟩)) ∧ w.ownsRow B 5 1 v bs.length (Lib.byteCells bs) ∧ (∀ k, v.ownBlock = some k → k ∈ F ∧ k ≠ wb)
  pf : wb ∈ F
  fb : ∀ j ∈ F, B ≤ j ∧ j < w.heap.size
  lo : 5 ≤ B
  bm : bs.length ≤ most
  mm : most ≤ 9223372036854775807
  bl : bs.length ≤ 1000000000000
  al : ab ≤ 100000

section
variable {B wb : Nat} {F : List Nat} {av : Value} {most : Nat} {bs : List UInt8} {lg : Bool} {ab : Nat} {w w' : World}
theorem WS.fr (h : WS B wb F av most bs lg ab w) {S : List Nat} (f : Fr S w w') (hS : ∀ j ∈ S, j ∉ F) : WS B wb F av most bs lg ab w' := by
  obtain ⟨p, v, h1, h2, h3, h4⟩ := h.ex
  have kp : ∀ {k : Nat} {o : Obj}, k ∈ F → w.heap[k]? = some o → w'.heap[k]? = some o := fun hk h => (f.block _ (Array.getElem?_eq_some_iff.1 h).1 (fun hm => hS _ hm hk)).trans h
  exact ⟨⟨p, v, kp h.pf h1, h2, own_fr h3 f (fun k hk hm => hS k hm (h4 k hk).1), h4⟩, h.pf, fun j hj => ⟨(h.fb j hj).1, Nat.lt_of_lt_of_le (h.fb j hj).2 f.size⟩, h.lo, h.bm, h.mm, h.bl, h.al⟩
theorem WS.hi (h : WS B wb F av most bs lg ab w) : ∀ k, k ∈ F → B ≤ k := fun k hk => (h.fb k hk).1
theorem WS.tabs (h : WS B wb F av most bs lg ab w) (T : Tabs w) (f : Fr F w w') : Tabs w' := T.fr f (fun k hk => by have := h.fb k hk; have := h.lo; omega)
end
theorem wr_cells {wb : Nat} {w : World} {v0 v1 v2 v3 v4 v5 : Value} (h : w.heap[wb]? = some (.cells #[v0, v1, v2, v3, v4, v5] 64 (0, 0))) : w.cell? ⟨wb, 0, none⟩ = some v0 ∧ w.cell? ⟨wb, 1, none⟩ = some v1 ∧ w.cell? ⟨wb, 2, none⟩ = some v2 ∧ w.cell? ⟨wb, 3, none⟩ = some v3 ∧ w.cell? ⟨wb, 4, none⟩ = some v4 ∧ w.cell? ⟨wb, 5, none⟩ = some v5 ∧ ∀ j, w.frozen? ⟨wb, j, none⟩ = false := by
  simp [World.cell?, World.frozen?, h]
set_option maxRecDepth 100000 in
set_option maxHeartbeats 1000000 in
theorem blen_any {B wb : Nat} {F : List Nat} {av : Value} {most : Nat} {bs : List UInt8} {lg : Bool} {ab : Nat} {w : World} (h : WS B wb F av most bs lg ab w) :
    Calls Tryz.prog 74 #[.pointer (some ⟨wb, 1, none⟩)] w fun e w' => e = .returned (.int .i64 (bs.length : Nat)) ∧ w' = w := by
  obtain ⟨p, v, hb, _, hown, _⟩ := h.ex
  obtain ⟨a, c, rfl, _⟩ := own_slice hown
  obtain ⟨c0, c1, c2, c3, c4, c5, cz⟩ := wr_cells hb
  go_enter Tryz.func74, Tryz.ntmps74
  go_wp2
  go_ret
  exact ⟨rfl, rfl⟩
theorem sizeB : (Tryz.prog.info? 62).map (·.size) = some 2 := by kernel_rfl
theorem liesB : liesAt Tryz.prog Tryz.prog.depth 64 (6 / Tryz.prog.cellsOf 64) 1 62 1 = true := by kernel_rfl
set_option maxRecDepth 100000 in
set_option maxHeartbeats 1000000 in
theorem copy_used {wb : Nat} {w : World} (h0 : w.cell? ⟨wb, 1, none⟩ = some (.pointer (some ⟨wb, 1, none⟩))) :
    Calls Tryz.prog 94 #[.pointer (some ⟨wb, 1, none⟩)] w fun e w' => e = .returned (.tuple #[]) ∧ w' = w := by
  obtain ⟨j, hj, _⟩ := Option.map_eq_some_iff.1 sizeB
  go_enter Tryz.func94, Tryz.ntmps94
  go_wp2
  rw [Lib.run_neq_ptr_same w _ Tryz.underlying59 hj]
  go_wp2
  go_end0
  exact ⟨rfl, rfl⟩
set_option maxRecDepth 100000 in
set_option maxHeartbeats 1000000 in
theorem copy_fresh {wb : Nat} {w : World} (h0 : w.cell? ⟨wb, 1, none⟩ = some (.pointer none)) (hsh : w.shape? wb = some (64, 6)) (hfz : w.frozen? ⟨wb, 1, none⟩ = false) :
    Calls Tryz.prog 94 #[.pointer (some ⟨wb, 1, none⟩)] w fun e w' => e = .returned (.tuple #[]) ∧ w' = w.setCell ⟨wb, 1, none⟩ (.pointer (some ⟨wb, 1, none⟩)) := by
  obtain ⟨j, hj, hjs⟩ := Option.map_eq_some_iff.1 sizeB
  go_enter Tryz.func94, Tryz.ntmps94
  go_wp2
  rw [Lib.run_to_unsafe w ⟨wb, 1, none⟩ Tryz.underlying59 Tryz.underlying132 hj (by rw [hjs]; decide) hsh (by show 1 < 6; decide)]
  simp only [Result.andThen]
  rw [Oper.upon_value]
  go_wp2
  rw [run_callFunc_extern Tryz.func113 (by kernel_rfl) (by kernel_rfl) (by kernel_rfl) (e := Extern.AbiNoEscape.same) (by kernel_rfl)]
  rw [Lib.run_noEscape]
  simp only [Result.andThen]
  rw [Oper.upon_value]
  go_wp2
  rw [Lib.run_from_unsafe w ⟨wb, 1, none⟩ Tryz.underlying132 Tryz.underlying59 hj hsh liesB]
  simp only [Result.andThen]
  rw [Oper.upon_value]
  go_wp2
  go_end0
  exact ⟨rfl, rfl⟩
theorem infoU : (Tryz.prog.info? 5).map (fun i => (i.zero, i.size, i.bytes)) = some (some (.int .u8 0), 1, 1) := by kernel_rfl
/-- A text laid behind bytes of one's own, and where they lie then. -/
theorem append_loc (w : World) (ty : TypeId) (base : Nat) (v : Value) (n : Nat) (xs : List Value) (hown : w.ownsRow base 5 1 v n xs) (s : ByteArray) (hl : n + s.size ≤ 1000000000000) (hbase : base ≤ w.heap.size) :
    ∃ v' w', (Builtin.append_ #[60, 9] ty #[v, .string s]).run Tryz.prog w = .ok v' w' ∧ w'.ownsRow base 5 1 v' (n + s.size) (xs ++ Lib.strCells s) ∧ w.grownBy w' v.ownBlock ∧ (v'.ownBlock = v.ownBlock ∨ ∀ k, v'.ownBlock = some k → w.heap.size ≤ k) := by
  obtain ⟨i0, hi, hz0, hz1, hz2⟩ := info_parts infoU
  have hm : n + s.size ≤ maxLen := by unfold maxLen; omega
  obtain ⟨v', w', hr, h1, h2, _⟩ := Lib.run_append_own_string (P := Tryz.prog) w base 60 9 ty 5 i0 Tryz.underlying60 Tryz.underlying9 hi hz0 hz1 hz2 v n xs hown s hm (by omega) hbase
  refine ⟨v', w', hr, h1, h2, ?_⟩
  have hxl : xs.length = n := by simpa using hown.1
  rcases hown.2 with ⟨rfl, rfl⟩ | ⟨g, cap, cur, rfl, hbg, hg, hnc, hcm, hcs, htake⟩
  · have hx : xs = [] := List.eq_nil_of_length_eq_zero hxl
    subst hx
    obtain ⟨v2, w2, hr2, k1, _, _⟩ := Lib.run_append_own_string (P := Tryz.prog) w w.heap.size 60 9 ty 5 i0 Tryz.underlying60 Tryz.underlying9 hi hz0 hz1 hz2 (.slice none 0 0) 0 [] (World.ownsRow_nil _ _ _ _) s hm (by omega) (Nat.le_refl _)
    rw [hr] at hr2
    cases hr2
    exact .inr (fun k hk => (k1.lt k hk).1)
  · by_cases hroom : n + s.size ≤ cap
    · have hr2 := Lib.run_append_room_string (P := Tryz.prog) w 60 9 ty 5 i0 Tryz.underlying60 Tryz.underlying9 hi hz1 g n cap cur hg s hroom (by omega)
      rw [hr] at hr2
      cases hr2
      exact .inl rfl
    · have hr2 := Lib.run_append_grow_string (P := Tryz.prog) w 60 9 ty 5 i0 (.int .u8 0) Tryz.underlying60 Tryz.underlying9 hi hz0 ⟨g, 0, none⟩ n cap xs (by rw [hz1]; simpa using hxl) (hown.cells (g := g) rfl) s (by omega) (by omega) (by rw [hz2]; exact growslice_fits (by omega) (by omega))
      rw [hr] at hr2
      cases hr2
      exact .inr (fun k hk => by simp [Value.ownBlock] at hk; omega)
theorem append_step {w : World} {ops : Array Oper} {rest : List Oper} {o : Oper} {a : Act} {Q : Exit → Act → World → Prop} (hgd : o.guard = none) (sl x : Operand) (ho : o.op = .call { callee := .builtin .append, args := #[sl, x], argTypes := #[60, 9] })
    (base : Nat) (v : Value) (n : Nat) (xs : List Value) (hs : a.eval sl = v) (hown : w.ownsRow base 5 1 v n xs) (s : ByteArray) (hx : a.eval x = .string s) (hl : n + s.size ≤ 1000000000000) (hbase : base ≤ w.heap.size)
    (h : ∀ v' w', w'.ownsRow base 5 1 v' (n + s.size) (xs ++ Lib.strCells s) → w.grownBy w' v.ownBlock → (v'.ownBlock = v.ownBlock ∨ ∀ k, v'.ownBlock = some k → w.heap.size ≤ k) → wpList Tryz.prog ops Q rest (a.put o.dst v') w') : wpList Tryz.prog ops Q (o :: rest) a w := by
  refine wpList_plain hgd fun K hK => ?_
  obtain ⟨v', w', hr, h2, h3, h4⟩ := append_loc w o.type base v n xs hown s hl hbase
  have hk := hK _ _ (h v' w' h2 h3 h4)
  unfold Oper.wp execOp
  simp [ho, resolve, invoke, builtin, hs, hx, hr]
  exact hk
set_option maxRecDepth 100000 in
set_option maxHeartbeats 2000000 in
theorem write_any {B wb : Nat} {F : List Nat} {av : Value} {most : Nat} {bs : List UInt8} {lg : Bool} {ab : Nat} {w : World} (h : WS B wb F av most bs lg ab w) (s : ByteArray) (hm : bs.length + s.size ≤ most) (hl : bs.length + s.size ≤ 1000000000000) :
    Calls Tryz.prog 75 #[.pointer (some ⟨wb, 1, none⟩), .string s] w fun e w' => e = .returned (.tuple #[.int .i64 s.size, .nilIface]) ∧ ∃ F', WS B wb F' av most (bs ++ s.data.toList) lg ab w' ∧ Tr F w F' w' := by
  have CC : Calls Tryz.prog 94 #[.pointer (some ⟨wb, 1, none⟩)] w fun e w1 => e = .returned (.tuple #[]) ∧ ∃ v, w1.heap[wb]? = some (.cells #[av, .pointer (some ⟨wb, 1, none⟩), v, .int .i64 (most : Nat), .bool lg, .int .i64 (ab : Nat)] 64 (0, 0)) ∧ w1.ownsRow B 5 1 v bs.length (Lib.byteCells bs) ∧ (∀ k, v.ownBlock = some k → k ∈ F ∧ k ≠ wb) ∧ Fr F w w1 := by
    obtain ⟨p, v, hb, hp, hown, hv⟩ := h.ex
    obtain ⟨c0, c1, c2, c3, c4, c5, cz⟩ := wr_cells hb
    rcases hp with rfl | rfl
    · refine (copy_fresh c1 (by simp [World.shape?, hb]) (cz 1)).mono ?_
      rintro e w' ⟨rfl, rfl⟩
      have f1 : Fr [wb] w (w.setCell ⟨wb, 1, none⟩ (.pointer (some ⟨wb, 1, none⟩))) := Fr.setCell (Fr.refl _ _) (.inl (by simp)) _
      refine ⟨rfl, v, by simp [World.setCell, Array.getElem?_modify, hb], own_fr hown f1 (fun k hk hm => (hv k hk).2 (by simpa using hm)), hv, f1.sub (fun k hk => .inl (by simp at hk; subst hk; exact h.pf))⟩
    · refine (copy_used c1).mono ?_
      rintro e w' ⟨rfl, rfl⟩
      exact ⟨rfl, v, hb, hown, hv, Fr.refl _ _⟩
  have hBw : B ≤ w.heap.size := by have := h.fb wb h.pf; omega
  go_enter Tryz.func75, Tryz.ntmps75
  go_wp2_with fail
  refine CC.mono ?_
  rintro e w1 ⟨rfl, v, hb, hown, hv, f1⟩
  obtain ⟨c0, c1, c2, c3, c4, c5, cz⟩ := wr_cells hb
  have hB1 := Nat.le_trans hBw f1.size
  go_wp2_with (at_builtin; refine append_step rfl _ _ rfl B v bs.length (Lib.byteCells bs) rfl hown s rfl hl hB1 ?_)
  intro v' w2 hown' hgrow hloc
  have f2 : Fr v.ownBlock.toList w1 w2 := Fr.ofGrown hgrow
  have hb2 : w2.heap[wb]? = some (.cells #[av, .pointer (some ⟨wb, 1, none⟩), v, .int .i64 (most : Nat), .bool lg, .int .i64 (ab : Nat)] 64 (0, 0)) := (f2.block _ (Array.getElem?_eq_some_iff.1 hb).1 (fun hm => (hv wb (by simpa using hm)).2 rfl)).trans hb
  obtain ⟨d0, d1, d2, d3, d4, d5, dz⟩ := wr_cells hb2
  have dz2 := dz 2
  obtain ⟨va, vc, rfl, _⟩ := own_slice hown'
  clear CC c3 c4 c5 cz dz d3 d4 d5 hB1
  go_wp2
  go_ret2
  have hb3 : (w2.setCell ⟨wb, 2, none⟩ (.slice va (bs.length + s.size) vc)).heap[wb]? = some (.cells #[av, .pointer (some ⟨wb, 1, none⟩), .slice va (bs.length + s.size) vc, .int .i64 (most : Nat), .bool lg, .int .i64 (ab : Nat)] 64 (0, 0)) := by simp [World.setCell, Array.getElem?_modify, hb2]
  have f3 : Fr [wb] w2 (w2.setCell ⟨wb, 2, none⟩ (.slice va (bs.length + s.size) vc)) := Fr.setCell (Fr.refl _ _) (.inl (by simp)) _
  have hne : ∀ k, (Value.slice va (bs.length + s.size) vc).ownBlock = some k → k ≠ wb := fun k hk e => own_ne hown' hb2 (by decide) (by rw [← e]; exact hk)
  have FF : Fr F w (w2.setCell ⟨wb, 2, none⟩ (.slice va (bs.length + s.size) vc)) := (f1.trans (f2.sub (fun k hk => .inl (hv k (by simpa using hk)).1))).trans (f3.sub (fun k hk => .inl (by simp at hk; subst hk; exact h.pf)))
  refine ⟨rfl, F ++ (Value.slice va (bs.length + s.size) vc).ownBlock.toList, ⟨⟨_, _, hb3, .inr rfl, ?_, fun k hk => ⟨by simp [hk], hne k hk⟩⟩, by simp [h.pf], ?_, h.lo, ?_, h.mm, ?_, h.al⟩, ⟨FF, ?_⟩⟩
  · have := own_fr hown' f3 (fun k hk hm => hne k hk (by simpa using hm))
    have e1 : (bs ++ s.data.toList).length = bs.length + s.size := by rw [List.length_append, ← Lib.size_eq]
    rw [e1]
    simpa [Lib.byteCells, Lib.strCells] using this
  · intro j hj
    simp only [List.mem_append, Option.mem_toList] at hj
    have hsz := FF.size
    rcases hj with hj | hj
    · have := h.fb j hj; omega
    · have := hown'.lt j hj; have := f3.size; omega
  · rw [List.length_append, ← Lib.size_eq]; exact hm
  · rw [List.length_append, ← Lib.size_eq]; exact hl
  · intro k hk
    simp only [List.mem_append, Option.mem_toList] at hk
    rcases hk with hk | hk
    · exact .inl hk
    · rcases hloc with e | e
      · exact .inl (hv k (by rw [← e]; exact hk)).1
      · have := e k hk; have := f1.size; exact .inr (by omega)
/-- How a call that writes t comes out. -/
def PostW (B wb : Nat) (F : List Nat) (av : Value) (most : Nat) (bs : List UInt8) (lg : Bool) (ab : Nat) (w : World) (t : List UInt8) (e : Ending) (w' : World) : Prop := e = .returned (.tuple #[]) ∧ ∃ bs' lg' F', Adds most bs lg t bs' lg' ∧ WS B wb F' av most bs' lg' ab w' ∧ Tr F w F' w'
set_option maxRecDepth 100000 in
set_option maxHeartbeats 2000000 in
theorem add_any {B wb : Nat} {F : List Nat} {av : Value} {most : Nat} {bs : List UInt8} {lg : Bool} {ab : Nat} {w : World} (h : WS B wb F av most bs lg ab w) (s : ByteArray) (hl : bs.length + s.size ≤ 1000000000000) :
    Calls Tryz.prog 50 #[.pointer (some ⟨wb, 0, none⟩), .string s] w (PostW B wb F av most bs lg ab w s.data.toList) := by
  obtain ⟨p, v, hb, hp, hown, hv⟩ := h.ex
  obtain ⟨c0, c1, c2, c3, c4, c5, cz⟩ := wr_cells hb
  have CL : ∀ n, Calls Tryz.prog 74 #[.pointer (some ⟨wb, 1, none⟩)] (w.drewN n) fun e w' => e = .returned (.int .i64 (bs.length : Nat)) ∧ w' = w.drewN n := fun n => blen_any (h.fr ((Fr.refl [] w).drewN n) (by simp))
  have hbm := h.bm
  have hmm := h.mm
  have hbI : (bs.length : Int) ≤ most := by omega
  have hmI : (most : Int) ≤ 9223372036854775807 := by omega
  have hz : s.data.toList.length = s.size := (Lib.size_eq s).symm
  by_cases hc : most < bs.length + s.size
  · have hcI : (most : Int) - bs.length < s.size := by omega
    go_enter Tryz.func50, Tryz.ntmps50
    go_wp2_with fail
    go_quiet ((go_at_call 74; exact Calls.quiet_of_same (CL _)))
    go_wp2
    go_end0
    have f1 : Fr [wb] w ((w.drewN nq).setCell ⟨wb, 4, none⟩ (.bool true)) := Fr.setCell ((Fr.refl _ _).drewN _) (.inl (by simp)) _
    refine ⟨rfl, bs, true, F, ⟨by omega, hbm, fun ⟨_, e⟩ => by omega, fun _ => rfl⟩, ⟨⟨p, v, by simp [World.setCell, Array.getElem?_modify, hb], hp, own_fr hown f1 (fun k hk hm => (hv k hk).2 (by simpa using hm)), hv⟩, h.pf, fun j hj => ⟨(h.fb j hj).1, Nat.lt_of_lt_of_le (h.fb j hj).2 f1.size⟩, h.lo, h.bm, h.mm, h.bl, h.al⟩, Tr.of (f1.sub (fun k hk => .inl (by simp at hk; subst hk; exact h.pf)))⟩
  · have hcI : ¬ ((most : Int) - bs.length < s.size) := by omega
    have CW : ∀ n, Calls Tryz.prog 75 #[.pointer (some ⟨wb, 1, none⟩), .string s] (w.drewN n) fun e w' => e = .returned (.tuple #[.int .i64 s.size, .nilIface]) ∧ ∃ F', WS B wb F' av most (bs ++ s.data.toList) lg ab w' ∧ Tr F (w.drewN n) F' w' := fun n => write_any (h.fr ((Fr.refl [] w).drewN n) (by simp)) s (by omega) hl
    go_enter Tryz.func50, Tryz.ntmps50
    go_wp2_with fail
    go_quiet ((go_at_call 74; exact Calls.quiet_of_same (CL _)))
    go_wp2_with fail
    refine (CW _).mono ?_
    rintro e w' ⟨rfl, F', h1, h2⟩
    go_wp2
    go_end0
    refine ⟨rfl, bs ++ s.data.toList, lg, F', ⟨by simp, h1.bm, fun ⟨e1, _⟩ => ⟨rfl, e1⟩, fun hn => ?_⟩, h1, (Tr.of0 ((Fr.refl [] w).drewN _)).trans h2⟩
    cases lg with
    | true => rfl
    | false => exact absurd ⟨rfl, by omega⟩ hn
end Go.Proofs.YtnebhkglpggnlaaGreatDoor
