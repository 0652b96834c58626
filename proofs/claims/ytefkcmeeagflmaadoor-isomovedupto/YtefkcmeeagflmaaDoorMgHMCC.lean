/-
  Texts of the proof, in their order: HeapV, HeapW, HeapX, HeapY, HeapZ, ActsA, ActsI; conditions: as each says.
-/
import Derived.Deep.RegionLaw
import Derived.Test.YtefkcmeeagflmaaDoorMgODPO
import Derived.Test.YtefkcmeeagflmaaDoorMgOIBF
namespace Go.Proofs.YtefkcmeeagflmaaDoor
open Go.RowKit

/-- Append from whatever slice onto a row that the call owns, as one step of a region that draws its order. -/
theorem step_append_src {P : Program} {ops : Array Oper} {o : Oper} {a : Act} {w : World} {K : Act → World → Prop} {Q : Exit → Act → World → Prop} {E : Prop} (hgd : o.guard = none) (s x : Operand) (t : TypeId)
    (ho : o.op = .call { callee := .builtin .append, args := #[s, x], argTypes := #[t, t] })
    (base : Nat) (e : TypeId) (i : TypeInfo) (z : Value) (size bytes : Nat) (ht : P.underlying t = some (.slice e)) (hi : P.info? e = some i) (hz : i.zero = some z)
    (hsize : i.size = size) (hby : i.bytes = bytes) (hzs : z.cells.size = size) (hsz : 0 < size)
    (v : Value) (n : Nat) (xs : List Value) (hs : a.eval s = v) (hown : w.ownsRow base e size v n xs)
    (ao : Option Addr) (m c : Nat) (news : List Value) (hx : a.eval x = .slice ao m c) (hl : news.length = m * size) (hnone : ao = none → m = 0 ∧ c = 0) (hnews : ∀ ad, ao = some ad → ∀ j u, news[j]? = some u → w.cell? (ad.add j) = some u) (h1 : ∀ u ∈ news, u.oneCell' = true)
    (h63 : n + m ≤ maxLen) (hbytes : (n + m) * bytes ≤ 140737488355328) (hbase : base ≤ w.heap.size)
    (h : ∀ v' w', w'.ownsRow base e size v' (n + m) (xs ++ news) → w.grownBy w' v.ownBlock → (∀ k, v'.ownBlock = some k → v.ownBlock = some k ∨ w.heap.size ≤ k) → K (a.put o.dst v') w') :
    if Region.wanted o (yielded ops a.tmps) = true then Oper.wp P o a w K Q else E := by
  have hw : Region.wanted o (yielded ops a.tmps) = true := by simp [Region.wanted, hgd]
  rw [if_pos hw]
  have key : ∃ v' w', (Builtin.append_ #[t, t] o.type #[v, .slice ao m c]).run P w = .ok v' w' ∧ w'.ownsRow base e size v' (n + m) (xs ++ news) ∧ w.grownBy w' v.ownBlock ∧ (∀ k, v'.ownBlock = some k → v.ownBlock = some k ∨ w.heap.size ≤ k) := by
    cases ao with
    | some ad => exact run_append_fp (P := P) w base t o.type e i z size bytes ht hi hz hsize hby hzs hsz v n xs hown ad m c news hl (hnews ad rfl) h1 h63 hbytes hbase
    | none =>
      obtain ⟨rfl, rfl⟩ := hnone rfl
      have hn0 : news = [] := List.eq_nil_of_length_eq_zero (by simpa using hl)
      subst hn0
      have hrun := run_append_owned_none (P := P) w base t o.type e i size ht hi v n xs hown
      exact ⟨v, w, hrun, by simpa using hown, World.grownBy.refl _ _, fun k hk => .inl hk⟩
  obtain ⟨v', w', hr, h2, h3, h4⟩ := key
  unfold Oper.wp execOp
  simp only [ho, resolve, invoke, builtin, Sem.run_bind, Sem.run_pure, Result.andThen_ok, List.map_toArray, List.map_cons, List.map_nil, hs, hx, hr]
  exact h v' w' h2 h3 h4

theorem under22 : Tryd.prog.underlying 22 = some (.slice 41) := by kernel_rfl
theorem info41 : (Tryd.prog.info? 41).map (fun i => (i.zero, i.size, i.bytes)) = some (some (.agg #[.int .i64 0, .slice none 0 0]), 2, 32) := by kernel_rfl

theorem rflat_append (U : List RT) (u : RT) : rflat (U ++ [u]) = rflat U ++ [.int .i64 u.sort, u.sl] := by
  induction U with
  | nil => rfl
  | cons v r ih => simp [rflat, ih]

theorem Fr.ofGrown {w w' : World} {row : Option Nat} (h : w.grownBy w' row) : Fr row.toList w w' := Fr.grown (Fr.refl _ _) h (fun k hk => .inl (by simp [hk]))

theorem own_slice {w : World} {B n : Nat} {e : TypeId} {size : Nat} {v : Value} {xs : List Value} (h : w.ownsRow B e size v n xs) : ∃ a c, v = .slice a n c ∧ (a = none → n = 0 ∧ c = 0) := by
  rcases h.2 with ⟨e1, e2⟩ | ⟨g, cap, cur, e1, _⟩
  · exact ⟨none, 0, by rw [e1, e2], fun _ => ⟨e2, rfl⟩⟩
  · exact ⟨_, cap, e1, fun h => by cases h⟩

theorem mem_flatMap_own {U : List RT} {u : RT} (hu : u ∈ U) {k : Nat} (hk : u.sl.ownBlock = some k) (r : Nat) (sv : Value) : k ∈ rfoot r sv U := by
  unfold rfoot
  simp only [List.mem_cons, List.mem_append, Option.mem_toList, List.mem_flatMap]
  exact .inr (.inr ⟨u, hu, hk⟩)

theorem res30 {w : World} {k : Nat} {p q : Value} (h : w.heap[k]? = some (.cells #[p, q] 45)) : w.cell? ⟨k, 0, none⟩ = some p ∧ w.cell? ⟨k, 1, none⟩ = some q ∧ ∀ i, w.frozen? ⟨k, i, none⟩ = false :=
  ⟨by simp [World.cell?, h], by simp [World.cell?, h], fun i => by simp [World.frozen?, h]⟩

/-- A thing more. -/
theorem rlay_end {w w1 w2 : World} {B b : Nat} {lim used : Int} {sv : Value} {rk rn : Int} {U : List RT} (R : RRep w B b lim used sv rk rn U) (R1 : RRep w1 B b lim used sv rk rn U) {o2 : Obj} {s : Int} {xs : List (Int × Int)} {sl v2 : Value} (hz1 : w.heap.size + 1 ≤ w1.heap.size)
    (hL1 : w1.heap[w.heap.size]? = some (.cells #[.int .i64 0, .int .i64 0] 45))
    (hk1 : ∀ k, sl.ownBlock = some k → w.heap.size + 1 ≤ k) (ho1 : w1.ownsRow B 45 2 sl xs.length (flat xs)) (hg2 : (w1.alloc o2).grownBy w2 sv.ownBlock)
    (ho2 : w2.ownsRow B 41 2 v2 (U.length + 1) (rflat U ++ [.int .i64 s, sl])) :
    RRep (w2.setCell ⟨b, 0, none⟩ v2) B b lim used v2 rk rn (U ++ [⟨sl, s, xs⟩]) ∧ (w2.setCell ⟨b, 0, none⟩ v2).heap[w.heap.size]? = some (.cells #[.int .i64 0, .int .i64 0] 45) := by
  have fa : Fr sv.ownBlock.toList w1 w2 := ((Fr.refl [] w1).alloc o2).sub (T := sv.ownBlock.toList) (by simp) |>.trans (Fr.ofGrown hg2)
  have H2 : RH w2 b lim used sv rk rn := R1.hb.fr fa (by intro hm; simp at hm; exact own_ne R1.row R1.hb (by decide) hm)
  have f3 : Fr [b] w2 (w2.setCell ⟨b, 0, none⟩ v2) := (Fr.refl _ _).setCell (.inl (by simp)) _
  have keep : ∀ {n : Nat} {q : Value} {ys : List Value}, w1.ownsRow B 45 2 q n ys → (w2.setCell ⟨b, 0, none⟩ v2).ownsRow B 45 2 q n ys := by
    intro n q ys hq
    have hq2 := own_fr hq fa (by intro k hk hm; simp at hm; exact own_ne2 hq R1.row (by decide) k hk hm)
    exact own_fr hq2 f3 (by intro k hk hm; simp at hm; subst hm; exact own_ne hq2 H2 (by decide) hk)
  refine ⟨⟨H2.setThings v2, ?_, ?_, ?_, R.base⟩, ?_⟩
  · rw [rflat_append, List.length_append]
    exact own_fr ho2 f3 (by intro k hk hm; simp at hm; subst hm; exact own_ne ho2 H2 (by decide) hk)
  · intro u hu
    rcases List.mem_append.1 hu with hu | hu
    · exact keep (R1.th u hu)
    · simp at hu
      subst hu
      exact keep ho1
  · rw [List.pairwise_append]
    refine ⟨R1.sep, by simp, ?_⟩
    intro u hu v hv k hk hk2
    simp at hv
    subst hv
    have a1 := hk1 k hk2
    have a2 := R.lt k (mem_flatMap_own hu hk b sv)
    omega
  · rw [f3.block _ (by have := fa.size; omega) (by have := R.hb.lt; simp; omega), fa.block _ (by omega) ?_]
    · exact hL1
    · intro hm
      simp at hm
      exact own_ne R1.row hL1 (by decide) hm

set_option maxRecDepth 100000 in
set_option maxHeartbeats 600000 in
theorem rlay_any {w : World} {B b : Nat} {lim used : Int} {sv : Value} {rk rn : Int} {U : List RT} (R : RRep w B b lim used sv rk rn U) (s : Int) (xs : List (Int × Int)) (a : Option Addr) (n c : Nat) (hxn : xs.length = n) (h : Lies w a xs) (h0 : a = none → n = 0 ∧ c = 0) (hn : n ≤ 10000000) (hT : U.length ≤ 1000000000000) :
    Calls Tryd.prog 42 #[.pointer (some ⟨b, 0, none⟩), .int .i64 s, .slice a n c] w fun e w' => e = .returned (.agg #[.int .i64 2, .int .i64 U.length]) ∧
      ∃ sv' u, RRep w' B b lim used sv' rk rn (U ++ [u]) ∧ u.sort = s ∧ u.cells = xs ∧ (∀ k, u.sl.ownBlock = some k → w.heap.size ≤ k) ∧ Fr (b :: sv.ownBlock.toList) w w' ∧ (∀ k, sv'.ownBlock = some k → sv.ownBlock = some k ∨ w.heap.size ≤ k) := by
  obtain ⟨i30, hi, hz, hs, hby⟩ := info_parts info45
  obtain ⟨i40, hi2, hz2, hs2, hby2⟩ := info_parts info41
  have hlt := R.hb.lt
  have hbB := R.base
  have hA : ∀ o, RRep (w.alloc o) B b lim used sv rk rn U := fun o => R.frame (S := []) ((Fr.refl _ _).alloc o) (by simp)
  have c0 := fun o => (hA o).hb.c0
  have hnews : ∀ o ad, a = some ad → ∀ j u, (flat xs)[j]? = some u → ((w.alloc o).drew).cell? (ad.add j) = some u := by
    intro o ad had j u hj
    have hp : 0 < xs.length := by
      have := (List.getElem?_eq_some_iff.1 hj).1
      rw [flat_length] at this
      omega
    obtain ⟨ad', e, hc⟩ := h hp
    rw [had] at e
    injection e with e
    subst e
    have hcj := hc j u hj
    have hltj := World.block_lt_of_cell? w _ hcj
    show (w.alloc o).cell? _ = _
    rw [World.cell?_of_block (w := w) (Below.heap_alloc w o _ hltj)]
    exact hcj
  go_enter Tryd.func42, Tryd.ntmps42
  go_wp2
  go_region_law (first
    | (refine step_append_src rfl (.const (.slice none 0 0)) (.tmp 13) 23 rfl B 45 i30 _ 2 16 under23 hi hz hs hby rfl (by decide) (.slice none 0 0) 0 [] rfl (World.ownsRow_nil _ _ _ _) a n c (flat xs) rfl (by rw [flat_length, hxn]) h0 (hnews _) (flat_one xs) (by unfold maxLen; omega) (by omega) (by show B ≤ (w.alloc _).heap.size; simp; omega) ?_; intro v1 w1 ho1 hg1 hk1; have f1 := (((Fr.refl [] w).alloc _).drew).trans (Fr.ofGrown hg1); have R1 := R.frame f1 (by simp); have hc1 := R1.hb.c0; have hb1 := R1.hb.lt; have hz1 := R1.hb.fz 0; simp only [Nat.zero_add, List.nil_append] at ho1; obtain ⟨a1, c1, rfl, hv1⟩ := own_slice ho1)
    | (refine step_append_src rfl (.tmp 11) (.tmp 16) 22 rfl B 41 i40 _ 2 32 under22 hi2 hz2 hs2 hby2 rfl (by decide) sv U.length (rflat U) rfl (R1.row.alloc _) (some ⟨w1.heap.size, 0, none⟩) 1 1 [.int .i64 s, .slice a1 n c1] rfl rfl (by simp) (fun ad had => by cases had; exact cell_two_new w1 _ _ _) (by simp [Value.oneCell']) (by unfold maxLen; omega) (by omega) (by have := f1.size; simp; omega) ?_; intro v2 w2 ho2 hg2 hk2; have f2 := (f1.alloc _).sub (T := b :: sv.ownBlock.toList) (by simp) |>.trans ((Fr.ofGrown hg2).sub (by intro k hk; exact .inl (List.mem_cons_of_mem _ hk))); have H2 := R1.hb.fr (((Fr.refl [] w1).alloc _).sub (T := sv.ownBlock.toList) (by simp) |>.trans (Fr.ofGrown hg2)) (by intro hm; simp at hm; exact own_ne R1.row R1.hb (by decide) hm); have hc2 := H2.c0; have hz2' := H2.fz 0; obtain ⟨a2, c2, rfl, hv2⟩ := own_slice ho2))
  all_goals
    subst hxn
    have hL1 : w1.heap[w.heap.size]? = some (.cells #[.int .i64 0, .int .i64 0] 45) := by
      rw [hg1.block _ (by show _ < (w.alloc _).heap.size; simp) (by simp [Value.ownBlock])]
      exact heap_alloc_new w _
    have hs1 : w.heap.size + 1 ≤ w1.heap.size := (Array.getElem?_eq_some_iff.1 hL1).1
    have hk1' : ∀ k, (Value.slice a1 xs.length c1).ownBlock = some k → w.heap.size + 1 ≤ k := by
      intro k hk
      rcases hk1 k hk with e | e
      · simp [Value.ownBlock] at e
      · have e : (w.alloc (Obj.cells #[Value.int IntKind.i64 0, Value.int IntKind.i64 0] 45)).heap.size ≤ k := e
        simpa using e
    obtain ⟨RE, hLE⟩ := rlay_end (s := s) R R1 hs1 hL1 hk1' ho1 hg2 ho2
    have fE : Fr (b :: sv.ownBlock.toList) w (w2.setCell ⟨b, 0, none⟩ (.slice a2 (U.length + 1) c2)) := Fr.setCell f2 (.inl (by simp)) _
    have hkE : ∀ k, (Value.slice a2 (U.length + 1) c2).ownBlock = some k → sv.ownBlock = some k ∨ w.heap.size ≤ k := by
      intro k hk
      rcases hk2 k hk with e | e
      · exact .inl e
      · right
        simp at e
        omega
    have cE := RE.hb.c0
    generalize w2.setCell ⟨b, 0, none⟩ (.slice a2 (U.length + 1) c2) = w3 at *
    clear hi hz hs hby hi2 hz2 hs2 hby2 hA c0 hnews hg1 f1 R1 hc1 hb1 hz1 hv1 hk1 ho1 hg2 f2 H2 hc2 hz2' ho2 hk2
    go_wp2_with (go_at_call 56; refine (Ref_any _ _).mono ?_; rintro e w4 ⟨rfl, f4⟩; have ⟨hl0, hl1, hlf⟩ := res30 ((f4.block _ (Array.getElem?_eq_some_iff.1 hLE).1 (by simp)).trans hLE))
    refine bodyPost_ret (v := .agg #[.int .i64 2, .int .i64 U.length]) (by simp [results, Tryd.results42, go_sem, hl0, hl1]) rfl ⟨rfl, .slice a2 (U.length + 1) c2, ⟨.slice a1 xs.length c1, s, xs⟩, ?_, rfl, rfl, fun k hk => by have := hk1' k hk; omega, ?_, hkE⟩
    · have R4 := RE.frame f4 (by simp)
      refine R4.fr (Fr.setCell (Fr.setCell (Fr.refl [w.heap.size] _) (.inl (by simp)) _) (.inl (by simp)) _) ?_
      intro k hk hm
      simp at hm
      subst hm
      unfold rfoot at hk
      simp only [List.mem_cons, List.mem_append, Option.mem_toList, List.mem_flatMap] at hk
      rcases hk with e | e | ⟨u, hu, e⟩
      · omega
      · rcases hkE _ e with e2 | e2
        · have := R.row.lt _ e2; omega
        · exact own_ne RE.row hLE (by decide) e
      · rcases hu with hu | hu
        · have := R.lt _ (mem_flatMap_own hu e b sv); omega
        · simp at hu
          subst hu
          have := hk1' _ e
          omega
    · exact Fr.setCell (Fr.setCell (fE.trans (f4.sub (by simp))) (.inr (by simp)) _) (.inr (by simp)) _
end Go.Proofs.YtefkcmeeagflmaaDoor
namespace Go.Proofs.YtefkcmeeagflmaaDoor
open Go.RowKit

theorem row_lies {w : World} {g : Nat} {xs : List (Int × Int)} (h : w.heap[g]? = some (.cells (flat xs).toArray 45 (0, 0))) : Lies w (some ⟨g, 0, none⟩) xs := by
  intro _
  refine ⟨_, rfl, fun j u hj => ?_⟩
  have hadd : (⟨g, 0, none⟩ : Addr).add j = ⟨g, j, none⟩ := by unfold Addr.add; split <;> simp_all
  rw [hadd]
  simp [World.cell?, h, hj]

/-- The reference's world as it is when a new thing is laid. -/
theorem rmk_world {w : World} {B b : Nat} {lim used : Int} {sv : Value} {rk rn : Int} {U : List RT} (h : RRep w B b lim used sv rk rn U) (m : Nat) (hm : w.heap.size = m) (o1 : Obj) (k : Nat) (u : Int) (xs : List (Int × Int)) :
    RRep ((((w.alloc o1).drewN k).setCell ⟨b, 2, none⟩ (.int .i64 u)).alloc (.cells (flat xs).toArray 45)) B b lim u sv rk rn U ∧
    Lies ((((w.alloc o1).drewN k).setCell ⟨b, 2, none⟩ (.int .i64 u)).alloc (.cells (flat xs).toArray 45)) (some ⟨m + 1, 0, none⟩) xs ∧
    Fr (b :: sv.ownBlock.toList) w ((((w.alloc o1).drewN k).setCell ⟨b, 2, none⟩ (.int .i64 u)).alloc (.cells (flat xs).toArray 45)) ∧
    ((((w.alloc o1).drewN k).setCell ⟨b, 2, none⟩ (.int .i64 u)).alloc (.cells (flat xs).toArray 45)).heap[m]? = some o1 ∧
    ((((w.alloc o1).drewN k).setCell ⟨b, 2, none⟩ (.int .i64 u)).alloc (.cells (flat xs).toArray 45)).heap.size = m + 1 + 1 := by
  subst hm
  have hlt := h.hb.lt
  have a1 : RRep ((w.alloc o1).drewN k) B b lim used sv rk rn U := h.frame (S := []) (Fr.drewN ((Fr.refl _ _).alloc _) _) (by simp)
  have a2 := a1.setUsed u
  have s2 : (((w.alloc o1).drewN k).setCell ⟨b, 2, none⟩ (.int .i64 u)).heap.size = w.heap.size + 1 := by simp [World.setCell, World.drewN]
  have f2 : Fr (b :: sv.ownBlock.toList) w (((w.alloc o1).drewN k).setCell ⟨b, 2, none⟩ (.int .i64 u)) := Fr.setCell (Fr.drewN ((Fr.refl _ _).alloc _) _) (.inl (by simp)) _
  have n2 : (((w.alloc o1).drewN k).setCell ⟨b, 2, none⟩ (.int .i64 u)).heap[w.heap.size]? = some o1 := by
    rw [Below.heap_setCell _ _ _ _ (by simp; omega)]
    exact heap_alloc_new w o1
  generalize ((w.alloc o1).drewN k).setCell ⟨b, 2, none⟩ (.int .i64 u) = W2 at *
  refine ⟨a2.frame (S := []) ((Fr.refl _ _).alloc _) (by simp), ?_, f2.alloc _, ?_, by simp [s2]⟩
  · apply row_lies
    rw [← s2]
    exact heap_alloc_new W2 _
  · rw [Below.heap_alloc _ _ _ (by omega)]
    exact n2

end Go.Proofs.YtefkcmeeagflmaaDoor
namespace Go.Proofs.YtefkcmeeagflmaaDoor
open Go.RowKit

set_option maxHeartbeats 400000 in
theorem rLay_low {w : World} {B b : Nat} {lim used : Int} {sv : Value} {rk rn : Int} {U : List RT} (h : RRep w B b lim used sv rk rn U) (s : Int) (hs : s < -1) (xs : List (Int × Int)) (a : Option Addr) (n c : Nat) (hxn : xs.length = n) (hx : Lies w a xs) (h0 : a = none → n = 0 ∧ c = 0) (hn : n ≤ 10000000) (hT : U.length ≤ 1000000000000) :
    Calls Tryd.prog 23 #[.pointer (some ⟨b, 0, none⟩), .int .i64 s, .slice a n c] w fun e w' => e = .returned (.agg #[.int .i64 2, .int .i64 U.length]) ∧
      ∃ sv' u, RRep w' B b lim used sv' rk rn (U ++ [u]) ∧ u.sort = (-1) ∧ u.cells = xs ∧ (∀ k, u.sl.ownBlock = some k → w.heap.size ≤ k) ∧ Fr (b :: sv.ownBlock.toList) w w' ∧ (∀ k, sv'.ownBlock = some k → sv.ownBlock = some k ∨ w.heap.size ≤ k) := by
  have hlt := h.hb.lt
  have hA : ∀ o, RRep (w.alloc o) B b lim used sv rk rn U := fun o => h.frame (S := []) ((Fr.refl _ _).alloc o) (by simp)
  have hL1 : ∀ o, Lies (w.alloc o) a xs := fun o => hx.fr (S := []) ((Fr.refl _ _).alloc o) (by simp)
  go_enter Tryd.func23, Tryd.ntmps23
  go_wp2_with fail
  refine (rlay_any (hA _) (-1) xs a n c hxn (hL1 _) h0 hn hT).mono ?_
  rintro e w' ⟨rfl, sv', u, p1, p2, p3, p4, p5, p6⟩
  have hL : w'.heap[w.heap.size]? = some (.cells #[.int .i64 0, .int .i64 0] 45) := by
    rw [p5.block _ (by simp) ?_]
    · exact heap_alloc_new w _
    · simp only [List.mem_cons, Option.mem_toList, not_or]
      exact ⟨by omega, fun e => by have := h.row.lt _ e; omega⟩
  have hFr : Fr (b :: sv.ownBlock.toList) w w' := ((Fr.refl _ _).alloc _).trans p5
  obtain ⟨hl0, hl1, hlf⟩ := res30 hL
  rw [show (w.alloc (Obj.cells #[Value.int IntKind.i64 0, Value.int IntKind.i64 0] 45)).heap.size = w.heap.size + 1 from by simp] at p4 p6
  clear hA hL1
  go_wp2
  refine bodyPost_ret (v := .agg #[.int .i64 2, .int .i64 U.length]) (by simp [results, Tryd.results23, go_sem, hl0, hl1]) rfl ⟨rfl, sv', u, ?_, p2, p3, fun k hk => by have := p4 k hk; omega, ?_, ?_⟩
  · refine p1.fr (Fr.setCell (Fr.setCell (Fr.refl [w.heap.size] _) (.inl (by simp)) _) (.inl (by simp)) _) ?_
    intro k hk hm
    simp at hm
    subst hm
    unfold rfoot at hk
    simp only [List.mem_cons, List.mem_append, Option.mem_toList, List.mem_flatMap] at hk
    rcases hk with e | e | ⟨v, hv, e⟩
    · omega
    · exact own_ne p1.row hL (by decide) e
    · rcases hv with hv | hv
      · have := h.lt _ (mem_flatMap_own hv e b sv); omega
      · simp at hv
        subst hv
        have := p4 _ e
        omega
  · exact Fr.setCell (Fr.setCell hFr (.inr (by simp)) _) (.inr (by simp)) _
  · intro j hj
    rcases p6 j hj with e | e
    · exact .inl e
    · exact .inr (by omega)

set_option maxHeartbeats 400000 in
theorem rLay_plain {w : World} {B b : Nat} {lim used : Int} {sv : Value} {rk rn : Int} {U : List RT} (h : RRep w B b lim used sv rk rn U) (s : Int) (hs : -1 ≤ s) (xs : List (Int × Int)) (a : Option Addr) (n c : Nat) (hxn : xs.length = n) (hx : Lies w a xs) (h0 : a = none → n = 0 ∧ c = 0) (hn : n ≤ 10000000) (hT : U.length ≤ 1000000000000) :
    Calls Tryd.prog 23 #[.pointer (some ⟨b, 0, none⟩), .int .i64 s, .slice a n c] w fun e w' => e = .returned (.agg #[.int .i64 2, .int .i64 U.length]) ∧
      ∃ sv' u, RRep w' B b lim used sv' rk rn (U ++ [u]) ∧ u.sort = s ∧ u.cells = xs ∧ (∀ k, u.sl.ownBlock = some k → w.heap.size ≤ k) ∧ Fr (b :: sv.ownBlock.toList) w w' ∧ (∀ k, sv'.ownBlock = some k → sv.ownBlock = some k ∨ w.heap.size ≤ k) := by
  have hlt := h.hb.lt
  have hA : ∀ o, RRep (w.alloc o) B b lim used sv rk rn U := fun o => h.frame (S := []) ((Fr.refl _ _).alloc o) (by simp)
  have hL1 : ∀ o, Lies (w.alloc o) a xs := fun o => hx.fr (S := []) ((Fr.refl _ _).alloc o) (by simp)
  go_enter Tryd.func23, Tryd.ntmps23
  go_wp2_with fail
  refine (rlay_any (hA _) s xs a n c hxn (hL1 _) h0 hn hT).mono ?_
  rintro e w' ⟨rfl, sv', u, p1, p2, p3, p4, p5, p6⟩
  have hL : w'.heap[w.heap.size]? = some (.cells #[.int .i64 0, .int .i64 0] 45) := by
    rw [p5.block _ (by simp) ?_]
    · exact heap_alloc_new w _
    · simp only [List.mem_cons, Option.mem_toList, not_or]
      exact ⟨by omega, fun e => by have := h.row.lt _ e; omega⟩
  have hFr : Fr (b :: sv.ownBlock.toList) w w' := ((Fr.refl _ _).alloc _).trans p5
  obtain ⟨hl0, hl1, hlf⟩ := res30 hL
  rw [show (w.alloc (Obj.cells #[Value.int IntKind.i64 0, Value.int IntKind.i64 0] 45)).heap.size = w.heap.size + 1 from by simp] at p4 p6
  clear hA hL1
  go_wp2
  refine bodyPost_ret (v := .agg #[.int .i64 2, .int .i64 U.length]) (by simp [results, Tryd.results23, go_sem, hl0, hl1]) rfl ⟨rfl, sv', u, ?_, p2, p3, fun k hk => by have := p4 k hk; omega, ?_, ?_⟩
  · refine p1.fr (Fr.setCell (Fr.setCell (Fr.refl [w.heap.size] _) (.inl (by simp)) _) (.inl (by simp)) _) ?_
    intro k hk hm
    simp at hm
    subst hm
    unfold rfoot at hk
    simp only [List.mem_cons, List.mem_append, Option.mem_toList, List.mem_flatMap] at hk
    rcases hk with e | e | ⟨v, hv, e⟩
    · omega
    · exact own_ne p1.row hL (by decide) e
    · rcases hv with hv | hv
      · have := h.lt _ (mem_flatMap_own hv e b sv); omega
      · simp at hv
        subst hv
        have := p4 _ e
        omega
  · exact Fr.setCell (Fr.setCell hFr (.inr (by simp)) _) (.inr (by simp)) _
  · intro j hj
    rcases p6 j hj with e | e
    · exact .inl e
    · exact .inr (by omega)

end Go.Proofs.YtefkcmeeagflmaaDoor
namespace Go.Proofs.YtefkcmeeagflmaaDoor
open Go.RowKit

theorem rflat_at : ∀ (U : List RT) (i : Nat) (u : RT), U[i]? = some u → (rflat U)[i * 2]? = some (.int .i64 u.sort) ∧ (rflat U)[i * 2 + 1]? = some u.sl
  | [], _, _, h => by simp at h
  | y :: r, 0, x, h => by simp at h; subst h; exact ⟨rfl, rfl⟩
  | y :: r, a + 1, x, h => by
    have ih := rflat_at r a x (by simpa using h)
    rw [show (a + 1) * 2 = a * 2 + 1 + 1 from by omega]
    simpa [rflat] using ih

theorem own_cells {w : World} {B n : Nat} {e : TypeId} {size : Nat} {v : Value} {xs : List Value} (h : w.ownsRow B e size v n xs) {j : Nat} {x : Value} (hx : xs[j]? = some x) : ∃ g c, v = .slice (some ⟨g, 0, none⟩) n c ∧ w.cell? ⟨g, j, none⟩ = some x ∧ (∀ i, w.frozen? ⟨g, i, none⟩ = false) ∧ g < w.heap.size := by
  rcases h.2 with ⟨_, e2⟩ | ⟨g, cap, cur, e1, _, hgg, _⟩
  · have := h.1
    rw [e2] at this
    have : xs = [] := List.eq_nil_of_length_eq_zero (by simpa using this)
    rw [this] at hx
    simp at hx
  · refine ⟨g, cap, e1, ?_, fun i => by simp [World.frozen?, hgg], (Array.getElem?_eq_some_iff.1 hgg).1⟩
    have hc := h.cells (g := g) (by rw [e1]; rfl) j x hx
    have hadd : (⟨g, 0, none⟩ : Addr).add j = ⟨g, j, none⟩ := by unfold Addr.add; split <;> simp_all
    rw [hadd] at hc
    exact hc

theorem RRep.cell {w : World} {B b : Nat} {lim used : Int} {sv : Value} {rk rn : Int} {U : List RT} (R : RRep w B b lim used sv rk rn U) {i : Nat} {u : RT} (hu : U[i]? = some u) :
    ∃ g c, sv = .slice (some ⟨g, 0, none⟩) U.length c ∧ w.cell? ⟨g, i * 2, none⟩ = some (.int .i64 u.sort) ∧ w.cell? ⟨g, i * 2 + 1, none⟩ = some u.sl ∧ g < w.heap.size := by
  have h1 := rflat_at U i u hu
  obtain ⟨g, c, e, hc, _, hlt⟩ := own_cells R.row h1.1
  obtain ⟨g', c', e', hc', _, _⟩ := own_cells R.row h1.2
  rw [e] at e'
  simp at e'
  obtain ⟨rfl, rfl⟩ := e'
  exact ⟨g, c, e, hc, hc', hlt⟩

/-- What a walk reads of thing i in a later world. -/
theorem RRep.reads {w : World} {B b : Nat} {lim used : Int} {sv : Value} {rk rn : Int} {U : List RT} (R : RRep w B b lim used sv rk rn U) {i : Nat} {u : RT} (hu : U[i]? = some u) :
    ∃ g c a1 c1, sv = .slice (some ⟨g, 0, none⟩) U.length c ∧ u.sl = .slice a1 u.cells.length c1 ∧ ∀ w', Fr [] w w' → w'.cell? ⟨b, 0, none⟩ = some (.slice (some ⟨g, 0, none⟩) U.length c) ∧ w'.cell? ⟨g, i * 2, none⟩ = some (.int .i64 u.sort) ∧ w'.cell? ⟨g, i * 2 + 1, none⟩ = some (.slice a1 u.cells.length c1) := by
  obtain ⟨g, c, e, _⟩ := R.cell hu
  obtain ⟨a1, c1, e1, _⟩ := own_slice (R.th u (List.mem_of_getElem? hu))
  refine ⟨g, c, a1, c1, e, e1, fun w' f => ?_⟩
  have R' := R.frame f (by simp)
  obtain ⟨g', c', e', h1, h2, _⟩ := R'.cell hu
  rw [e] at e'
  simp at e'
  obtain ⟨rfl, rfl⟩ := e'
  refine ⟨by rw [← e]; exact R'.hb.c0, h1, by rw [← e1]; exact h2⟩

end Go.Proofs.YtefkcmeeagflmaaDoor
namespace Go.Proofs.YtefkcmeeagflmaaDoor
open Go.RowKit

theorem badN_or (U : List RT) (k n : Int) : badN U.length k n ∨ ∃ (i : Nat) (u : RT), k = 2 ∧ n = i ∧ U[i]? = some u := by
  by_cases h : k = 2 ∧ 0 ≤ n ∧ n < U.length
  · right
    have hi : n.toNat < U.length := by omega
    exact ⟨n.toNat, U[n.toNat], h.1, by omega, List.getElem?_eq_getElem hi⟩
  · exact .inl h

theorem rfieldTrap_bad {U : List RT} {k n : Int} (h : badN U.length k n) (h1 : k ≠ 1) (r a : Int) : fieldTrap (U.map RT.abs) k n r a = 6 := by
  unfold fieldTrap
  rw [if_neg h1]
  split
  · have : (U.map RT.abs)[n.toNat]? = none := by
      rw [List.getElem?_eq_none_iff, List.length_map]
      unfold badN at h
      omega
    rw [this]
  · rfl

theorem rfieldTrap_at {U : List RT} {i : Nat} {u : RT} (hu : U[i]? = some u) (r a : Int) : fieldTrap (U.map RT.abs) 2 (i : Int) r a = if 0 ≤ r ∧ u.sort = r ∧ 0 ≤ a ∧ a < u.cells.length then 0 else 6 := by
  unfold fieldTrap
  rw [if_neg (by omega), if_pos (by omega), Int.toNat_natCast, List.getElem?_map, hu]
  rfl

theorem own_pair {w : World} {B : Nat} {v : Value} {cs : List (Int × Int)} (h : w.ownsRow B 45 2 v cs.length (flat cs)) {j : Nat} {x : Int × Int} (hx : cs[j]? = some x) : ∃ g c, v = .slice (some ⟨g, 0, none⟩) cs.length c ∧ w.cell? ⟨g, j * 2, none⟩ = some (.int .i64 x.1) ∧ w.cell? ⟨g, j * 2 + 1, none⟩ = some (.int .i64 x.2) ∧ (∀ i, w.frozen? ⟨g, i, none⟩ = false) ∧ g < w.heap.size := by
  have h1 := flat_at cs j x hx
  obtain ⟨g, c, e, hc, hf, hlt⟩ := own_cells h h1.1
  obtain ⟨g', c', e', hc', _, _⟩ := own_cells h h1.2
  rw [e] at e'
  simp at e'
  obtain ⟨rfl, rfl⟩ := e'
  exact ⟨g, c, e, hc, hc', hf, hlt⟩

/-- Thing u with x in its cell a. -/
def RT.put (u : RT) (a : Nat) (x : Int × Int) : RT := { u with cells := u.cells.set a x }

theorem rflat_same {U : List RT} {i : Nat} {u v : RT} (hu : U[i]? = some u) (h1 : v.sort = u.sort) (h2 : v.sl = u.sl) : rflat (U.set i v) = rflat U := by
  induction U generalizing i with
  | nil => rfl
  | cons y r ih =>
    cases i with
    | zero => simp at hu; subst hu; simp [rflat, h1, h2]
    | succ i => simp at hu; simp [rflat, ih hu]

theorem own_put {w : World} {B g c : Nat} {cs : List (Int × Int)} (h : w.ownsRow B 45 2 (.slice (some ⟨g, 0, none⟩) cs.length c) cs.length (flat cs)) (a : Nat) (x : Int × Int) :
    ((w.setCell ⟨g, a * 2, none⟩ (.int .i64 x.1)).setCell ⟨g, a * 2 + 1, none⟩ (.int .i64 x.2)).ownsRow B 45 2 (.slice (some ⟨g, 0, none⟩) cs.length c) (cs.set a x).length (flat (cs.set a x)) := by
  rcases h.2 with ⟨e, _⟩ | ⟨g', cap, cur, e, r1, hgg, r2, r3, r4, r5⟩
  · simp at e
  · simp at e
    obtain ⟨rfl, rfl⟩ := e
    refine ⟨by rw [flat_length], .inr ⟨g, c, (cur.setIfInBounds (a * 2) (.int .i64 x.1)).setIfInBounds (a * 2 + 1) (.int .i64 x.2), by rw [List.length_set], r1, ?_, by rw [List.length_set]; exact r2, r3, by simpa using r4, ?_⟩⟩
    · simp [World.setCell, Array.getElem?_modify, hgg]
    · rw [List.length_set, flat_set, ← r5]
      simp only [Array.toList_setIfInBounds, List.take_set]

theorem RRep.put {w : World} {B b : Nat} {lim used : Int} {sv : Value} {rk rn : Int} {U : List RT} (R : RRep w B b lim used sv rk rn U) {i : Nat} {u : RT} (hu : U[i]? = some u) {g c : Nat} (hsl : u.sl = .slice (some ⟨g, 0, none⟩) u.cells.length c) (a : Nat) (x : Int × Int) :
    RRep ((w.setCell ⟨g, a * 2, none⟩ (.int .i64 x.1)).setCell ⟨g, a * 2 + 1, none⟩ (.int .i64 x.2)) B b lim used sv rk rn (U.set i (u.put a x)) := by
  have hm := List.mem_of_getElem? hu
  have hi : i < U.length := (List.getElem?_eq_some_iff.1 hu).1
  have hui : U[i] = u := (List.getElem?_eq_some_iff.1 hu).2
  have hT := R.th u hm
  have f : Fr [g] w ((w.setCell ⟨g, a * 2, none⟩ (.int .i64 x.1)).setCell ⟨g, a * 2 + 1, none⟩ (.int .i64 x.2)) := Fr.setCell (Fr.setCell (Fr.refl _ _) (.inl (by simp)) _) (.inl (by simp)) _
  have hblk : ∃ cur, w.heap[g]? = some (.cells cur 45 (0, 0)) := by
    rcases hT.2 with ⟨e, _⟩ | ⟨g', cap, cur, e, _, hgg, _⟩
    · rw [hsl] at e; simp at e
    · rw [hsl] at e
      simp at e
      obtain ⟨rfl, _⟩ := e
      exact ⟨cur, hgg⟩
  obtain ⟨cur, hgg⟩ := hblk
  have hsep : ∀ j v, U[j]? = some v → j ≠ i → v.sl.ownBlock ≠ some g := by
    intro j v hv hne hk
    have hj : j < U.length := (List.getElem?_eq_some_iff.1 hv).1
    have hvj : U[j] = v := (List.getElem?_eq_some_iff.1 hv).2
    have hs := List.pairwise_iff_getElem.1 R.sep
    have hug : u.sl.ownBlock = some g := by rw [hsl]; rfl
    have hij : i < j ∨ j < i := by omega
    rcases hij with hij | hij
    · exact hs i j hi hj hij g (by rw [hui]; exact hug) (by rw [hvj]; exact hk)
    · exact hs j i hj hi hij g (by rw [hvj]; exact hk) (by rw [hui]; exact hug)
  refine ⟨R.hb.fr f (by simpa using (R.hb.ne_of hgg (by decide)).symm), ?_, ?_, ?_, R.base⟩
  · rw [rflat_same (v := u.put a x) hu rfl rfl, List.length_set]
    exact own_fr R.row f (by intro k hk hm; simp at hm; subst hm; exact own_ne R.row hgg (by decide) hk)
  · intro v hv
    obtain ⟨j, hj, hjv⟩ := List.getElem_of_mem hv
    rw [List.length_set] at hj
    rw [List.getElem_set] at hjv
    split at hjv
    · subst hjv
      have := own_put (w := w) (B := B) (g := g) (c := c) (by rw [← hsl]; exact hT) a x
      rw [← hsl] at this
      exact this
    · rename_i hne
      have hvm : U[j]? = some v := by rw [List.getElem?_eq_getElem hj, hjv]
      exact own_fr (R.th v (List.mem_of_getElem? hvm)) f (by intro k hk hm; simp at hm; subst hm; exact hsep j v hvm (fun e => hne e.symm) hk)
  · rw [List.pairwise_iff_getElem]
    intro p q hp hq hpq k hk
    rw [List.length_set] at hp hq
    have own_eq : ∀ p (hp : p < (U.set i (u.put a x)).length), (U.set i (u.put a x))[p].sl = (U[p]'(by rw [List.length_set] at hp; exact hp)).sl := by
      intro p hp
      rw [List.getElem_set]
      split
      · rename_i e
        subst e
        rw [hui]
        rfl
      · rfl
    rw [own_eq] at hk ⊢
    exact List.pairwise_iff_getElem.1 R.sep p q hp hq hpq k hk

end Go.Proofs.YtefkcmeeagflmaaDoor
namespace Go.Proofs.YtefkcmeeagflmaaDoor
open Go.RowKit

/-- Sorts are -1 or more. -/
def Sorts (U : List RT) : Prop := ∀ u, u ∈ U → -1 ≤ u.sort

/-- Both heaps, with the same things, limit, taken cells and root. -/
structure JI (w : World) (B b r : Nat) (lim used rk rn : Int) (sv sr : Value) (T : List Thing) (U : List RT) : Prop where
  R : Rep w B b lim used sv rk rn T
  Q : RRep w B r lim used sr rk rn U
  same : T.map Thing.abs = U.map RT.abs
  apart : ∀ t, t ∈ T → ∀ u, u ∈ U → u.sl.ownBlock ≠ some t.rb
  sorts : Sorts U
  hl : 0 ≤ lim
  hu : 0 ≤ used
  hul : used ≤ lim
  hlm : lim ≤ 10000000

theorem JI.len {w : World} {B b r : Nat} {lim used rk rn : Int} {sv sr : Value} {T : List Thing} {U : List RT} (h : JI w B b r lim used rk rn sv sr T U) : T.length = U.length := by
  have := congrArg List.length h.same
  simpa using this

theorem JI.frame {S : List Nat} {w w' : World} {B b r : Nat} {lim used rk rn : Int} {sv sr : Value} {T : List Thing} {U : List RT} (h : JI w B b r lim used rk rn sv sr T U) (f : Fr S w w') (hS : ∀ k, k ∈ S → w.heap.size ≤ k) : JI w' B b r lim used rk rn sv sr T U :=
  ⟨h.R.frame f hS, h.Q.frame f hS, h.same, h.apart, h.sorts, h.hl, h.hu, h.hul, h.hlm⟩

/-- What the code's heap writes to is nothing of the reference's: its own block and its list of things. -/
theorem past_code {w : World} {B b r : Nat} {lim used lim' used' rk rn rk' rn' : Int} {sv sr : Value} {T : List Thing} {U : List RT} (R : Rep w B b lim used sv rk rn T) (Q : RRep w B r lim' used' sr rk' rn' U) : ∀ k, k ∈ rfoot r sr U → k ∉ b :: sv.ownBlock.toList := by
  intro k hk hm
  unfold rfoot at hk
  simp only [List.mem_cons, List.mem_append, Option.mem_toList, List.mem_flatMap] at hk hm
  rcases hm with rfl | hm
  · rcases hk with rfl | hk | ⟨u, hu, hk⟩
    · have e := Q.hb
      unfold RH at e
      have e2 := R.hb
      unfold HB at e2
      rw [e] at e2
      simp at e2
    · exact own_ne Q.row R.hb (by decide) hk
    · exact own_ne (Q.th u hu) R.hb (by decide) hk
  · rcases hk with rfl | hk | ⟨u, hu, hk⟩
    · exact own_ne R.row Q.hb (by decide) hm
    · exact own_ne2 R.row Q.row (by decide) k hm hk
    · exact own_ne2 R.row (Q.th u hu) (by decide) k hm hk

/-- Writes that are none of a heap's blocks leave it as it is. -/
theorem Rep.keeps {S : List Nat} {w w' : World} {B b : Nat} {lim used : Int} {sv : Value} {rk rn : Int} {T : List Thing} (R : Rep w B b lim used sv rk rn T) (f : Fr S w w') (h1 : b ∉ S) (h2 : ∀ k, sv.ownBlock = some k → k ∉ S) (h3 : ∀ t, t ∈ T → t.tb ∉ S ∧ t.rb ∉ S) : Rep w' B b lim used sv rk rn T :=
  ⟨R.hb.fr f h1, own_fr R.row f h2, fun t ht => (R.th t ht).fr f (h3 t ht).1 (h3 t ht).2, R.sep, R.base, R.rows⟩

/-- The reference's block and list of things are nothing of the code's. -/
theorem past_ref {S : List Nat} {w w' : World} {B b r : Nat} {lim used lim' used' rk rn rk' rn' : Int} {sv sr : Value} {T : List Thing} {U : List RT} (R : Rep w B b lim used sv rk rn T) (Q : RRep w B r lim' used' sr rk' rn' U) (f : Fr S w w') (hS : ∀ k, k ∈ S → k ∈ r :: sr.ownBlock.toList ∨ w.heap.size ≤ k) : Rep w' B b lim used sv rk rn T := by
  have key : ∀ {k : Nat} {c : Array Value} {e : TypeId} {z : Nat × Nat}, w.heap[k]? = some (.cells c e z) → e ≠ 70 → e ≠ 41 → k ∉ S := by
    intro k c e z hk h1 h2 hm
    have hlt := (Array.getElem?_eq_some_iff.1 hk).1
    rcases hS k hm with hm | hm
    · simp only [List.mem_cons, Option.mem_toList] at hm
      rcases hm with rfl | hm
      · exact Q.hb.ne_of hk h1 rfl
      · exact own_ne Q.row hk h2 hm
    · omega
  refine R.keeps f (key R.hb (by decide) (by decide)) ?_ ?_
  · intro k hk
    rcases R.row.2 with ⟨e, _⟩ | ⟨g, cap, cur, e, _, hgg, _⟩
    · rw [e] at hk; simp [Value.ownBlock] at hk
    · rw [e] at hk
      simp [Value.ownBlock] at hk
      subst hk
      exact key hgg (by decide) (by decide)
  · intro t ht
    refine ⟨?_, key (R.th t ht).row (by decide) (by decide)⟩
    have h1 := (R.th t ht).own
    unfold Thing.body at h1
    split at h1
    · exact key h1 (by decide) (by decide)
    · exact key h1 (by decide) (by decide)

/-- Both sides have laid a thing alike. -/
theorem JI.push {w w1 w2 : World} {B b r : Nat} {lim used used' rk rn : Int} {sv sr sv' sr' : Value} {T : List Thing} {U : List RT} {t : Thing} {u : RT} (h : JI w B b r lim used rk rn sv sr T U) (hu' : 0 ≤ used') (hul' : used' ≤ lim)
    (R1 : Rep w1 B b lim used' sv' rk rn (T ++ [t])) (f1 : Fr (b :: sv.ownBlock.toList) w w1) (ht : w.heap.size ≤ t.rb)
    (Q2 : RRep w2 B r lim used' sr' rk rn (U ++ [u])) (f2 : Fr (r :: sr.ownBlock.toList) w1 w2) (hu : ∀ k, u.sl.ownBlock = some k → w1.heap.size ≤ k) (e1 : t.abs = u.abs) (hs : -1 ≤ u.sort) : JI w2 B b r lim used' rk rn sv' sr' (T ++ [t]) (U ++ [u]) := by
  have Q1 : RRep w1 B r lim used sr rk rn U := h.Q.fr f1 (past_code h.R h.Q)
  refine ⟨past_ref R1 Q1 f2 (fun k hk => .inl hk), Q2, ?_, ?_, ?_, h.hl, hu', hul', h.hlm⟩
  · rw [List.map_append, List.map_append, h.same]
    simp [e1]
  · intro t' ht' u' hu'
    rcases List.mem_append.1 ht' with ht' | ht' <;> rcases List.mem_append.1 hu' with hu' | hu'
    · exact h.apart t' ht' u' hu'
    · simp at hu'
      subst hu'
      intro e
      have a1 := hu _ e
      have a2 := h.R.lt t'.rb (by unfold foot; simp only [List.mem_cons, List.mem_append, List.mem_map]; exact .inr (.inr ⟨t', ht', rfl⟩))
      have a3 := f1.size
      omega
    · simp at ht'
      subst ht'
      intro e
      have a1 := h.Q.lt _ (mem_flatMap_own hu' e r sr)
      omega
    · simp at ht' hu'
      subst ht' hu'
      intro e
      have a1 := hu _ e
      have a2 := R1.lt t'.rb (by unfold foot; simp)
      omega
  · intro v hv
    rcases List.mem_append.1 hv with hv | hv
    · exact h.sorts v hv
    · simp at hv
      subst hv
      exact hs
end Go.Proofs.YtefkcmeeagflmaaDoor
namespace Go.Proofs.YtefkcmeeagflmaaDoor
open Go.RowKit

/-- The sort under which a thing is laid. -/
def laySort (r : Int) : Int := if r < 0 then -1 else r

/-- A list of values that came in, below B. -/
structure Src (B : Nat) (w : World) (a : Option Addr) (n c : Nat) (xs : List (Int × Int)) : Prop where
  len : xs.length = n
  none : a = none → n = 0 ∧ c = 0
  low : ∀ ad, a = some ad → 0 < n → ad.block < B
  lies : Lies w a xs

theorem Src.fr {B : Nat} {S : List Nat} {w w' : World} {a : Option Addr} {n c : Nat} {xs : List (Int × Int)} (h : Src B w a n c xs) (f : Fr S w w') (hS : ∀ k, k ∈ S → B ≤ k) : Src B w' a n c xs := by
  refine ⟨h.len, h.none, h.low, fun hp => ?_⟩
  refine h.lies.fr (S := S) f (fun ad e hm => ?_) hp
  have h1 := h.low ad e (by have := h.len; omega)
  have h2 := hS _ hm
  omega

theorem Lay_any {w : World} {B b : Nat} {lim used : Int} {sv : Value} {rk rn : Int} {T : List Thing} (R : Rep w B b lim used sv rk rn T) (r : Int) {xs : List (Int × Int)} {a : Option Addr} {n c : Nat} (h : Src B w a n c xs) (hn : n ≤ 10000000) (hT : T.length ≤ 1000000000000) :
    Calls Tryd.prog 21 #[.pointer (some ⟨b, 0, none⟩), .int .i64 r, .slice a n c] w fun e w' => e = .returned (.agg #[.int .i64 2, .int .i64 T.length]) ∧
      ∃ sv' t, Rep w' B b lim used sv' rk rn (T ++ [t]) ∧ t.sort = laySort r ∧ t.cells = xs ∧ w.heap.size ≤ t.rb ∧ Fr (b :: sv.ownBlock.toList) w w' ∧ (∀ k, sv'.ownBlock = some k → sv.ownBlock = some k ∨ w.heap.size ≤ k) := by
  obtain rfl := h.len
  unfold laySort
  split
  · exact Lay_arr R r (by assumption) xs a c h.lies (fun _ e => (h.none e).2) hn hT
  · exact Lay_rec R r (by omega) xs a c h.lies (fun _ e => (h.none e).2) hn hT

theorem rLay_any {w : World} {B b : Nat} {lim used : Int} {sv : Value} {rk rn : Int} {U : List RT} (R : RRep w B b lim used sv rk rn U) (r : Int) {xs : List (Int × Int)} {a : Option Addr} {n c : Nat} (h : Src B w a n c xs) (hn : n ≤ 10000000) (m : Nat) (hm : m = U.length) (hT : m ≤ 1000000000000) :
    Calls Tryd.prog 23 #[.pointer (some ⟨b, 0, none⟩), .int .i64 r, .slice a n c] w fun e w' => e = .returned (.agg #[.int .i64 2, .int .i64 m]) ∧
      ∃ sv' u, RRep w' B b lim used sv' rk rn (U ++ [u]) ∧ u.sort = laySort r ∧ u.cells = xs ∧ (∀ k, u.sl.ownBlock = some k → w.heap.size ≤ k) ∧ Fr (b :: sv.ownBlock.toList) w w' ∧ (∀ k, sv'.ownBlock = some k → sv.ownBlock = some k ∨ w.heap.size ≤ k) := by
  subst hm
  unfold laySort
  by_cases h1 : r < -1
  · rw [if_pos (by omega)]
    exact rLay_low R r h1 xs a n c h.len h.lies h.none hn hT
  · by_cases h2 : r < 0
    · obtain rfl : r = -1 := by omega
      rw [if_pos (by omega)]
      exact rLay_plain R (-1) (by omega) xs a n c h.len h.lies h.none hn hT
    · rw [if_neg h2]
      exact rLay_plain R r (by omega) xs a n c h.len h.lies h.none hn hT

theorem Rep.low_foot {w : World} {B b : Nat} {lim used : Int} {sv : Value} {rk rn : Int} {T : List Thing} (R : Rep w B b lim used sv rk rn T) : ∀ k, k ∈ b :: sv.ownBlock.toList → B ≤ k := by
  intro k hk
  simp only [List.mem_cons, Option.mem_toList] at hk
  rcases hk with rfl | hk
  · exact R.base
  · exact (R.row.lt k hk).1
theorem RRep.low_foot {w : World} {B b : Nat} {lim used : Int} {sv : Value} {rk rn : Int} {U : List RT} (R : RRep w B b lim used sv rk rn U) : ∀ k, k ∈ b :: sv.ownBlock.toList → B ≤ k := by
  intro k hk
  simp only [List.mem_cons, Option.mem_toList] at hk
  rcases hk with rfl | hk
  · exact R.base
  · exact (R.row.lt k hk).1

theorem JI.twin {w : World} {B b r : Nat} {lim used rk rn : Int} {sv sr : Value} {T : List Thing} {U : List RT} (J : JI w B b r lim used rk rn sv sr T U) {i : Nat} {t : Thing} (ht : T[i]? = some t) : ∃ u, U[i]? = some u ∧ t.abs = u.abs := by
  have h := congrArg (fun l => l[i]?) J.same
  simp only [List.getElem?_map, ht, Option.map_some] at h
  cases hu : U[i]? with
  | none => rw [hu] at h; simp at h
  | some u => rw [hu] at h; simp at h; exact ⟨u, rfl, h⟩

/-- A thing's sort is that under which it was laid. -/
theorem JI.sort {w : World} {B b r : Nat} {lim used rk rn : Int} {sv sr : Value} {T : List Thing} {U : List RT} (J : JI w B b r lim used rk rn sv sr T U) {i : Nat} {t : Thing} (ht : T[i]? = some t) : -1 ≤ t.sort := by
  obtain ⟨u, hu, hab⟩ := J.twin ht
  have h1 := J.sorts u (List.mem_of_getElem? hu)
  have h2 : t.sort = u.sort := congrArg Prod.fst hab
  omega

theorem Obj_ok {w : World} {B b : Nat} {lim used : Int} {sv : Value} {rk rn : Int} {T : List Thing} (R : Rep w B b lim used sv rk rn T) (i : Nat) (t : Thing) (ht : T[i]? = some t) (hs : -1 ≤ t.sort) (hn : t.cells.length ≤ 10000000) :
    Calls Tryd.prog 34 #[.pointer (some ⟨b, 0, none⟩), .agg #[.int .i64 2, .int .i64 (i : Int)]] w fun e w' => ∃ g, e = .returned (.tuple #[.agg #[.int .i64 t.sort, .slice (some ⟨g, 0, none⟩) t.cells.length t.cells.length], .bool true]) ∧ Fr [] w w' ∧ w.heap.size ≤ g ∧ w'.heap[g]? = some (.cells (flat t.cells).toArray 45 (0, 0)) := by
  by_cases h : t.sort < 0
  · have e : t.sort = -1 := by omega
    have := Obj_arr R i t ht h hn
    rw [e]
    exact this
  · exact Obj_rec R i t ht (by omega) hn

theorem JI.new (w : World) (B : Nat) (l : Int) (hB : B ≤ w.heap.size) : JI ((w.alloc (.cells #[.bool true, .int .i64 (cap0 l), .int .i64 0, .slice none 0 0, .int .i64 0, .int .i64 0] 100)).alloc (.cells #[.slice none 0 0, .int .i64 (cap0 l), .int .i64 0, .int .i64 0, .int .i64 0] 70)) B w.heap.size (w.heap.size + 1) (cap0 l) 0 0 0 (.slice none 0 0) (.slice none 0 0) [] [] := by
  have h := cap0_le l
  refine ⟨Rep.frame (S := []) (w := w.alloc (.cells #[.bool true, .int .i64 (cap0 l), .int .i64 0, .slice none 0 0, .int .i64 0, .int .i64 0] 100)) ⟨heap_alloc_new w _, World.ownsRow_nil _ _ _ _, fun _ ht => by simp at ht, by simp, hB, fun _ ht => by simp at ht⟩ ((Fr.refl _ _).alloc _) (by simp),
    ⟨blk2 w _ _, World.ownsRow_nil _ _ _ _, fun _ ht => by simp at ht, List.Pairwise.nil, by omega⟩, rfl, fun _ ht => by simp at ht, fun _ ht => by simp at ht, h.1, Int.le_refl _, h.1, h.2⟩

theorem add_block (a : Addr) (n : Nat) : (a.add n).block = a.block := by simp only [Addr.add]; split <;> rfl

/-- Where a thing's cells lie in the reference's heap. -/
theorem ref_lies {w : World} {B r : Nat} {lim used rk rn : Int} {sr : Value} {U : List RT} (Q : RRep w B r lim used sr rk rn U) {u : RT} (hmu : u ∈ U) {ar : Option Addr} {cu : Nat} (hsl : u.sl = .slice ar u.cells.length cu) : Lies w ar u.cells := by
  have h1 := Q.th u hmu
  intro hp
  obtain ⟨x, hx⟩ : ∃ x, u.cells[0]? = some x := ⟨_, List.getElem?_eq_getElem hp⟩
  obtain ⟨g1, c2, e2, _, _, _, _⟩ := own_pair h1 hx
  rw [hsl] at e2
  injection e2 with e3 e4 e5
  subst e3
  have h2 := h1
  rw [hsl] at h2
  refine ⟨_, rfl, fun j v hv => ?_⟩
  obtain ⟨g2, c3, e6, h3, _, _⟩ := own_cells h2 hv
  injection e6 with e7 e8 e9
  injection e7 with e7
  injection e7 with e7
  subst e7
  rw [show Addr.add ⟨g1, 0, none⟩ j = ⟨g1, j, none⟩ by simp only [Addr.add]; split <;> simp_all]
  exact h3


end Go.Proofs.YtefkcmeeagflmaaDoor
