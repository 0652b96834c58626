/-
  The reference's lay and Lay; conditions: the cells that are handed in can be read, at most 10,000,000 of them, at most 10 to the 12th things.
-/
import Derived.Test.YtkjkpkmmojchiaaGreatDoorHeapT
import Derived.Test.YtkjkpkmmojchiaaGreatDoorHeapQ
import Derived.Deep.RegionLaw
namespace Go.Proofs.YtkjkpkmmojchiaaGreatDoor
open Go.RowKit

theorem under36 : Tryz.prog.underlying 98 = some (.slice 103) := by kernel_rfl
theorem info40 : (Tryz.prog.info? 103).map (fun i => (i.zero, i.size, i.bytes)) = some (some (.agg #[.int .i64 0, .slice none 0 0]), 2, 32) := by kernel_rfl

theorem rflat_append (U : List RT) (u : RT) : rflat (U ++ [u]) = rflat U ++ [.int .i64 u.sort, u.sl] := by
  induction U with
  | nil => rfl
  | cons v r ih => simp [rflat, ih]

theorem mem_flatMap_own {U : List RT} {u : RT} (hu : u ∈ U) {k : Nat} (hk : u.sl.ownBlock = some k) (r : Nat) (sv : Value) : k ∈ rfoot r sv U := by
  unfold rfoot
  simp only [List.mem_cons, List.mem_append, Option.mem_toList, List.mem_flatMap]
  exact .inr (.inr ⟨u, hu, hk⟩)

theorem res30 {w : World} {k : Nat} {p q : Value} (h : w.heap[k]? = some (.cells #[p, q] 33)) : w.cell? ⟨k, 0, none⟩ = some p ∧ w.cell? ⟨k, 1, none⟩ = some q ∧ ∀ i, w.frozen? ⟨k, i, none⟩ = false :=
  ⟨by simp [World.cell?, h], by simp [World.cell?, h], fun i => by simp [World.frozen?, h]⟩

/-- A thing more. -/
theorem rlay_end {w w1 w2 : World} {B b : Nat} {lim used : Int} {sv : Value} {rk rn : Int} {U : List RT} (R : RRep w B b lim used sv rk rn U) (R1 : RRep w1 B b lim used sv rk rn U) {o2 : Obj} {s : Int} {xs : List (Int × Int)} {sl v2 : Value} (hz1 : w.heap.size + 1 ≤ w1.heap.size)
    (hL1 : w1.heap[w.heap.size]? = some (.cells #[.int .i64 0, .int .i64 0] 33))
    (hk1 : ∀ k, sl.ownBlock = some k → w.heap.size + 1 ≤ k) (ho1 : w1.ownsRow B 33 2 sl xs.length (flat xs)) (hg2 : (w1.alloc o2).grownBy w2 sv.ownBlock)
    (ho2 : w2.ownsRow B 103 2 v2 (U.length + 1) (rflat U ++ [.int .i64 s, sl])) :
    RRep (w2.setCell ⟨b, 0, none⟩ v2) B b lim used v2 rk rn (U ++ [⟨sl, s, xs⟩]) ∧ (w2.setCell ⟨b, 0, none⟩ v2).heap[w.heap.size]? = some (.cells #[.int .i64 0, .int .i64 0] 33) := by
  have fa : Fr sv.ownBlock.toList w1 w2 := ((Fr.refl [] w1).alloc o2).sub (T := sv.ownBlock.toList) (by simp) |>.trans (Fr.ofGrown hg2)
  have H2 : RH w2 b lim used sv rk rn := R1.hb.fr fa (by intro hm; simp at hm; exact own_ne R1.row R1.hb (by decide) hm)
  have f3 : Fr [b] w2 (w2.setCell ⟨b, 0, none⟩ v2) := (Fr.refl _ _).setCell (.inl (by simp)) _
  have keep : ∀ {n : Nat} {q : Value} {ys : List Value}, w1.ownsRow B 33 2 q n ys → (w2.setCell ⟨b, 0, none⟩ v2).ownsRow B 33 2 q n ys := by
    intro n q ys hq
    have hq2 := own_fr hq fa (by intro k hk hm; simp at hm; exact own_ne2 hq R1.row (by decide) k hk hm)
    exact own_fr hq2 f3 (by intro k hk hm; simp at hm; subst hm; exact own_ne hq2 H2 (by decide) hk)
  refine ⟨⟨H2.setThings v2, ?_, ?_, ?_, R.base⟩, ?_⟩
  · rw [rflat_append, List.length_append]
    exact own_fr ho2 f3 (by intro k hk hm; simp at hm; subst hm; exact own_ne ho2 H2 (by decide) hk)
  · intro u hu
    rcases List.mem_append.1 hu with hu | hu
    · exact keep (R1.th u hu)
    · simp at hu
      subst hu
      exact keep ho1
  · rw [List.pairwise_append]
    refine ⟨R1.sep, by simp, ?_⟩
    intro u hu v hv k hk hk2
    simp at hv
    subst hv
    have a1 := hk1 k hk2
    have a2 := R.lt k (mem_flatMap_own hu hk b sv)
    omega
  · rw [f3.block _ (by have := fa.size; omega) (by have := R.hb.lt; simp; omega), fa.block _ (by omega) ?_]
    · exact hL1
    · intro hm
      simp at hm
      exact own_ne R1.row hL1 (by decide) hm

set_option maxRecDepth 100000 in
set_option maxHeartbeats 600000 in
theorem rlay_any {w : World} {B b : Nat} {lim used : Int} {sv : Value} {rk rn : Int} {U : List RT} (R : RRep w B b lim used sv rk rn U) (s : Int) (xs : List (Int × Int)) (a : Option Addr) (n c : Nat) (hxn : xs.length = n) (h : Lies w a xs) (h0 : a = none → n = 0 ∧ c = 0) (hn : n ≤ 10000000) (hT : U.length ≤ 1000000000000) :
    Calls Tryz.prog 152 #[.pointer (some ⟨b, 0, none⟩), .int .i64 s, .slice a n c] w fun e w' => e = .returned (.agg #[.int .i64 2, .int .i64 U.length]) ∧
      ∃ sv' u, RRep w' B b lim used sv' rk rn (U ++ [u]) ∧ u.sort = s ∧ u.cells = xs ∧ (∀ k, u.sl.ownBlock = some k → w.heap.size ≤ k) ∧ Fr (b :: sv.ownBlock.toList) w w' ∧ (∀ k, sv'.ownBlock = some k → sv.ownBlock = some k ∨ w.heap.size ≤ k) := by
  obtain ⟨i30, hi, hz, hs, hby⟩ := info_parts info30
  obtain ⟨i40, hi2, hz2, hs2, hby2⟩ := info_parts info40
  have hlt := R.hb.lt
  have hbB := R.base
  have hA : ∀ o, RRep (w.alloc o) B b lim used sv rk rn U := fun o => R.frame (S := []) ((Fr.refl _ _).alloc o) (by simp)
  have c0 := fun o => (hA o).hb.c0
  have hnews : ∀ o ad, a = some ad → ∀ j u, (flat xs)[j]? = some u → ((w.alloc o).drew).cell? (ad.add j) = some u := by
    intro o ad had j u hj
    have hp : 0 < xs.length := by
      have := (List.getElem?_eq_some_iff.1 hj).1
      rw [flat_length] at this
      omega
    obtain ⟨ad', e, hc⟩ := h hp
    rw [had] at e
    injection e with e
    subst e
    have hcj := hc j u hj
    have hltj := World.block_lt_of_cell? w _ hcj
    show (w.alloc o).cell? _ = _
    rw [World.cell?_of_block (w := w) (Below.heap_alloc w o _ hltj)]
    exact hcj
  go_enter Tryz.func152, Tryz.ntmps152
  go_wp2
  go_region_law (first
    | (refine step_append_src rfl (.const (.slice none 0 0)) (.tmp 13) 55 rfl B 33 i30 _ 2 16 under31 hi hz hs hby rfl (by decide) (.slice none 0 0) 0 [] rfl (World.ownsRow_nil _ _ _ _) a n c (flat xs) rfl (by rw [flat_length, hxn]) h0 (hnews _) (flat_one xs) (by unfold maxLen; omega) (by omega) (by show B ≤ (w.alloc _).heap.size; simp; omega) ?_; intro v1 w1 ho1 hg1 hk1; have f1 := (((Fr.refl [] w).alloc _).drew).trans (Fr.ofGrown hg1); have R1 := R.frame f1 (by simp); have hc1 := R1.hb.c0; have hb1 := R1.hb.lt; have hz1 := R1.hb.fz 0; simp only [Nat.zero_add, List.nil_append] at ho1; obtain ⟨a1, c1, rfl, hv1⟩ := own_slice ho1)
    | (refine step_append_src rfl (.tmp 11) (.tmp 16) 98 rfl B 103 i40 _ 2 32 under36 hi2 hz2 hs2 hby2 rfl (by decide) sv U.length (rflat U) rfl (R1.row.alloc _) (some ⟨w1.heap.size, 0, none⟩) 1 1 [.int .i64 s, .slice a1 n c1] rfl rfl (by simp) (fun ad had => by cases had; exact cell_two_new w1 _ _ _) (by simp [Value.oneCell']) (by unfold maxLen; omega) (by omega) (by have := f1.size; simp; omega) ?_; intro v2 w2 ho2 hg2 hk2; have f2 := (f1.alloc _).sub (T := b :: sv.ownBlock.toList) (by simp) |>.trans ((Fr.ofGrown hg2).sub (by intro k hk; exact .inl (List.mem_cons_of_mem _ hk))); have H2 := R1.hb.fr (((Fr.refl [] w1).alloc _).sub (T := sv.ownBlock.toList) (by simp) |>.trans (Fr.ofGrown hg2)) (by intro hm; simp at hm; exact own_ne R1.row R1.hb (by decide) hm); have hc2 := H2.c0; have hz2' := H2.fz 0; obtain ⟨a2, c2, rfl, hv2⟩ := own_slice ho2))
  all_goals
    subst hxn
    have hL1 : w1.heap[w.heap.size]? = some (.cells #[.int .i64 0, .int .i64 0] 33) := by
      rw [hg1.block _ (by show _ < (w.alloc _).heap.size; simp) (by simp [Value.ownBlock])]
      exact heap_alloc_new w _
    have hs1 : w.heap.size + 1 ≤ w1.heap.size := (Array.getElem?_eq_some_iff.1 hL1).1
    have hk1' : ∀ k, (Value.slice a1 xs.length c1).ownBlock = some k → w.heap.size + 1 ≤ k := by
      intro k hk
      rcases hk1 k hk with e | e
      · simp [Value.ownBlock] at e
      · have e : (w.alloc (Obj.cells #[Value.int IntKind.i64 0, Value.int IntKind.i64 0] 33)).heap.size ≤ k := e
        simpa using e
    obtain ⟨RE, hLE⟩ := rlay_end (s := s) R R1 hs1 hL1 hk1' ho1 hg2 ho2
    have fE : Fr (b :: sv.ownBlock.toList) w (w2.setCell ⟨b, 0, none⟩ (.slice a2 (U.length + 1) c2)) := Fr.setCell f2 (.inl (by simp)) _
    have hkE : ∀ k, (Value.slice a2 (U.length + 1) c2).ownBlock = some k → sv.ownBlock = some k ∨ w.heap.size ≤ k := by
      intro k hk
      rcases hk2 k hk with e | e
      · exact .inl e
      · right
        simp at e
        omega
    have cE := RE.hb.c0
    generalize w2.setCell ⟨b, 0, none⟩ (.slice a2 (U.length + 1) c2) = w3 at *
    clear hi hz hs hby hi2 hz2 hs2 hby2 hA c0 hnews hg1 f1 R1 hc1 hb1 hz1 hv1 hk1 ho1 hg2 f2 H2 hc2 hz2' ho2 hk2
    go_wp2_with (go_at_call 48; refine (Ref_any _ _).mono ?_; rintro e w4 ⟨rfl, f4⟩; have ⟨hl0, hl1, hlf⟩ := res30 ((f4.block _ (Array.getElem?_eq_some_iff.1 hLE).1 (by simp)).trans hLE))
    refine bodyPost_ret (v := .agg #[.int .i64 2, .int .i64 U.length]) (by simp [results, Tryz.results152, go_sem, hl0, hl1]) rfl ⟨rfl, .slice a2 (U.length + 1) c2, ⟨.slice a1 xs.length c1, s, xs⟩, ?_, rfl, rfl, fun k hk => by have := hk1' k hk; omega, ?_, hkE⟩
    · have R4 := RE.frame f4 (by simp)
      refine R4.fr (Fr.setCell (Fr.setCell (Fr.refl [w.heap.size] _) (.inl (by simp)) _) (.inl (by simp)) _) ?_
      intro k hk hm
      simp at hm
      subst hm
      unfold rfoot at hk
      simp only [List.mem_cons, List.mem_append, Option.mem_toList, List.mem_flatMap] at hk
      rcases hk with e | e | ⟨u, hu, e⟩
      · omega
      · rcases hkE _ e with e2 | e2
        · have := R.row.lt _ e2; omega
        · exact own_ne RE.row hLE (by decide) e
      · rcases hu with hu | hu
        · have := R.lt _ (mem_flatMap_own hu e b sv); omega
        · simp at hu
          subst hu
          have := hk1' _ e
          omega
    · exact Fr.setCell (Fr.setCell (fE.trans (f4.sub (by simp))) (.inr (by simp)) _) (.inr (by simp)) _
end Go.Proofs.YtkjkpkmmojchiaaGreatDoor
