/-
  Members sorted by their numbers, where they are sorted; condition: the row lies as told.
-/
import Derived.Shelf.SlSortCmp.WholeK
import Derived.Shelf.SlicesG.Cmp
import Derived.Test.YtnhjplfdfbbihaaCaL
import Derived.Test.YtnhjplfdfbbihaaCaE
namespace Go.Proofs
open Go.Shelf
def Try.sortM_ren : Go.Shelf.Ren := ⟨fun | 6 => 32 | 15 => 50 | 14 => 49 | 28 => 62 | 29 => 63 | 20 => 54 | 21 => 55 | 22 => 56 | 23 => 57 | 24 => 58 | 25 => 59 | 26 => 60 | 27 => 61 | 46 => 65 | 47 => 66 | 48 => 67 | 49 => 68 | 50 => 69 | 57 => 70 | n => n, fun | 22 => 61 | 24 => 83 | 25 => 90 | 3 => 3 | 39 => 114 | 0 => 0 | 53 => 125 | 55 => 127 | 4 => 4 | 46 => 119 | 45 => 118 | 50 => 66 | 5 => 5 | 9 => 9 | 66 => 128 | 70 => 132 | 76 => 134 | 77 => 135 | n => n, fun n => n⟩
theorem Try.sortM : SlLaysF0.n6 Try.prog Try.sortM_ren := {
  mixed := by kernel_rfl
  f6 := ⟨"slices.SortFunc[[]swath/cache.member,swath/cache.member]", by decide, Try.func32.trans (congrArg some (by kernel_rfl))⟩
  f14 := ⟨"slices.pdqsortCmpFunc[swath/cache.member]", by decide, Try.func49.trans (congrArg some (by kernel_rfl))⟩
  f15 := Try.func50.trans (congrArg some (by kernel_rfl))
  f20 := ⟨"slices.insertionSortCmpFunc[swath/cache.member]", by decide, Try.func54.trans (congrArg some (by kernel_rfl))⟩
  f21 := ⟨"slices.heapSortCmpFunc[swath/cache.member]", by decide, Try.func55.trans (congrArg some (by kernel_rfl))⟩
  f22 := ⟨"slices.breakPatternsCmpFunc[swath/cache.member]", by decide, Try.func56.trans (congrArg some (by kernel_rfl))⟩
  f23 := ⟨"slices.choosePivotCmpFunc[swath/cache.member]", by decide, Try.func57.trans (congrArg some (by kernel_rfl))⟩
  f24 := ⟨"slices.reverseRangeCmpFunc[swath/cache.member]", by decide, Try.func58.trans (congrArg some (by kernel_rfl))⟩
  f25 := ⟨"slices.partialInsertionSortCmpFunc[swath/cache.member]", by decide, Try.func59.trans (congrArg some (by kernel_rfl))⟩
  f26 := ⟨"slices.partitionEqualCmpFunc[swath/cache.member]", by decide, Try.func60.trans (congrArg some (by kernel_rfl))⟩
  f27 := ⟨"slices.partitionCmpFunc[swath/cache.member]", by decide, Try.func61.trans (congrArg some (by kernel_rfl))⟩
  f28 := Try.func62.trans (congrArg some (by kernel_rfl))
  f29 := Try.func63.trans (congrArg some (by kernel_rfl))
  f46 := ⟨"slices.siftDownCmpFunc[swath/cache.member]", by decide, Try.func65.trans (congrArg some (by kernel_rfl))⟩
  f47 := Try.func66.trans (congrArg some (by kernel_rfl))
  f48 := Try.func67.trans (congrArg some (by kernel_rfl))
  f49 := ⟨"slices.medianAdjacentCmpFunc[swath/cache.member]", by decide, Try.func68.trans (congrArg some (by kernel_rfl))⟩
  f50 := ⟨"slices.medianCmpFunc[swath/cache.member]", by decide, Try.func69.trans (congrArg some (by kernel_rfl))⟩
  f57 := ⟨"slices.order2CmpFunc[swath/cache.member]", by decide, Try.func70.trans (congrArg some (by kernel_rfl))⟩
  t0 := Try.underlying0
  a0 := Try.isAgg0
  z0 := Try.sizeOf0
  v0 := Try.zeroValue0
  t3 := Try.underlying3
  a3 := Try.isAgg3
  z3 := Try.sizeOf3
  v3 := Try.zeroValue3
  t4 := Try.underlying4
  a4 := Try.isAgg4
  z4 := Try.sizeOf4
  v4 := Try.zeroValue4
  t5 := Try.underlying5
  a5 := Try.isAgg5
  z5 := Try.sizeOf5
  v5 := Try.zeroValue5
  t9 := Try.underlying9
  a9 := Try.isAgg9
  z9 := Try.sizeOf9
  v9 := Try.zeroValue9
  t22 := Try.underlying61
  a22 := Try.isAgg61
  z22 := Try.sizeOf61
  v22 := Try.zeroValue61
  t25 := Try.underlying90
  a25 := Try.isAgg90
  z25 := Try.sizeOf90
  v25 := Try.zeroValue90
  t39 := Try.underlying114
  a39 := Try.isAgg114
  z39 := Try.sizeOf114
  v39 := Try.zeroValue114
  t45 := Try.underlying118
  a45 := Try.isAgg118
  z45 := Try.sizeOf118
  v45 := Try.zeroValue118
  t46 := Try.underlying119
  a46 := Try.isAgg119
  z46 := Try.sizeOf119
  v46 := Try.zeroValue119
  t50 := Try.underlying66
  a50 := Try.isAgg66
  z50 := Try.sizeOf66
  v50 := Try.zeroValue66
  t53 := Try.underlying125
  a53 := Try.isAgg125
  z53 := Try.sizeOf125
  v53 := Try.zeroValue125
  t55 := Try.underlying127
  a55 := Try.isAgg127
  z55 := Try.sizeOf127
  v55 := Try.zeroValue127
  t66 := Try.underlying128
  a66 := Try.isAgg128
  z66 := Try.sizeOf128
  v66 := Try.zeroValue128
  t70 := Try.underlying132
  a70 := Try.isAgg132
  z70 := Try.sizeOf132
  v70 := Try.zeroValue132
  t76 := Try.underlying134
  a76 := Try.isAgg134
  z76 := Try.sizeOf134
  v76 := Try.zeroValue134
  t77 := Try.underlying135
  a77 := Try.isAgg135
  z77 := Try.sizeOf135
  v77 := Try.zeroValue135 }
def Try.cmpInt_ren : Go.Shelf.Ren := ⟨fun | 5 => 51 | 7 => 64 | n => n, fun | 22 => 3 | 3 => 3 | 4 => 4 | n => n, fun n => n⟩
theorem Try.cmpInt : SlLaysC2.n5 Try.prog Try.cmpInt_ren := {
  mixed := by kernel_rfl
  f5 := ⟨"cmp.Compare[int]", by decide, Try.func51.trans (congrArg some (by kernel_rfl))⟩
  f7 := ⟨"cmp.isNaN[int]", by decide, Try.func64.trans (congrArg some (by kernel_rfl))⟩
  t3 := Try.underlying3
  a3 := Try.isAgg3
  z3 := Try.sizeOf3
  v3 := Try.zeroValue3
  t4 := Try.underlying4
  a4 := Try.isAgg4
  z4 := Try.sizeOf4
  v4 := Try.zeroValue4
  t22 := Try.underlying3
  a22 := Try.isAgg3
  z22 := Try.sizeOf3
  v22 := Try.zeroValue3 }

end Go.Proofs
namespace Go.Proofs.Ytnhjplfdfbbihaa
open Go.RowKit Go.Shelf Go.Lib Go.Sort
set_option linter.unusedVariables false
set_option linter.unusedSimpArgs false
abbrev Mb := Int × Ky
def mcp (x : Mb) : List Value := mcl x.1 x.2
theorem mcp_len (x : Mb) : (mcp x).length = 11 := mcl_len _ _
theorem mcp_one (x : Mb) : ∀ v ∈ mcp x, v.oneCell' = true := by
  intro v hv
  obtain ⟨i, a, b, c, d, e, f, g, h, k, j⟩ := x
  simp only [mcp, mcl, kc, kl0, List.map_cons, List.map_nil, List.mem_cons, List.not_mem_nil, or_false] at hv
  rcases hv with rfl | rfl | rfl | rfl | rfl | rfl | rfl | rfl | rfl | rfl | rfl <;> rfl
def flatM (L : List Mb) : List Value := L.flatMap mcp
theorem flatM_len (L : List Mb) : (flatM L).length = L.length * 11 := flat_len (fun x _ => mcp_len x)
theorem ltId (x y : Mb) : ltOf (fun x y : Mb => compareInt x.1 y.1) x y = decide (x.1 < y.1) := by
  unfold ltOf compareInt
  by_cases h1 : x.1 < y.1
  · simp [h1]
  · by_cases h2 : y.1 < x.1 <;> simp [h1, h2]
theorem swoId : SWO (ltOf fun x y : Mb => compareInt x.1 y.1) where
  irrefl x := by rw [ltId]; simp
  trans x y z h1 h2 := by rw [ltId] at *; simp at *; omega
  ntrans x y z h1 h2 := by rw [ltId] at *; simp at *; omega
theorem Fr.grow {S : List Nat} {a b : World} (h : Fr S a b) (os : Array Obj) : Fr S a (grow b os) :=
  ⟨h.os, h.tape, h.output, by show a.heap.size ≤ (b.heap ++ os).size; rw [Array.size_append]; have := h.size; omega, fun k hk hS => by
    rw [← h.block k hk hS]
    show (b.heap ++ os)[k]? = b.heap[k]?
    rw [Array.getElem?_append_left (by have := h.size; omega)]⟩
set_option maxRecDepth 100000 in
/-- Two members are compared by their numbers: two blocks are laid. -/
theorem byID33 (x y : Mb) (W : World) : Calls Try.prog 33 #[.agg (mcp x).toArray, .agg (mcp y).toArray] W fun e w' => e = .returned (.int .i64 (compareInt x.1 y.1)) ∧ ∃ q os', w' = grow (W.drewN q) os' := by
  have hcon := fun W' => AnyG.cmp_Compare_int Try.cmpInt x.1 y.1 W'
  change ∀ W', Calls Try.prog 51 _ _ _ at hcon
  generalize compareInt x.1 y.1 = r at hcon ⊢
  have b1 : ((W.alloc (.cells (mcp x).toArray 83)).alloc (.cells (mcp y).toArray 83)).heap[W.heap.size]? = some (.cells (mcp x).toArray 83 (0, 0)) := (((Fr.refl [] _).alloc _).block _ (by simp) (by simp)).trans (heap_alloc_new W _)
  have b2 := blk2 W (.cells (mcp x).toArray 83) (.cells (mcp y).toArray 83)
  have k1 := at_cells b1 0 (u := .int .i64 x.1) rfl
  have k2 := at_cells b2 0 (u := .int .i64 y.1) rfl
  have HE : Hid (∃ q os', (W.alloc (.cells (mcp x).toArray 83)).alloc (.cells (mcp y).toArray 83) = grow (W.drewN q) os') := ⟨0, _, by rw [alloc_eq_grow, alloc_eq_grow, grow_grow]; rfl⟩
  clear b1 b2
  go_enter Try.func33, Try.ntmps33
  go_upto_region 1 with fail
  generalize (W.alloc (.cells (mcp x).toArray 83)).alloc (.cells (mcp y).toArray 83) = V at *
  go_wp2_with (go_at_call 51; refine (hcon _).mono ?_; rintro e w' ⟨rfl, rfl⟩)
  go_ret
  exact ⟨rfl, HE.out⟩
theorem cmp33 (blk off size : Nat) (w : World) : CmpLays Try.prog 33 #[] mcp 11 (fun x y => compareInt x.1 y.1) blk off size w :=
  fun _ _ _ _ x y => byID33 x y _
theorem flatK_M (L : List Mb) : flatK mcp 11 L.toArray = (flatM L).toArray := by
  refine ext_get! (by simp [flatM_len]) fun t ht => ?_
  have ht' : t < L.length * 11 := by simpa using ht
  rw [get_flatK _ _ _ t (by simpa using ht')]
  have hi : t / 11 < L.length := by omega
  have hx : L[t / 11]? = some L[t / 11] := List.getElem?_eq_getElem hi
  have h2 := flat_at (f := mcp) (fun x _ => mcp_len x) hx (t % 11) (Nat.mod_lt _ (by omega))
  rw [show t / 11 * 11 + t % 11 = t by omega] at h2
  have hl : t < (flatM L).length := by rw [flatM_len]; exact ht'
  have hm : t % 11 < (mcp L[t / 11]).length := by rw [mcp_len]; exact Nat.mod_lt _ (by omega)
  have e1 : (flatM L)[t]? = some (flatM L)[t] := List.getElem?_eq_getElem hl
  have e2 : (mcp L[t / 11])[t % 11]? = some (mcp L[t / 11])[t % 11] := List.getElem?_eq_getElem hm
  have e3 : (flatM L)[t] = (mcp L[t / 11])[t % 11] := by
    have : (flatM L)[t]? = (mcp L[t / 11])[t % 11]? := h2
    rw [e1, e2] at this
    exact Option.some.inj this
  rw [getElem!_pos L.toArray (t / 11) (by simpa using hi), List.getElem_toArray, getElem!_pos (mcp L[t / 11]) (t % 11) hm, getElem!_pos (flatM L).toArray t (by simpa using hl), List.getElem_toArray, e3]
theorem holdsM {w : World} {B g c : Nat} {L : List Mb} (h : w.ownsRow B 83 11 (.slice (some ⟨g, 0, none⟩) L.length c) L.length (flatM L)) : HoldsK mcp 11 w g 0 L.toArray := by
  unfold HoldsK
  rw [flatK_M]
  intro j hj
  have hj' : j < (flatM L).length := by simpa using hj
  obtain ⟨g', c', e1, hc, hz, _⟩ := own_cells h (List.getElem?_eq_getElem hj')
  cases e1
  rw [Nat.zero_add, getElem!_pos (flatM L).toArray j (by simpa using hj'), List.getElem_toArray]
  exact ⟨hc, hz j⟩
/-- Sorted, and each number once. -/
def Srt (L : List Mb) : Prop := L.Pairwise (fun x y => x.1 < y.1)
theorem pdq_id {L : List Mb} (h : Srt L) {d' : Array Mb} (hp : PermIn 0 L.toArray.size L.toArray d') (hs : SortedIn (ltOf fun x y : Mb => compareInt x.1 y.1) 0 L.toArray.size d') : d' = L.toArray := by
  obtain ⟨h1, _, h3⟩ := hp
  have e : d'.toList = L := by
    have h3' : d'.toList.Perm L := by
      have a1 : (d'.extract 0 L.toArray.size).toList = d'.toList := by rw [← h1]; simp
      have a2 : (L.toArray.extract 0 L.toArray.size).toList = L := by simp
      rw [a1, a2] at h3
      exact h3
    refine List.Perm.eq_of_pairwise (le := fun x y : Mb => x.1 ≤ y.1) ?_ ?_ ?_ h3'
    · intro x y hx hy hxy hyx
      have hxL := h3'.mem_iff.1 hx
      obtain ⟨i, hi, rfl⟩ := List.getElem_of_mem hxL
      obtain ⟨j, hj, rfl⟩ := List.getElem_of_mem hy
      have hij : i = j := by
        rcases Nat.lt_trichotomy i j with hlt | heq | hgt
        · have := List.pairwise_iff_getElem.1 h i j hi hj hlt; omega
        · exact heq
        · have := List.pairwise_iff_getElem.1 h j i hj hi hgt; omega
      subst hij
      rfl
    · rw [List.pairwise_iff_getElem]
      intro i j hi hj hij
      have hi' : i < d'.size := by simpa using hi
      have hj' : j < d'.size := by simpa using hj
      have := hs i j (Nat.zero_le _) hij (by rw [← h1]; exact hj')
      rw [ltId, getElem!_pos d' j hj', getElem!_pos d' i hi'] at this
      simp only [decide_eq_false_iff_not, Int.not_lt] at this
      simpa using this
    · exact h.imp (fun h => by omega)
  rw [← e]
set_option maxRecDepth 100000 in
theorem sort32_any {w : World} {B g c : Nat} {L : List Mb} (h : w.ownsRow B 83 11 (.slice (some ⟨g, 0, none⟩) L.length c) L.length (flatM L)) (hs : Srt L) (hn : L.length < 4611686018427387904) :
    Calls Try.prog 32 #[.slice (some ⟨g, 0, none⟩) L.length c, .func (.func 33) #[] #[]] w fun e w' => e = .returned (.tuple #[]) ∧ Fr [] w w' := by
  have eg : ∀ args w, (callFunc 33 args).run Try.prog w = .ok (.enter 33 args) w := enters_of Try.func33 (by kernel_rfl) rfl
  have hcon := AnyQ.slices_SortFunc Try.sortM 11 Try.isAgg83 Try.sizeOf83 mcp mcp_len mcp_one (fun x y => compareInt x.1 y.1) swoId 33 #[] g 0 c L.toArray w eg (cmp33 g 0 _ w) (holdsM h) (own_block h |>.2.elim fun _ hg => (Array.getElem?_eq_some_iff.1 hg).1) (by simpa using hn)
  change Calls Try.prog 32 _ _ _ at hcon
  simp only [List.size_toArray] at hcon
  refine hcon.mono fun e w' ⟨he, d', n, os, hp, hso, hw⟩ => ⟨he, ?_⟩
  obtain rfl := pdq_id hs (by simpa using hp) (by simpa using hso)
  rw [hw]
  unfold sortWorldK
  rw [putRowK_self mcp 11 _ g 0 L.toArray (holdsK_ahead mcp 11 w n g 0 _ (holdsM h))]
  have fa : Fr [] w (Sort.ahead w n) := ⟨rfl, rfl, rfl, Nat.le_refl _, fun _ _ _ => rfl⟩
  exact fa.grow os
end Go.Proofs.Ytnhjplfdfbbihaa
