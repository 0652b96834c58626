/-
  What is asked of a cache: how many at most, where it leads on, whether one is held; condition: the cache lies as told.
-/
import Derived.Test.YtnhjplfdfbbihaaCbF
namespace Go.Proofs.Ytnhjplfdfbbihaa
open Go.RowKit Go.Shelf Go.Maps Go.ChangeShapes
set_option linter.unusedVariables false
set_option linter.unusedSimpArgs false
def k00 : Ky := (0, 0, 0, 0, 0, 0, 0, 0, 0, 0)
theorem held_any {rs : List Rt} {S : Bk} (h : rs.map absR = S.rows) (i : Int) : (rs.map mb).any (fun x => decide (x.1 = i)) = heldB S i := by
  unfold heldB
  rw [← h, List.any_map, List.any_map]
  rfl
theorem rs_len {rs : List Rt} {S : Bk} {n : Nat} (h : rs.map absR = S.rows) (ho : Ok S n) : rs.length ≤ 1000 := by
  have h1 := ho.len
  have h2 := ho.lim
  rw [← h, List.length_map] at h1
  omega
theorem rs_len2 {rs : List Rt} {S : Bk} (h : rs.map absR = S.rows) : rs.length = S.rows.length := by rw [← h, List.length_map]
set_option maxRecDepth 100000 in
theorem most_any {w : World} {B c n : Nat} {rs : List Rt} {S : Bk} (h : CA w B c n rs S) : Calls Try.prog 12 #[.pointer (some ⟨c, 0, none⟩)] w fun e w' => e = .returned (.int .i64 S.top) ∧ Fr [] w w' := by
  obtain ⟨pa, pcap, hb, ov, fb, lb, hp⟩ := h.ex
  have k7 : w.cell? ⟨c, 7, none⟩ = some (.int .i64 S.top) := at_cells hp.blk 7 rfl
  clear hp h
  go_enter Try.func12, Try.ntmps12
  go_wp2
  go_ret
  exact ⟨rfl, Fr.refl _ _⟩
set_option maxRecDepth 100000 in
theorem linked_any {w : World} {B c n : Nat} {rs : List Rt} {S : Bk} (h : CA w B c n rs S) {i p : Int} (hi : W64 i) (hp : W64 p) : Calls Try.prog 17 #[.pointer (some ⟨c, 0, none⟩), .int .i64 i, .int .i64 p] w fun e w' => e = .returned (.tuple #[.int .i64 ((linksF S.notes i p).getD 0), .bool (linksF S.notes i p).isSome]) ∧ Fr [] w w' := by
  obtain ⟨pa, pcap, hb, ov, fb, lb, hp'⟩ := h.ex
  have k5 : w.cell? ⟨c, 5, none⟩ = some (.map (some lb)) := at_cells hp'.blk 5 rfl
  have hl := hp'.links.lookOk hi hp
  clear hp' h
  unfold pc at hl
  go_enter Try.func17, Try.ntmps17
  go_wp2
  exact bodyPost_ret (results_tmp2 rfl _ _ _) rfl ⟨rfl, Fr.refl _ _⟩
set_option maxRecDepth 100000 in
theorem holds_any {w : World} {B c n : Nat} {rs : List Rt} {S : Bk} (h : CA w B c n rs S) (ho : Ok S n) (i : Int) : Calls Try.prog 35 #[.pointer (some ⟨c, 0, none⟩), .int .i64 i] w fun e w' => e = .returned (.bool (heldB S i)) ∧ Fr [] w w' := by
  obtain ⟨pa, pcap, hb, ov, fb, lb, hp⟩ := h.ex
  have k3 : w.cell? ⟨c, 3, none⟩ = some ov := at_cells hp.blk 3 rfl
  have habs := h.abs
  have hL : ((rs.map mb).length : Int) ≤ 1000000000000 := by have := rs_len habs ho; rw [List.length_map]; omega
  have C0 := bs52_any (i, k00) hp.ord (srt_of habs ho) hL
  have C : Calls Try.prog 52 #[ov, .agg (mcp (i, k00)).toArray, .func (.func 33) #[] #[]] w fun e w' => ∃ i' : Int, e = .returned (.tuple #[.int .i64 i', .bool (heldB S i)]) ∧ Fr [] w w' := by
    have e := held_any habs i
    simp only [e] at C0
    exact C0
  clear hp h C0 hL
  go_enter Try.func35, Try.ntmps35
  go_wp2_with (go_at_call 52; refine C.mono ?_; rintro e w1 ⟨i', rfl, f1⟩)
  go_ret
  exact ⟨rfl, f1⟩
end Go.Proofs.Ytnhjplfdfbbihaa
