/-
  Room is made in the document's cache; condition: the cache lies as told.
-/
import Derived.Test.YtnhjplfdfbbihaaCcJ
namespace Go.Proofs.Ytnhjplfdfbbihaa
open Go.RowKit Go.Shelf Go.Maps Go.ChangeShapes
set_option linter.unusedVariables false
set_option linter.unusedSimpArgs false
def rowLen (w : World) (c : Nat) : Nat := match w.cell? ⟨c, 0, none⟩ with
  | some (.slice _ n _) => n
  | _ => 0
theorem rowLen_of {w : World} {B c : Nat} {rs : List Rt} {S : Bk} (h : RA w B c rs S) : rowLen w c = rs.length := by
  obtain ⟨rv, nv, pa, pcap, pf, used, hp, _⟩ := h.ex
  obtain ⟨ra, rc, rfl, _⟩ := own_slice hp.rows
  have k0 : w.cell? ⟨c, 0, none⟩ = some (.slice ra rs.length rc) := at_cells hp.blk 0 rfl
  unfold rowLen
  rw [k0]
set_option maxRecDepth 100000 in
set_option maxHeartbeats 4000000 in
theorem rut_tail {W : World} {B c n : Nat} {rs : List Rt} {S : Bk} (h : RA W B c rs S) (ho : Ok S n) (hn : n ≤ 1048576) (hBW : B ≤ W.heap.size) (hN : 0 < rs.length) {p0 : Int} {pi : Nat} (hpi : (pi : Int) = if p0.tmod rs.length < 0 then p0.tmod rs.length + rs.length else p0.tmod rs.length) {Q : Exit → Act → World → Prop} {u1 u2 u3 u4 u5 u7 u8 u9 u10 u11 u12 u13 u14 u15 u16 u17 u18 u19 u20 u21 u22 u23 u24 u25 u26 u27 u28 u29 u30 u31 u32 u33 u34 u35 u36 u37 u38 u39 u40 u41 u42 u43 u44 u45 u46 u47 u48 u49 u50 u51 u52 u53 u54 u55 u56 u57 u58 u59 u60 u61 u62 u63 u64 u65 u66 u67 u68 u69 u70 u71 u72 u73 u74 u75 u76 u77 u78 u79 u80 u81 u82 u83 u84 u85 u86 u87 u88 u89 u90 u91 u92 u93 u94 u95 u96 u97 u98 u99 u100 u101 u102 u103 u104 u105 u106 u107 u108 u109 u110 u111 u112 u113 u114 u115 : Value}
    (hQ : Hid (∀ W2, RA W2 B c (rs.eraseIdx pi) (goneB S pi) → Gm B pR false W W2 → ∀ n6 n58 n59 n60 n61 n62 n63 n64 n65 n66 n67 n68 n69 n70 n71 n72 n73 n74 n75 n76, Q .normal { tmps := #[.pointer (some ⟨c, 0, none⟩), u1, u2, u3, u4, u5, n6, u7, u8, u9, u10, u11, u12, u13, u14, u15, u16, u17, u18, u19, u20, u21, u22, u23, u24, u25, u26, u27, u28, u29, u30, u31, u32, u33, u34, u35, u36, u37, u38, u39, u40, u41, u42, u43, u44, u45, u46, u47, u48, u49, u50, u51, u52, u53, u54, u55, u56, u57, n58, n59, n60, n61, n62, n63, n64, n65, n66, n67, n68, n69, n70, n71, n72, n73, n74, n75, n76, u77, u78, u79, u80, u81, u82, u83, u84, u85, u86, u87, u88, u89, u90, u91, u92, u93, u94, u95, u96, u97, u98, u99, u100, u101, u102, u103, u104, u105, u106, u107, u108, u109, u110, u111, u112, u113, u114, u115], defers := [] } W2)) :
    (sub Try.f23 [1, 1, 1, 0, 0, 0, 1, 0, 1, 1]).wp Try.prog Q { tmps := #[.pointer (some ⟨c, 0, none⟩), u1, u2, u3, u4, u5, .int .i64 p0, u7, u8, u9, u10, u11, u12, u13, u14, u15, u16, u17, u18, u19, u20, u21, u22, u23, u24, u25, u26, u27, u28, u29, u30, u31, u32, u33, u34, u35, u36, u37, u38, u39, u40, u41, u42, u43, u44, u45, u46, u47, u48, u49, u50, u51, u52, u53, u54, u55, u56, u57, u58, u59, u60, u61, u62, u63, u64, u65, u66, u67, u68, u69, u70, u71, u72, u73, u74, u75, u76, u77, u78, u79, u80, u81, u82, u83, u84, u85, u86, u87, u88, u89, u90, u91, u92, u93, u94, u95, u96, u97, u98, u99, u100, u101, u102, u103, u104, u105, u106, u107, u108, u109, u110, u111, u112, u113, u114, u115], defers := [] } W := by
  have hlen := h.len ho
  obtain ⟨rv, nv, pa, pcap, pf, used, hp, _⟩ := h.ex
  obtain ⟨ra, rc, rfl, _⟩ := own_slice hp.rows
  obtain ⟨N, hNe⟩ : ∃ N, rs.length = N := ⟨_, rfl⟩
  have k0 : W.cell? ⟨c, 0, none⟩ = some (.slice ra N rc) := by rw [← hNe]; exact at_cells hp.blk 0 rfl
  rw [hNe] at hpi hN hlen
  have hb1 := Int.tmod_lt_of_pos p0 (show (0 : Int) < N by omega)
  have hb2 := Int.lt_tmod_of_pos p0 (show (0 : Int) < N by omega)
  have hpl : pi < rs.length := by rw [hNe]; split at hpi <;> omega
  have CG := gone_any h ho hn hBW hpl
  have hmI : ¬ ((N : Int) = 0) := by omega
  have hN1 : (N : Int) ≤ 1000 := by omega
  clear h ho hn hBW hp hNe hpl hN hlen
  generalize hr : p0.tmod N = r at hpi hb1 hb2
  have HR : Hid (p0.tmod N = r) := hr
  dsimp only [sub, nav, kid, Try.f23, Option.getD, if_true, if_false]
  by_cases hneg : r < 0
  · rw [if_pos hneg] at hpi
    have hpe : r + (N : Int) = (pi : Int) := hpi.symm
    clear hpi
    go_upto_region 12 with fail
    try rw [hr]
    clear hr
    go_upto_region 14 with fail
    try rw [hpe]
    clear hpe hb1 hb2 hneg hmI hN1
    go_wp2_with (go_at_call 37; refine CG.mono ?_; rintro e w2 ⟨rfl, h2, g2⟩)
    exact hQ.out _ h2 g2 _ _ _ _ _ _ _ _ _ _ _ _ _ _ _ _ _ _ _ _
  · rw [if_neg hneg] at hpi
    have hpe : r = (pi : Int) := hpi.symm
    clear hpi
    go_upto_region 12 with fail
    try rw [hr]
    clear hr
    go_upto_region 14 with fail
    try rw [hpe]
    clear hpe hb1 hb2 hneg hmI hN1
    go_wp2_with (go_at_call 37; refine CG.mono ?_; rintro e w2 ⟨rfl, h2, g2⟩)
    exact hQ.out _ h2 g2 _ _ _ _ _ _ _ _ _ _ _ _ _ _ _ _ _ _ _ _
end Go.Proofs.Ytnhjplfdfbbihaa
