/-
  The chapter's example comes out as the laws ask; condition: the tables lie as the program's text lays them.
-/
import Derived.Test.YtajdnakpljgkpaaDoorLwP
import Derived.Deep.Cut
namespace Go.Proofs.YtajdnakpljgkpaaDoor
open Go.RowKit
set_option linter.unusedVariables false
set_option linter.unusedSimpArgs false

def exF (N : Nat) : Fu := ⟨⟨#[]⟩, 0, 1, some ⟨N, 0, none⟩, 3, exC⟩
def code18 : Array Value := #[.int .i64 1, .int .i64 0, .int .i64 0, .int .i64 0, .int .i64 0, .slice none 0 0, .int .i64 1, .int .i64 0, .int .i64 0, .int .i64 0, .int .i64 1, .slice none 0 0, .int .i64 24, .int .i64 0, .int .i64 0, .int .i64 0, .int .i64 0, .slice none 0 0]
theorem InOk.nil {B : Nat} {w : World} {op a b c k : Int} : InOk B w ⟨op, a, b, c, k, none, 0, []⟩ := ⟨KAt.nil, by simp, by simp, fun _ => rfl⟩
theorem ex_fu {B : Nat} {W : World} {N : Nat} (hc : W.heap[N]? = some (.cells code18 59 (0, 0))) (hB : N < B) : FuOk B W (exF N) := by
  refine ⟨fun i x hx => ⟨N, 0, rfl, hB, ?_⟩, by simp [exF, ByteArray.size], by simp [exF, exC], by simp [exF, exC], fun h => by cases h⟩
  match i, hx with
  | 0, hx =>
    simp [exF, exC] at hx
    subst hx
    exact ⟨at_cells hc 0 rfl, at_cells hc 1 rfl, at_cells hc 2 rfl, at_cells hc 3 rfl, at_cells hc 4 rfl, at_cells hc 5 rfl, InOk.nil⟩
  | 1, hx =>
    simp [exF, exC] at hx
    subst hx
    exact ⟨at_cells hc 6 rfl, at_cells hc 7 rfl, at_cells hc 8 rfl, at_cells hc 9 rfl, at_cells hc 10 rfl, at_cells hc 11 rfl, InOk.nil⟩
  | 2, hx =>
    simp [exF, exC] at hx
    subst hx
    exact ⟨at_cells hc 12 rfl, at_cells hc 13 rfl, at_cells hc 14 rfl, at_cells hc 15 rfl, at_cells hc 16 rfl, at_cells hc 17 rfl, InOk.nil⟩
theorem ex_l : ∀ x ∈ exC, x.l.length ≤ 8000000000000 := by
  intro x hx
  simp [exC] at hx
  rcases hx with rfl | rfl | rfl <;> simp

set_option maxRecDepth 100000 in
set_option maxHeartbeats 8000000 in
theorem awake_any (w : World) (T : Tabs w) : Calls Tryd.prog 7 #[] w fun e w' => e = .returned (.bool true) ∧ Fr [] w w' := by
  have f1 : Fr [] w (w.alloc (.cells code18 59)) := (Fr.refl _ _).alloc _
  have b1 := heap_alloc_new w (.cells code18 59)
  have f2 : Fr [] (w.alloc (.cells code18 59)) ((w.alloc (.cells code18 59)).alloc (.cells #[.string ⟨#[]⟩, .int .i64 0, .int .i64 1, .slice (some ⟨w.heap.size, 0, none⟩) 3 3] 24)) := (Fr.refl _ _).alloc _
  have b2 : ((w.alloc (.cells code18 59)).alloc (.cells #[.string ⟨#[]⟩, .int .i64 0, .int .i64 1, .slice (some ⟨w.heap.size, 0, none⟩) 3 3] 24)).heap[w.heap.size + 1]? = some (.cells #[.string ⟨#[]⟩, .int .i64 0, .int .i64 1, .slice (some ⟨w.heap.size, 0, none⟩) 3 3] 24 (0, 0)) := by have := heap_alloc_new (w.alloc (.cells code18 59)) (.cells #[.string ⟨#[]⟩, .int .i64 0, .int .i64 1, .slice (some ⟨w.heap.size, 0, none⟩) 3 3] 24); rw [World.size_alloc] at this; exact this
  have B1 := f2.at b1 (by simp)
  have F2 := f1.trans f2
  have T2 := T.fr F2 (by simp)
  have hsz : ((w.alloc (.cells code18 59)).alloc (.cells #[.string ⟨#[]⟩, .int .i64 0, .int .i64 1, .slice (some ⟨w.heap.size, 0, none⟩) 3 3] 24)).heap.size = w.heap.size + 2 := by simp
  unfold code18 at b1 b2 B1 f1 f2 F2 T2 hsz
  go_enter Tryd.func7, Tryd.ntmps7
  go_upto_region 2 with fail
  clear f1 f2 b1
  generalize (w.alloc (.cells #[.int .i64 1, .int .i64 0, .int .i64 0, .int .i64 0, .int .i64 0, .slice none 0 0, .int .i64 1, .int .i64 0, .int .i64 0, .int .i64 0, .int .i64 1, .slice none 0 0, .int .i64 24, .int .i64 0, .int .i64 0, .int .i64 0, .int .i64 0, .slice none 0 0] 59)).alloc (.cells #[.string ⟨#[]⟩, .int .i64 0, .int .i64 1, .slice (some ⟨w.heap.size, 0, none⟩) 3 3] 24) = W2 at *
  have HS2 : Hid (W2.heap.size = w.heap.size + 2) := hsz
  clear hsz
  have p0 : W2.cell? ⟨w.heap.size + 1, 0, none⟩ = some (.string ⟨#[]⟩) := at_cells b2 0 rfl
  have p1 : W2.cell? ⟨w.heap.size + 1, 1, none⟩ = some (.int .i64 0) := at_cells b2 1 rfl
  have p2 : W2.cell? ⟨w.heap.size + 1, 2, none⟩ = some (.int .i64 1) := at_cells b2 2 rfl
  have p3 : W2.cell? ⟨w.heap.size + 1, 3, none⟩ = some (.slice (some ⟨w.heap.size, 0, none⟩) 3 3) := at_cells b2 3 rfl
  have C1 : Calls Tryd.prog 9 #[.agg #[.string ⟨#[]⟩, .int .i64 0, .int .i64 1, .slice (some ⟨w.heap.size, 0, none⟩) 3 3]] W2 _ := tables_any W2.heap.size (exF w.heap.size) W2 (ex_fu B1 (by have := HS2.out; omega)) (Nat.le_refl _) (by simp [exF, exC]) ex_l T2
  go_wp2_with fail
  with_reducible (refine C1.mono ?_)
  rintro e W4 ⟨v, P, rfl, hl, hle, f4⟩
  have hl2 : LL W4 W2.heap.size v [[], [], [0]] := by rw [← ex_tab hle]; exact hl
  have B4 := f4.at B1 (by simp)
  have b4 := f4.at b2 (by simp)
  have T4 := T2.fr f4 (by simp)
  have G4 : Hid (Fr [] w W4) := F2.trans f4
  obtain ⟨vs, ho, hk⟩ := hl2
  obtain ⟨a0, c0, hv0, ho0⟩ := hk 0 [] rfl
  obtain ⟨a1, c1, hv1, ho1⟩ := hk 1 [] rfl
  obtain ⟨a2, c2, hv2, ho2⟩ := hk 2 [0] rfl
  obtain ⟨la, lc, rfl, hlc⟩ := own_slice ho
  have HO : Hid (W4.ownsRow W2.heap.size 30 1 (.slice la 3 lc) 3 vs) := ho
  have HZ : Hid (w.heap.size < W4.heap.size) := (Array.getElem?_eq_some_iff.1 B4).1
  clear C1 p0 p1 p2 p3 T2 B1 b2 F2 hl hle f4 hk ho ho0 ho1 ho2
  go_upto_region 3 with fail
  have p0 : W4.cell? ⟨w.heap.size + 1, 0, none⟩ = some (.string ⟨#[]⟩) := at_cells b4 0 rfl
  have p1 : W4.cell? ⟨w.heap.size + 1, 1, none⟩ = some (.int .i64 0) := at_cells b4 1 rfl
  have p2 : W4.cell? ⟨w.heap.size + 1, 2, none⟩ = some (.int .i64 1) := at_cells b4 2 rfl
  have p3 : W4.cell? ⟨w.heap.size + 1, 3, none⟩ = some (.slice (some ⟨w.heap.size, 0, none⟩) 3 3) := at_cells b4 3 rfl
  have C2 : Calls Tryd.prog 12 #[.agg #[.string ⟨#[]⟩, .int .i64 0, .int .i64 1, .slice (some ⟨w.heap.size, 0, none⟩) 3 3]] W4 _ := dead_any W4.heap.size (exF w.heap.size) W4 (ex_fu B4 HZ.out) (Nat.le_refl _) (by simp [exF, exC]) ex_l T4
  go_wp2_with fail
  with_reducible (refine C2.mono ?_)
  rintro e W6 ⟨v6, P6, rfl, hd, hle, hw, f6⟩
  have hd2 : OR W6 W4.heap.size v6 [0] := by rw [← ex_dead hle hw]; exact hd
  obtain ⟨da, dc, rfl, hdc, hdn⟩ := hd2.slice
  have ho6 := own_fr HO.out f6 (by simp)
  have G6 : Hid (Fr [] w W6) := G4.out.trans f6
  obtain ⟨g, gc, e1, k0, _⟩ := own_cells ho6 hv0
  obtain ⟨g1, gc1, e2, k1, _⟩ := own_cells ho6 hv1
  obtain ⟨g2, gc2, e3, k2, _⟩ := own_cells ho6 hv2
  cases e1
  cases e2
  cases e3
  have hd3 := hd2
  unfold OR at hd3
  obtain ⟨g3, gc3, e4, k3, _⟩ := own_cells hd3 (j := 0) (x := .int .i64 0) rfl
  cases e4
  simp only [List.length_nil, List.length_cons] at k0 k1 k2
  clear C2 p0 p1 p2 p3 T4 B4 b4 hd hd2 hd3 hle hw f6 ho6 HO HZ G4 HS2 hv0 hv1 hv2 hdn hlc T
  go_wp2
  go_ret
  exact ⟨rfl, G6.out⟩
end Go.Proofs.YtajdnakpljgkpaaDoor
