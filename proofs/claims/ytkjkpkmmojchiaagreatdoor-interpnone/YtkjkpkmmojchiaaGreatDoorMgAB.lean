/-
  Texts of the proof, in their order: MaF, MaG, MaH; conditions: as each theorem says.
-/
import Derived.Test.YtkjkpkmmojchiaaGreatDoorMgAA
namespace Go.Proofs.YtkjkpkmmojchiaaGreatDoor
open Go.RowKit
set_option linter.unusedVariables false
set_option linter.unusedSimpArgs false

theorem own_set {w : World} {B n size : Nat} {e : TypeId} {g c : Nat} {xs : List Value} (h : w.ownsRow B e size (.slice (some ⟨g, 0, none⟩) n c) n xs) (j : Nat) (u : Value) (hj : j < n * size) : (w.setCell ⟨g, j, none⟩ u).ownsRow B e size (.slice (some ⟨g, 0, none⟩) n c) n (xs.set j u) := by
  obtain ⟨h1, h2⟩ := h
  refine ⟨by simpa using h1, ?_⟩
  rcases h2 with ⟨e1, _⟩ | ⟨g', cap, cur, e1, hb, hg, hn, hm, hs, ht⟩
  · cases e1
  · cases e1
    refine .inr ⟨g, c, cur.setIfInBounds j u, rfl, hb, set_cells j u hg, hn, hm, by simpa using hs, ?_⟩
    rw [← ht, Array.toList_setIfInBounds, List.take_set]
theorem FuOk.nn {B : Nat} {w : World} {f : Fu} (h : FuOk B w f) (e : f.ca = none) : f.code.length = 0 ∧ f.cc = 0 := by
  refine ⟨?_, h.kn e⟩
  cases hc : f.code with
  | nil => rfl
  | cons x r =>
    obtain ⟨b, o, e1, _⟩ := h.k 0 x (by rw [hc]; rfl)
    rw [e] at e1
    cases e1
theorem next_set {C D : List In} {p : Nat} (hC : C.length = p) (hp : p < D.length) (y : In) : (C ++ D.drop p).set p y = (C ++ [y]) ++ D.drop (p + 1) := by
  rw [List.set_append_right _ _ (by omega), hC, Nat.sub_self, List.drop_eq_getElem_cons hp]
  simp only [List.set_cons_zero, List.append_assoc, List.cons_append, List.nil_append]
theorem next_abs {C D : List In} {p : Nat} {x y : In} (h : C.map In.abs = (D.take p).map In.abs) (hx : D[p]? = some x) (hy : y.abs = x.abs) : (C ++ [y]).map In.abs = (D.take (p + 1)).map In.abs := by
  obtain ⟨h1, h2⟩ := List.getElem?_eq_some_iff.1 hx
  rw [List.take_succ_eq_append_getElem h1, List.map_append, List.map_append, h, h2]
  simp [hy]
theorem set6 {w : World} {B n g c : Nat} {L : List In} (h : w.ownsRow B 80 6 (.slice (some ⟨g, 0, none⟩) n c) n (rowI L)) (p : Nat) (hp : p < n) (y : In) :
    ((((((w.setCell ⟨g, p * 6, none⟩ (.int .i64 y.op)).setCell ⟨g, p * 6 + 1, none⟩ (.int .i64 y.a)).setCell ⟨g, p * 6 + 2, none⟩ (.int .i64 y.b)).setCell ⟨g, p * 6 + 3, none⟩ (.int .i64 y.c)).setCell ⟨g, p * 6 + 4, none⟩ (.int .i64 y.k)).setCell ⟨g, p * 6 + 5, none⟩ (.slice y.la y.l.length y.lc)).ownsRow B 80 6 (.slice (some ⟨g, 0, none⟩) n c) n (rowI (L.set p y)) := by
  rw [rowI_set]
  exact own_set (own_set (own_set (own_set (own_set (own_set h _ _ (by omega)) _ _ (by omega)) _ _ (by omega)) _ _ (by omega)) _ _ (by omega)) _ _ (by omega)
/-- How far the copying has come. -/
structure CpI (w wr : World) (f : Fu) (v : Value) (p : Nat) (C : List In) : Prop where
  len : C.length = p
  same : C.map In.abs = (f.code.take p).map In.abs
  row : wr.ownsRow w.heap.size 80 6 v f.code.length (rowI (C ++ f.code.drop p))
  ls : ∀ x ∈ C, OL wr w.heap.size x
  b1 : wr.heap[w.heap.size]? = some (.cells #[.string f.name, .int .i64 f.ps, .int .i64 f.rs, v] 87 (0, 0))
  b2 : wr.heap[w.heap.size + 1]? = some (.cells #[.string ⟨#[]⟩, .int .i64 0, .int .i64 0, .slice none 0 0] 87 (0, 0))
  fr : Fr [] w wr
set_option maxRecDepth 100000 in
set_option maxHeartbeats 8000000 in
theorem copiedFunc_any (w : World) (B : Nat) (f : Fu) (hf : FuOk B w f) (hB : B ≤ w.heap.size) (hn : f.code.length ≤ 2000000) (hl : ∀ x ∈ f.code, x.l.length ≤ 2000000000000) :
    Calls Tryz.prog 76 #[.agg f.arr] w fun e w' => ∃ g : Fu, e = .returned (.agg g.arr) ∧ g.abs = f.abs ∧ g.name = f.name ∧ OC w' w.heap.size g ∧ Fr [] w w' := by
  have f2 : Fr [] w ((w.alloc (.cells f.arr 87)).alloc (.cells #[.string ⟨#[]⟩, .int .i64 0, .int .i64 0, .slice none 0 0] 87)) := ((Fr.refl _ _).alloc _).alloc _
  have b1 : ((w.alloc (.cells f.arr 87)).alloc (.cells #[.string ⟨#[]⟩, .int .i64 0, .int .i64 0, .slice none 0 0] 87)).heap[w.heap.size]? = some (.cells f.arr 87 (0, 0)) := (((Fr.refl [] _).alloc _).block _ (by simp) (by simp)).trans (heap_alloc_new w _)
  have b2 := blk2 w (.cells f.arr 87) (.cells #[.string ⟨#[]⟩, .int .i64 0, .int .i64 0, .slice none 0 0] 87)
  have X2 := hf.fr f2 (by simp)
  have hsz : ((w.alloc (.cells f.arr 87)).alloc (.cells #[.string ⟨#[]⟩, .int .i64 0, .int .i64 0, .slice none 0 0] 87)).heap.size = w.heap.size + 1 + 1 := by simp [World.size_alloc]
  unfold Fu.arr at b1 b2 f2 X2 hsz ⊢
  go_enter Tryz.func76, Tryz.ntmps76
  go_upto_region 1 with fail
  generalize (w.alloc (.cells #[.string f.name, .int .i64 f.ps, .int .i64 f.rs, .slice f.ca f.code.length f.cc] 87)).alloc (.cells #[.string ⟨#[]⟩, .int .i64 0, .int .i64 0, .slice none 0 0] 87) = W at *
  have C := clone130 W f.ca f.code.length f.cc (rowI f.code) (rowI_len _) X2.nn X2.k.row (rowI_one _) (by omega)
  have c3 : W.cell? ⟨w.heap.size, 3, none⟩ = some (.slice f.ca f.code.length f.cc) := at_cells b1 3 rfl
  have HF : Hid (Fr [] w W) := f2
  have HS : Hid (W.heap.size = w.heap.size + 1 + 1) := hsz
  have HX : Hid (FuOk B w f) := hf
  clear hf f2 X2 hsz
  go_wp2_with fail
  with_reducible (refine C.mono ?_)
  rintro e X ⟨v, rfl, ho, f3⟩
  have ho2 : X.ownsRow w.heap.size 80 6 v f.code.length (rowI f.code) := own_low ho (by have := HS.out; omega)
  obtain ⟨va, vc, rfl, _⟩ := own_slice ho
  have B1 := (f3.block _ (Array.getElem?_eq_some_iff.1 b1).1 (by simp)).trans b1
  have B2 := (f3.block _ (Array.getElem?_eq_some_iff.1 b2).1 (by simp)).trans b2
  have c3' : X.cell? ⟨w.heap.size, 3, none⟩ = some _ := at_cells B1 3 rfl
  have z1 : X.frozen? ⟨w.heap.size, 3, none⟩ = false := by simp [World.frozen?, B1]
  have hone : (Value.slice va f.code.length vc).ownBlock ≠ some w.heap.size := fun e => by have := (ho.lt _ e).1; have := HS.out; omega
  have I0 : CpI w (X.setCell ⟨w.heap.size, 3, none⟩ (.slice va f.code.length vc)) f (.slice va f.code.length vc) 0 [] := by
    refine ⟨rfl, by simp, ?_, by simp, set_cells 3 _ B1, (Below.heap_setCell _ _ _ _ (by simp)).trans B2, (HF.out.trans f3).setCell (.inr (by simp)) _⟩
    simp only [List.nil_append, List.drop_zero]
    exact ownsRow_setCell_other ho2 hone _
  have s3 : (X.setCell ⟨w.heap.size, 3, none⟩ (.slice va f.code.length vc)).cell? ⟨w.heap.size, 3, none⟩ = some (.slice va f.code.length vc) := at_cells I0.b1 3 rfl
  have HI0 : Hid (CpI w (X.setCell ⟨w.heap.size, 3, none⟩ (.slice va f.code.length vc)) f (.slice va f.code.length vc) 0 []) := I0
  have hnI : (f.code.length : Int) ≤ 2000000 := by omega
  clear C c3 ho ho2 f3 b1 b2 B1 B2 HF hone I0
  go_upto_region 2 with fail
  generalize X.setCell ⟨w.heap.size, 3, none⟩ (.slice va f.code.length vc) = X1 at *
  clear c3' z1
  go_wp2
  go_loopw [12] (fun i wr => ∃ (p : Nat) (C : List In), p ≤ f.code.length ∧ i = .int .i64 p ∧ Hid (CpI w wr f (.slice va f.code.length vc) p C)) (fun i _ => f.code.length - (intOf i).toNat)
  case atStart => exact ⟨0, [], Nat.zero_le _, rfl, HI0⟩
  case round =>
    obtain ⟨p, C, hp, rfl, I⟩ := hrel
    by_cases hlt : p < f.code.length
    · have hpI : (p : Int) < f.code.length := by omega
      have hx : f.code[p]? = some (f.code[p]) := List.getElem?_eq_getElem _
      have hxm := List.mem_of_getElem? hx
      generalize f.code[p] = x at hx hxm
      have hrow := I.out.row
      have hx2 : (C ++ f.code.drop p)[p]? = some x := by rw [List.getElem?_append_right (by rw [I.out.len]; omega), I.out.len]; simpa using hx
      obtain ⟨g, gc, e1, k0, hz, _⟩ := own_cells hrow (j := p * 6) (x := .int .i64 x.op) (by simpa [In.cl] using rowI_at hx2 0 (by omega))
      cases e1
      obtain ⟨_, _, e1, k1, _⟩ := own_cells hrow (j := p * 6 + 1) (x := .int .i64 x.a) (by simpa [In.cl] using rowI_at hx2 1 (by omega))
      cases e1
      obtain ⟨_, _, e1, k2, _⟩ := own_cells hrow (j := p * 6 + 2) (x := .int .i64 x.b) (by simpa [In.cl] using rowI_at hx2 2 (by omega))
      cases e1
      obtain ⟨_, _, e1, k3, _⟩ := own_cells hrow (j := p * 6 + 3) (x := .int .i64 x.c) (by simpa [In.cl] using rowI_at hx2 3 (by omega))
      cases e1
      obtain ⟨_, _, e1, k4, _⟩ := own_cells hrow (j := p * 6 + 4) (x := .int .i64 x.k) (by simpa [In.cl] using rowI_at hx2 4 (by omega))
      cases e1
      obtain ⟨_, _, e1, k5, _⟩ := own_cells hrow (j := p * 6 + 5) (x := .slice x.la x.l.length x.lc) (by simpa [In.cl] using rowI_at hx2 5 (by omega))
      cases e1
      have HXX : Hid (FuOk B wr f) := HX.out.fr I.out.fr (by simp)
      clear hrow
      have F0 : Fr [] wr (wr.alloc (.cells #[.int .i64 x.op, .int .i64 x.a, .int .i64 x.b, .int .i64 x.c, .int .i64 x.k, .slice x.la x.l.length x.lc] 80)) := (Fr.refl _ _).alloc _
      have n0 := heap_alloc_new wr (.cells #[.int .i64 x.op, .int .i64 x.a, .int .i64 x.b, .int .i64 x.c, .int .i64 x.k, .slice x.la x.l.length x.lc] 80)
      have hxo : InOk B wr x := by obtain ⟨_, _, _, _, hc⟩ := HXX.out.k p x hx; exact hc.ok
      have hg1 : g ≠ w.heap.size := fun e => by
        have := own_ne I.out.row I.out.b1 (by decide)
        rw [← e] at this
        exact this rfl
      have hg2 : g ≠ w.heap.size + 1 := fun e => by
        have := own_ne I.out.row I.out.b2 (by decide)
        rw [← e] at this
        exact this rfl
      have hgl : g < wr.heap.size := World.block_lt_of_cell? wr _ k0
      go_upto_region 5 with fail
      generalize wr.alloc (.cells #[.int .i64 x.op, .int .i64 x.a, .int .i64 x.b, .int .i64 x.c, .int .i64 x.k, .slice x.la x.l.length x.lc] 80) = W5 at *
      have C73 : ∀ w', Fr [] W5 w' → Calls Tryz.prog 73 #[.agg #[.int .i64 x.op, .int .i64 x.a, .int .i64 x.b, .int .i64 x.c, .int .i64 x.k, .slice x.la x.l.length x.lc]] w' (fun e w5 => ∃ y : In, e = .returned (.agg #[.int .i64 y.op, .int .i64 y.a, .int .i64 y.b, .int .i64 y.c, .int .i64 y.k, .slice y.la y.l.length y.lc]) ∧ Hid (y.abs = x.abs) ∧ Hid (OL w5 wr.heap.size y) ∧ Fr [] W5 w5) := fun w' f' => (copiedIns_any w' B x (hxo.fr (F0.trans f') (by simp)) (hl x hxm)).mono fun e w5 ⟨y, h1, h2, h3, h4⟩ => ⟨y, h1, h2, h3.low (F0.trans f').size, f'.trans h4⟩
      have K0 := F0.cell1 k0 (by simp)
      have K1 := F0.cell1 k1 (by simp)
      have K2 := F0.cell1 k2 (by simp)
      have K3 := F0.cell1 k3 (by simp)
      have K4 := F0.cell1 k4 (by simp)
      have K5 := F0.cell1 k5 (by simp)
      have ZZ : ∀ w', Fr [] W5 w' → ∀ i, w'.frozen? ⟨g, i, none⟩ = false := fun w' f' i => by
        have := hz i
        simp only [World.frozen?] at this ⊢
        rw [(F0.trans f').block _ hgl (by simp)]
        exact this
      have S3 : W5.cell? ⟨w.heap.size, 3, none⟩ = some (.slice (some ⟨g, 0, none⟩) f.code.length vc) := F0.cell1 (at_cells I.out.b1 3 rfl) (by simp)
      have m3 : ∀ w', Fr [g] W5 w' → w'.cell? ⟨w.heap.size, 3, none⟩ = some (.slice (some ⟨g, 0, none⟩) f.code.length vc) := fun w' f' => f'.cell1 S3 (by simpa using Ne.symm hg1)
      have hgn : wr.heap.size ≠ g := by omega
      have n0' : ∀ w', Fr [g] W5 w' → w'.cell? ⟨wr.heap.size, 0, none⟩ = some (.int .i64 x.op) := fun w' f' => f'.cell1 (at_cells n0 0 rfl) (by simpa using hgn)
      have n1' : ∀ w', Fr [g] W5 w' → w'.cell? ⟨wr.heap.size, 1, none⟩ = some (.int .i64 x.a) := fun w' f' => f'.cell1 (at_cells n0 1 rfl) (by simpa using hgn)
      have n2' : ∀ w', Fr [g] W5 w' → w'.cell? ⟨wr.heap.size, 2, none⟩ = some (.int .i64 x.b) := fun w' f' => f'.cell1 (at_cells n0 2 rfl) (by simpa using hgn)
      have n3' : ∀ w', Fr [g] W5 w' → w'.cell? ⟨wr.heap.size, 3, none⟩ = some (.int .i64 x.c) := fun w' f' => f'.cell1 (at_cells n0 3 rfl) (by simpa using hgn)
      have n4' : ∀ w', Fr [g] W5 w' → w'.cell? ⟨wr.heap.size, 4, none⟩ = some (.int .i64 x.k) := fun w' f' => f'.cell1 (at_cells n0 4 rfl) (by simpa using hgn)
      have n5' : ∀ w', Fr [g] W5 w' → w'.cell? ⟨wr.heap.size, 5, none⟩ = some (.slice x.la x.l.length x.lc) := fun w' f' => f'.cell1 (at_cells n0 5 rfl) (by simpa using hgn)
      have HS6 : ∀ w', Fr [] W5 w' → ∀ u0 u1 u2 u3 u4 u5, Fr [g] W5 ((((((w'.setCell ⟨g, p * 6, none⟩ u0).setCell ⟨g, p * 6 + 1, none⟩ u1).setCell ⟨g, p * 6 + 2, none⟩ u2).setCell ⟨g, p * 6 + 3, none⟩ u3).setCell ⟨g, p * 6 + 4, none⟩ u4).setCell ⟨g, p * 6 + 5, none⟩ u5) := fun w' f' u0 u1 u2 u3 u4 u5 => ((((((f'.sub (T := [g]) (by simp)).setCell (.inl (by simp)) _).setCell (.inl (by simp)) _).setCell (.inl (by simp)) _).setCell (.inl (by simp)) _).setCell (.inl (by simp)) _).setCell (.inl (by simp)) _
      have RF0 : Fr [] W5 W5 := Fr.refl _ _
      have RF : Fr [g] W5 W5 := Fr.refl _ _
      have HU : ∀ w', Fr [] W5 w' → Fr [g] W5 w' := fun w' h => h.sub (by simp)
      have HD : ∀ w' : World, Fr [g] W5 w' → Fr [g] W5 w'.drew := fun w' h => h.drew
      have HF0 : Hid (Fr [] wr W5) := F0
      have HGL : Hid (g < wr.heap.size ∧ g ≠ w.heap.size ∧ g ≠ w.heap.size + 1) := ⟨hgl, hg1, hg2⟩
      have HX2 : Hid (f.code[p]? = some x) := hx
      clear k0 k1 k2 k3 k4 k5 F0 n0 hxo hg1 hg2 hgl hz hx hx2 hxm S3 HXX hl
      go_wp2_with fail
      go_region_held3 (fun w' : World => Fr [g] W5 w')
        (with_reducible (first | assumption | exact HD _ (by assumption) | exact HU _ (by assumption) | exact HD _ (HU _ (by assumption)) | exact HS6 _ (by assumption) _ _ _ _ _ _ | exact HD _ (HS6 _ (by assumption) _ _ _ _ _ _)))
        (first
          | (go_at_call 73; with_reducible (refine (C73 _ (by first | exact RF0 | exact RF0.drew)).mono ?_); rintro e w5 ⟨y, rfl, hy, hoy, F5⟩; have Q0 := F5.cell1 K0 (by simp); have Q1 := F5.cell1 K1 (by simp); have Q2 := F5.cell1 K2 (by simp); have Q3 := F5.cell1 K3 (by simp); have Q4 := F5.cell1 K4 (by simp); have Q5 := F5.cell1 K5 (by simp); have QZ := ZZ _ F5))
      all_goals
        have FW : Hid (Fr [] wr w5) := HF0.out.trans F5
        clear C73 K0 K1 K2 K3 K4 K5 ZZ m3 n0' n1' n2' n3' n4' n5' HS6 RF0 RF HU HD F5 Q0 Q1 Q2 Q3 Q4 Q5 QZ
        go_wp2
        go_roundw
        case rel =>
          refine ⟨p + 1, C ++ [y], hlt, by go_num, ?_⟩
          have I5 := I.out
          have row5 := set6 (own_fr I5.row FW.out (by simp)) p hlt y
          rw [next_set I5.len hlt] at row5
          have fr6 : Fr [g] w5 ((((((w5.setCell ⟨g, p * 6, none⟩ (.int .i64 y.op)).setCell ⟨g, p * 6 + 1, none⟩ (.int .i64 y.a)).setCell ⟨g, p * 6 + 2, none⟩ (.int .i64 y.b)).setCell ⟨g, p * 6 + 3, none⟩ (.int .i64 y.c)).setCell ⟨g, p * 6 + 4, none⟩ (.int .i64 y.k)).setCell ⟨g, p * 6 + 5, none⟩ (.slice y.la y.l.length y.lc)) := (((((((Fr.refl _ _).setCell (.inl (by simp)) _).setCell (.inl (by simp)) _).setCell (.inl (by simp)) _).setCell (.inl (by simp)) _).setCell (.inl (by simp)) _).setCell (.inl (by simp)) _)
          have hgb : ∃ cur, w5.heap[g]? = some (.cells cur 80 (0, 0)) := by
            rcases (own_fr I5.row FW.out (by simp)).2 with ⟨e1, _⟩ | ⟨g', cap, cur, e1, _, hgg, _⟩
            · cases e1
            · cases e1; exact ⟨cur, hgg⟩
          obtain ⟨cur, hcur⟩ := hgb
          have hol : ∀ z, OL w5 w.heap.size z → ∀ j, (Value.slice z.la z.l.length z.lc).ownBlock = some j → j ∉ [g] := fun z hzz j hj hm => by
            simp at hm
            subst hm
            exact own_ne hzz hcur (by decide) hj
          have oly : OL w5 w.heap.size y := hoy.out.low I5.fr.size
          unfold Hid
          refine ⟨by simp [I5.len], next_abs I5.same HX2.out hy.out, row5, ?_, ?_, ?_, ?_⟩
          · intro z hzm
            rw [List.mem_append] at hzm
            rcases hzm with hzm | hzm
            · have h1 : OL w5 w.heap.size z := (I5.ls z hzm).fr FW.out (by simp)
              exact h1.fr fr6 (hol z h1)
            · simp at hzm
              subst hzm
              exact oly.fr fr6 (hol z oly)
          · exact (fr6.block _ (by have := I5.fr.size; have := FW.out.size; have := (Array.getElem?_eq_some_iff.1 I5.b1).1; omega) (by simpa using Ne.symm HGL.out.2.1)).trans ((FW.out.block _ (Array.getElem?_eq_some_iff.1 I5.b1).1 (by simp)).trans I5.b1)
          · exact (fr6.block _ (by have := I5.fr.size; have := FW.out.size; have := (Array.getElem?_eq_some_iff.1 I5.b2).1; omega) (by simpa using Ne.symm HGL.out.2.2)).trans ((FW.out.block _ (Array.getElem?_eq_some_iff.1 I5.b2).1 (by simp)).trans I5.b2)
          · exact (((I5.fr.trans FW.out).sub (T := [g]) (by simp)).trans fr6).sub (fun k hk => .inr (by
              simp at hk
              subst hk
              exact (I5.row.lt k rfl).1))
        case measure => simp [intOf]; omega
    · obtain rfl : p = f.code.length := by omega
      have I5 := I.out
      have c0 : wr.cell? ⟨w.heap.size, 0, none⟩ = some _ := at_cells I5.b1 0 rfl
      have c1 : wr.cell? ⟨w.heap.size, 1, none⟩ = some _ := at_cells I5.b1 1 rfl
      have c2 : wr.cell? ⟨w.heap.size, 2, none⟩ = some _ := at_cells I5.b1 2 rfl
      have c3 : wr.cell? ⟨w.heap.size, 3, none⟩ = some _ := at_cells I5.b1 3 rfl
      have d0 : wr.cell? ⟨w.heap.size + 1, 0, none⟩ = some _ := at_cells I5.b2 0 rfl
      have d1 : wr.cell? ⟨w.heap.size + 1, 1, none⟩ = some _ := at_cells I5.b2 1 rfl
      have d2 : wr.cell? ⟨w.heap.size + 1, 2, none⟩ = some _ := at_cells I5.b2 2 rfl
      have d3 : wr.cell? ⟨w.heap.size + 1, 3, none⟩ = some _ := at_cells I5.b2 3 rfl
      have z2 : ∀ i, wr.frozen? ⟨w.heap.size + 1, i, none⟩ = false := fun i => by simp [World.frozen?, I5.b2]
      have hres := set_cells 3 (.slice va f.code.length vc) (set_cells 2 (.int .i64 f.rs) (set_cells 1 (.int .i64 f.ps) (set_cells 0 (.string f.name) I5.b2)))
      have hCl : Hid (C.length = f.code.length) := I5.len
      clear I5
      go_wp2
      have I5 := I.out
      refine bodyPost_ret (results_cell_row (by rfl) _ _ (w.heap.size + 1) 87 _ (0, 0) _ rfl hres Tryz.underlying87 rfl (by kernel_rfl)) rfl ⟨⟨f.name, f.ps, f.rs, va, vc, C⟩, ?_, ?_, rfl, ⟨?_, ?_⟩, ?_⟩
      · simp only [hCl.out]; rfl
      · simp only [Fu.abs, I5.same, List.take_length]
      · have h := I5.row
        rw [List.drop_length, List.append_nil] at h
        have hk : (Value.slice va f.code.length vc).ownBlock ≠ some (w.heap.size + 1) := own_ne h I5.b2 (by decide)
        show World.ownsRow _ _ _ _ (.slice va C.length vc) C.length (rowI C)
        rw [hCl.out]
        exact ownsRow_setCell_other (ownsRow_setCell_other (ownsRow_setCell_other (ownsRow_setCell_other h hk _) hk _) hk _) hk _
      · intro z hz
        have h := I5.ls z hz
        have hk : (Value.slice z.la z.l.length z.lc).ownBlock ≠ some (w.heap.size + 1) := own_ne h I5.b2 (by decide)
        exact ownsRow_setCell_other (ownsRow_setCell_other (ownsRow_setCell_other (ownsRow_setCell_other h hk _) hk _) hk _) hk _
      · exact (((I5.fr.setCell (.inr (by simp)) _).setCell (.inr (by simp)) _).setCell (.inr (by simp)) _).setCell (.inr (by simp)) _
end Go.Proofs.YtkjkpkmmojchiaaGreatDoor

namespace Go.Proofs.YtkjkpkmmojchiaaGreatDoor
open Go.RowKit
set_option linter.unusedVariables false
set_option linter.unusedSimpArgs false

def Fu.cl (x : Fu) : List Value := [.string x.name, .int .i64 x.ps, .int .i64 x.rs, .slice x.ca x.code.length x.cc]
def rowF (L : List Fu) : List Value := L.flatMap Fu.cl
theorem rowF_at : ∀ {L : List Fu} {i : Nat} {x : Fu}, L[i]? = some x → ∀ j, j < 4 → (rowF L)[i * 4 + j]? = x.cl[j]?
  | [], i, x, h, j, hj => by simp at h
  | p :: L, 0, x, h, j, hj => by
    simp at h
    subst h
    unfold rowF
    rw [List.flatMap_cons, Nat.zero_mul, Nat.zero_add, List.getElem?_append_left (by simp [Fu.cl]; exact hj)]
  | p :: L, i + 1, x, h, j, hj => by
    have ih := rowF_at (L := L) (i := i) (x := x) (by simpa using h) j hj
    unfold rowF at ih ⊢
    rw [List.flatMap_cons, List.getElem?_append_right (by simp [Fu.cl]; omega), ← ih]
    congr 1
    simp [Fu.cl]
    omega
theorem rowF_len (L : List Fu) : (rowF L).length = L.length * 4 := by
  induction L with
  | nil => rfl
  | cons p L ih => unfold rowF at ih ⊢; rw [List.flatMap_cons, List.length_append, ih]; simp [Fu.cl]; omega
theorem rowF_set : ∀ {L : List Fu} {i : Nat} (y : Fu), rowF (L.set i y) = ((((rowF L).set (i * 4) (.string y.name)).set (i * 4 + 1) (.int .i64 y.ps)).set (i * 4 + 2) (.int .i64 y.rs)).set (i * 4 + 3) (.slice y.ca y.code.length y.cc)
  | [], i, y => by simp [rowF]
  | p :: L, 0, y => by simp [rowF, Fu.cl]
  | p :: L, i + 1, y => by
    have ih := rowF_set (L := L) (i := i) y
    unfold rowF at ih ⊢
    rw [show (i + 1) * 4 = i * 4 + 4 by omega]
    simp only [List.set_cons_succ, List.flatMap_cons, Fu.cl, List.cons_append, List.nil_append, ih]
theorem oneF (x : Fu) : ∀ u ∈ x.cl, u.oneCell' = true := by
  intro u hu
  simp [Fu.cl] at hu
  rcases hu with rfl | rfl | rfl | rfl <;> rfl
theorem rowF_one (L : List Fu) : ∀ u ∈ rowF L, u.oneCell' = true := by
  intro u hu
  obtain ⟨x, _, hx⟩ := List.mem_flatMap.1 hu
  exact oneF x u hx
theorem FAt.row {B : Nat} {w : World} {a : Option Addr} {L : List Fu} (h : FAt B w a L) : Row w a (rowF L) := by
  intro ad ha j u hu
  have hj := (List.getElem?_eq_some_iff.1 hu).1
  rw [rowF_len] at hj
  have hi : L[j / 4]? = some (L[j / 4]'(by omega)) := List.getElem?_eq_getElem _
  generalize L[j / 4]'(by omega) = x at hi
  have e := rowF_at hi (j % 4) (by omega)
  rw [show j / 4 * 4 + j % 4 = j by omega, hu] at e
  obtain ⟨b, o, e1, hb, hc⟩ := h _ x hi
  rw [ha] at e1
  injection e1 with e1
  subst e1
  rw [Addr.add_lit]
  have hm : j % 4 < 4 := Nat.mod_lt _ (by omega)
  have hd : o + j = o + j / 4 * 4 + j % 4 := by omega
  rw [hd]
  generalize j % 4 = q at *
  match q, hm, e with
  | 0, _, e => simp [Fu.cl] at e; subst e; exact hc.c0
  | 1, _, e => simp [Fu.cl] at e; subst e; exact hc.c1
  | 2, _, e => simp [Fu.cl] at e; subst e; exact hc.c2
  | 3, _, e => simp [Fu.cl] at e; subst e; exact hc.c3
theorem nextF_set {C D : List Fu} {p : Nat} (hC : C.length = p) (hp : p < D.length) (y : Fu) : (C ++ D.drop p).set p y = (C ++ [y]) ++ D.drop (p + 1) := by
  rw [List.set_append_right _ _ (by omega), hC, Nat.sub_self, List.drop_eq_getElem_cons hp]
  simp only [List.set_cons_zero, List.append_assoc, List.cons_append, List.nil_append]
theorem nextF_abs {C D : List Fu} {p : Nat} {x y : Fu} (h : C.map Fu.abs = (D.take p).map Fu.abs) (hx : D[p]? = some x) (hy : y.abs = x.abs) : (C ++ [y]).map Fu.abs = (D.take (p + 1)).map Fu.abs := by
  obtain ⟨h1, h2⟩ := List.getElem?_eq_some_iff.1 hx
  rw [List.take_succ_eq_append_getElem h1, List.map_append, List.map_append, h, h2]
  simp [hy]
theorem set4 {w : World} {B n g c : Nat} {L : List Fu} (h : w.ownsRow B 87 4 (.slice (some ⟨g, 0, none⟩) n c) n (rowF L)) (p : Nat) (hp : p < n) (y : Fu) :
    ((((w.setCell ⟨g, p * 4, none⟩ (.string y.name)).setCell ⟨g, p * 4 + 1, none⟩ (.int .i64 y.ps)).setCell ⟨g, p * 4 + 2, none⟩ (.int .i64 y.rs)).setCell ⟨g, p * 4 + 3, none⟩ (.slice y.ca y.code.length y.cc)).ownsRow B 87 4 (.slice (some ⟨g, 0, none⟩) n c) n (rowF (L.set p y)) := by
  rw [rowF_set]
  exact own_set (own_set (own_set (own_set h _ _ (by omega)) _ _ (by omega)) _ _ (by omega)) _ _ (by omega)
/-- How far the copying has come. -/
structure CpF (w wr : World) (F : List Fu) (mn mg : Int) (v : Value) (p : Nat) (C : List Fu) : Prop where
  len : C.length = p
  same : C.map Fu.abs = (F.take p).map Fu.abs
  row : wr.ownsRow w.heap.size 87 4 v F.length (rowF (C ++ F.drop p))
  ls : ∀ x ∈ C, OC wr w.heap.size x
  nm : ∀ x ∈ C, ∃ y ∈ F, x.name = y.name
  b1 : wr.heap[w.heap.size]? = some (.cells #[v, .int .i64 mn, .int .i64 mg] 24 (0, 0))
  b2 : wr.heap[w.heap.size + 1]? = some (.cells #[.slice none 0 0, .int .i64 0, .int .i64 0] 24 (0, 0))
  fr : Fr [] w wr
theorem FAt.nn {B : Nat} {w : World} {a : Option Addr} {F : List Fu} (h : FAt B w a F) (e : a = none) : F.length = 0 := by
  cases hc : F with
  | nil => rfl
  | cons x r =>
    obtain ⟨b, o, e1, _⟩ := h 0 x (by rw [hc]; rfl)
    rw [e] at e1
    cases e1
theorem OC.keep {w w' : World} {B g : Nat} {f : Fu} {cur : Array Value} (h : OC w B f) (k : Fr [g] w w') (hg : w.heap[g]? = some (.cells cur 87 (0, 0))) : OC w' B f :=
  ⟨own_fr h.row k (fun j hj hm => by simp at hm; subst hm; exact own_ne h.row hg (by decide) hj), fun x hx => (h.ls x hx).fr k (fun j hj hm => by simp at hm; subst hm; exact own_ne (h.ls x hx) hg (by decide) hj)⟩
end Go.Proofs.YtkjkpkmmojchiaaGreatDoor

namespace Go.Proofs.YtkjkpkmmojchiaaGreatDoor
open Go.RowKit
set_option linter.unusedVariables false
set_option linter.unusedSimpArgs false

set_option maxRecDepth 100000 in
set_option maxHeartbeats 8000000 in
theorem copiedCode_any (w : World) (B : Nat) (F : List Fu) (fa : Option Addr) (fc : Nat) (mn mg : Int) (hf : FAt B w fa F) (hnn : fa = none → fc = 0) (hB : B ≤ w.heap.size) (hn : F.length ≤ 2000000) (hk : ∀ u ∈ F, u.code.length ≤ 2000000) (hl : ∀ f ∈ F, ∀ x ∈ f.code, x.l.length ≤ 2000000000000) :
    Calls Tryz.prog 53 #[.agg #[.slice fa F.length fc, .int .i64 mn, .int .i64 mg]] w fun e w' => ∃ (F' : List Fu) (a : Option Addr) (c : Nat), e = .returned (.agg #[.slice a F.length c, .int .i64 mn, .int .i64 mg]) ∧ F'.map Fu.abs = F.map Fu.abs ∧ w'.ownsRow w.heap.size 87 4 (.slice a F.length c) F.length (rowF F') ∧ (∀ x ∈ F', OC w' w.heap.size x) ∧ (∀ x ∈ F', ∃ y ∈ F, x.name = y.name) ∧ Fr [] w w' := by
  have f2 : Fr [] w ((w.alloc (.cells #[.slice fa F.length fc, .int .i64 mn, .int .i64 mg] 24)).alloc (.cells #[.slice none 0 0, .int .i64 0, .int .i64 0] 24)) := ((Fr.refl _ _).alloc _).alloc _
  have b1 : ((w.alloc (.cells #[.slice fa F.length fc, .int .i64 mn, .int .i64 mg] 24)).alloc (.cells #[.slice none 0 0, .int .i64 0, .int .i64 0] 24)).heap[w.heap.size]? = some (.cells #[.slice fa F.length fc, .int .i64 mn, .int .i64 mg] 24 (0, 0)) := (((Fr.refl [] _).alloc _).block _ (by simp) (by simp)).trans (heap_alloc_new w _)
  have b2 := blk2 w (.cells #[.slice fa F.length fc, .int .i64 mn, .int .i64 mg] 24) (.cells #[.slice none 0 0, .int .i64 0, .int .i64 0] 24)
  have X2 := hf.fr f2 (by simp)
  have hsz : ((w.alloc (.cells #[.slice fa F.length fc, .int .i64 mn, .int .i64 mg] 24)).alloc (.cells #[.slice none 0 0, .int .i64 0, .int .i64 0] 24)).heap.size = w.heap.size + 1 + 1 := by simp [World.size_alloc]
  go_enter Tryz.func53, Tryz.ntmps53
  go_upto_region 1 with fail
  generalize (w.alloc (.cells #[.slice fa F.length fc, .int .i64 mn, .int .i64 mg] 24)).alloc (.cells #[.slice none 0 0, .int .i64 0, .int .i64 0] 24) = W at *
  have C := clone114 W fa F.length fc (rowF F) (rowF_len _) (fun e => ⟨X2.nn e, hnn e⟩) X2.row (rowF_one _) (by omega)
  have c3 : W.cell? ⟨w.heap.size, 0, none⟩ = some (.slice fa F.length fc) := at_cells b1 0 rfl
  have HF : Hid (Fr [] w W) := f2
  have HS : Hid (W.heap.size = w.heap.size + 1 + 1) := hsz
  have HX : Hid (FAt B w fa F) := hf
  clear hf f2 X2 hsz
  go_wp2_with fail
  with_reducible (refine C.mono ?_)
  rintro e X ⟨v, rfl, ho, f3⟩
  have ho2 : X.ownsRow w.heap.size 87 4 v F.length (rowF F) := own_low ho (by have := HS.out; omega)
  obtain ⟨va, vc, rfl, _⟩ := own_slice ho
  have B1 := (f3.block _ (Array.getElem?_eq_some_iff.1 b1).1 (by simp)).trans b1
  have B2 := (f3.block _ (Array.getElem?_eq_some_iff.1 b2).1 (by simp)).trans b2
  have c3' : X.cell? ⟨w.heap.size, 0, none⟩ = some _ := at_cells B1 0 rfl
  have z1 : X.frozen? ⟨w.heap.size, 0, none⟩ = false := by simp [World.frozen?, B1]
  have hone : (Value.slice va F.length vc).ownBlock ≠ some w.heap.size := fun e => by have := (ho.lt _ e).1; have := HS.out; omega
  have I0 : CpF w (X.setCell ⟨w.heap.size, 0, none⟩ (.slice va F.length vc)) F mn mg (.slice va F.length vc) 0 [] := by
    refine ⟨rfl, by simp, ?_, by simp, by simp, set_cells 0 _ B1, (Below.heap_setCell _ _ _ _ (by simp)).trans B2, (HF.out.trans f3).setCell (.inr (by simp)) _⟩
    simp only [List.nil_append, List.drop_zero]
    exact ownsRow_setCell_other ho2 hone _
  have s3 : (X.setCell ⟨w.heap.size, 0, none⟩ (.slice va F.length vc)).cell? ⟨w.heap.size, 0, none⟩ = some (.slice va F.length vc) := at_cells I0.b1 0 rfl
  have HI0 : Hid (CpF w (X.setCell ⟨w.heap.size, 0, none⟩ (.slice va F.length vc)) F mn mg (.slice va F.length vc) 0 []) := I0
  have hnI : (F.length : Int) ≤ 2000000 := by omega
  clear C c3 ho ho2 f3 b1 b2 B1 B2 HF hone I0
  go_upto_region 2 with fail
  generalize X.setCell ⟨w.heap.size, 0, none⟩ (.slice va F.length vc) = X1 at *
  clear c3' z1
  go_wp2
  go_loopw [12] (fun i wr => ∃ (p : Nat) (C : List Fu), p ≤ F.length ∧ i = .int .i64 p ∧ Hid (CpF w wr F mn mg (.slice va F.length vc) p C)) (fun i _ => F.length - (intOf i).toNat)
  case atStart => exact ⟨0, [], Nat.zero_le _, rfl, HI0⟩
  case round =>
    obtain ⟨p, C, hp, rfl, I⟩ := hrel
    by_cases hlt : p < F.length
    · have hpI : (p : Int) < F.length := by omega
      have hx : F[p]? = some (F[p]) := List.getElem?_eq_getElem _
      have hxm := List.mem_of_getElem? hx
      generalize F[p] = x at hx hxm
      have hrow := I.out.row
      have hx2 : (C ++ F.drop p)[p]? = some x := by rw [List.getElem?_append_right (by rw [I.out.len]; omega), I.out.len]; simpa using hx
      obtain ⟨g, gc, e1, k0, hz, _⟩ := own_cells hrow (j := p * 4) (x := .string x.name) (by simpa [Fu.cl] using rowF_at hx2 0 (by omega))
      cases e1
      obtain ⟨_, _, e1, k1, _⟩ := own_cells hrow (j := p * 4 + 1) (x := .int .i64 x.ps) (by simpa [Fu.cl] using rowF_at hx2 1 (by omega))
      cases e1
      obtain ⟨_, _, e1, k2, _⟩ := own_cells hrow (j := p * 4 + 2) (x := .int .i64 x.rs) (by simpa [Fu.cl] using rowF_at hx2 2 (by omega))
      cases e1
      obtain ⟨_, _, e1, k3, _⟩ := own_cells hrow (j := p * 4 + 3) (x := .slice x.ca x.code.length x.cc) (by simpa [Fu.cl] using rowF_at hx2 3 (by omega))
      cases e1
      have HXX : Hid (FAt B wr fa F) := HX.out.fr I.out.fr (by simp)
      clear hrow
      have F0 : Fr [] wr (wr.alloc (.cells #[.string x.name, .int .i64 x.ps, .int .i64 x.rs, .slice x.ca x.code.length x.cc] 87)) := (Fr.refl _ _).alloc _
      have n0 := heap_alloc_new wr (.cells #[.string x.name, .int .i64 x.ps, .int .i64 x.rs, .slice x.ca x.code.length x.cc] 87)
      have hxo : FuOk B wr x := by obtain ⟨_, _, _, _, hc⟩ := HXX.out p x hx; exact hc.ok
      have hg1 : g ≠ w.heap.size := fun e => by
        have := own_ne I.out.row I.out.b1 (by decide)
        rw [← e] at this
        exact this rfl
      have hg2 : g ≠ w.heap.size + 1 := fun e => by
        have := own_ne I.out.row I.out.b2 (by decide)
        rw [← e] at this
        exact this rfl
      have hgl : g < wr.heap.size := World.block_lt_of_cell? wr _ k0
      go_upto_region 5 with fail
      generalize wr.alloc (.cells #[.string x.name, .int .i64 x.ps, .int .i64 x.rs, .slice x.ca x.code.length x.cc] 87) = W5 at *
      have C73 : ∀ w', Fr [] W5 w' → Calls Tryz.prog 76 #[.agg #[.string x.name, .int .i64 x.ps, .int .i64 x.rs, .slice x.ca x.code.length x.cc]] w' (fun e w5 => ∃ y : Fu, e = .returned (.agg #[.string y.name, .int .i64 y.ps, .int .i64 y.rs, .slice y.ca y.code.length y.cc]) ∧ Hid (y.abs = x.abs ∧ y.name = x.name) ∧ Hid (OC w5 wr.heap.size y) ∧ Fr [] W5 w5) := fun w' f' => (copiedFunc_any w' B x (hxo.fr (F0.trans f') (by simp)) (Nat.le_trans hB (Nat.le_trans I.out.fr.size (F0.trans f').size)) (hk x hxm) (hl x hxm)).mono fun e w5 ⟨y, h1, h2, h2', h3, h4⟩ => ⟨y, h1, ⟨h2, h2'⟩, h3.low (F0.trans f').size, f'.trans h4⟩
      have K0 := F0.cell1 k0 (by simp)
      have K1 := F0.cell1 k1 (by simp)
      have K2 := F0.cell1 k2 (by simp)
      have K3 := F0.cell1 k3 (by simp)
      have ZZ : ∀ w', Fr [] W5 w' → ∀ i, w'.frozen? ⟨g, i, none⟩ = false := fun w' f' i => by
        have := hz i
        simp only [World.frozen?] at this ⊢
        rw [(F0.trans f').block _ hgl (by simp)]
        exact this
      have S3 : W5.cell? ⟨w.heap.size, 0, none⟩ = some (.slice (some ⟨g, 0, none⟩) F.length vc) := F0.cell1 (at_cells I.out.b1 0 rfl) (by simp)
      have m3 : ∀ w', Fr [g] W5 w' → w'.cell? ⟨w.heap.size, 0, none⟩ = some (.slice (some ⟨g, 0, none⟩) F.length vc) := fun w' f' => f'.cell1 S3 (by simpa using Ne.symm hg1)
      have hgn : wr.heap.size ≠ g := by omega
      have n0' : ∀ w', Fr [g] W5 w' → w'.cell? ⟨wr.heap.size, 0, none⟩ = some (.string x.name) := fun w' f' => f'.cell1 (at_cells n0 0 rfl) (by simpa using hgn)
      have n1' : ∀ w', Fr [g] W5 w' → w'.cell? ⟨wr.heap.size, 1, none⟩ = some (.int .i64 x.ps) := fun w' f' => f'.cell1 (at_cells n0 1 rfl) (by simpa using hgn)
      have n2' : ∀ w', Fr [g] W5 w' → w'.cell? ⟨wr.heap.size, 2, none⟩ = some (.int .i64 x.rs) := fun w' f' => f'.cell1 (at_cells n0 2 rfl) (by simpa using hgn)
      have n3' : ∀ w', Fr [g] W5 w' → w'.cell? ⟨wr.heap.size, 3, none⟩ = some (.slice x.ca x.code.length x.cc) := fun w' f' => f'.cell1 (at_cells n0 3 rfl) (by simpa using hgn)
      have HS6 : ∀ w', Fr [] W5 w' → ∀ u0 u1 u2 u3, Fr [g] W5 ((((w'.setCell ⟨g, p * 4, none⟩ u0).setCell ⟨g, p * 4 + 1, none⟩ u1).setCell ⟨g, p * 4 + 2, none⟩ u2).setCell ⟨g, p * 4 + 3, none⟩ u3) := fun w' f' u0 u1 u2 u3 => ((((f'.sub (T := [g]) (by simp)).setCell (.inl (by simp)) _).setCell (.inl (by simp)) _).setCell (.inl (by simp)) _).setCell (.inl (by simp)) _
      have RF0 : Fr [] W5 W5 := Fr.refl _ _
      have RF : Fr [g] W5 W5 := Fr.refl _ _
      have HU : ∀ w', Fr [] W5 w' → Fr [g] W5 w' := fun w' h => h.sub (by simp)
      have HD : ∀ w' : World, Fr [g] W5 w' → Fr [g] W5 w'.drew := fun w' h => h.drew
      have HF0 : Hid (Fr [] wr W5) := F0
      have HGL : Hid (g < wr.heap.size ∧ g ≠ w.heap.size ∧ g ≠ w.heap.size + 1) := ⟨hgl, hg1, hg2⟩
      have HX2 : Hid (F[p]? = some x) := hx
      have HXM : Hid (x ∈ F) := hxm
      clear k0 k1 k2 k3 F0 n0 hxo hg1 hg2 hgl hz hx hx2 hxm S3 HXX
      go_wp2_with fail
      go_region_held3 (fun w' : World => Fr [g] W5 w')
        (with_reducible (first | assumption | exact HD _ (by assumption) | exact HU _ (by assumption) | exact HD _ (HU _ (by assumption)) | exact HS6 _ (by assumption) _ _ _ _ | exact HD _ (HS6 _ (by assumption) _ _ _ _)))
        (first
          | (go_at_call 76; with_reducible (refine (C73 _ (by first | exact RF0 | exact RF0.drew)).mono ?_); rintro e w5 ⟨y, rfl, hy, hoy, F5⟩; have Q0 := F5.cell1 K0 (by simp); have Q1 := F5.cell1 K1 (by simp); have Q2 := F5.cell1 K2 (by simp); have Q3 := F5.cell1 K3 (by simp); have QZ := ZZ _ F5))
      all_goals
        have FW : Hid (Fr [] wr w5) := HF0.out.trans F5
        clear C73 K0 K1 K2 K3 ZZ m3 n0' n1' n2' n3' HS6 RF0 RF HU HD F5 Q0 Q1 Q2 Q3 QZ
        go_wp2
        go_roundw
        case rel =>
          refine ⟨p + 1, C ++ [y], hlt, by go_num, ?_⟩
          have I5 := I.out
          have row5 := set4 (own_fr I5.row FW.out (by simp)) p hlt y
          rw [nextF_set I5.len hlt] at row5
          have fr6 : Fr [g] w5 ((((w5.setCell ⟨g, p * 4, none⟩ (.string y.name)).setCell ⟨g, p * 4 + 1, none⟩ (.int .i64 y.ps)).setCell ⟨g, p * 4 + 2, none⟩ (.int .i64 y.rs)).setCell ⟨g, p * 4 + 3, none⟩ (.slice y.ca y.code.length y.cc)) := (((((Fr.refl _ _).setCell (.inl (by simp)) _).setCell (.inl (by simp)) _).setCell (.inl (by simp)) _).setCell (.inl (by simp)) _)
          have hgb : ∃ cur, w5.heap[g]? = some (.cells cur 87 (0, 0)) := by
            rcases (own_fr I5.row FW.out (by simp)).2 with ⟨e1, _⟩ | ⟨g', cap, cur, e1, _, hgg, _⟩
            · cases e1
            · cases e1; exact ⟨cur, hgg⟩
          obtain ⟨cur, hcur⟩ := hgb
          have oly : OC w5 w.heap.size y := hoy.out.low I5.fr.size
          unfold Hid
          refine ⟨by simp [I5.len], nextF_abs I5.same HX2.out hy.out.1, row5, ?_, ?_, ?_, ?_, ?_⟩
          · intro z hzm
            rw [List.mem_append] at hzm
            rcases hzm with hzm | hzm
            · have h1 : OC w5 w.heap.size z := (I5.ls z hzm).fr FW.out (by simp)
              exact h1.keep fr6 hcur
            · simp at hzm
              subst hzm
              exact oly.keep fr6 hcur
          · intro z hzm
            rw [List.mem_append] at hzm
            rcases hzm with hzm | hzm
            · exact I5.nm z hzm
            · simp at hzm
              subst hzm
              exact ⟨x, HXM.out, hy.out.2⟩
          · exact (fr6.block _ (by have := I5.fr.size; have := FW.out.size; have := (Array.getElem?_eq_some_iff.1 I5.b1).1; omega) (by simpa using Ne.symm HGL.out.2.1)).trans ((FW.out.block _ (Array.getElem?_eq_some_iff.1 I5.b1).1 (by simp)).trans I5.b1)
          · exact (fr6.block _ (by have := I5.fr.size; have := FW.out.size; have := (Array.getElem?_eq_some_iff.1 I5.b2).1; omega) (by simpa using Ne.symm HGL.out.2.2)).trans ((FW.out.block _ (Array.getElem?_eq_some_iff.1 I5.b2).1 (by simp)).trans I5.b2)
          · exact (((I5.fr.trans FW.out).sub (T := [g]) (by simp)).trans fr6).sub (fun k hk => .inr (by
              simp at hk
              subst hk
              exact (I5.row.lt k rfl).1))
        case measure => simp [intOf]; omega
    · obtain rfl : p = F.length := by omega
      have I5 := I.out
      have c0 : wr.cell? ⟨w.heap.size, 0, none⟩ = some _ := at_cells I5.b1 0 rfl
      have c1 : wr.cell? ⟨w.heap.size, 1, none⟩ = some _ := at_cells I5.b1 1 rfl
      have c2 : wr.cell? ⟨w.heap.size, 2, none⟩ = some _ := at_cells I5.b1 2 rfl
      have d0 : wr.cell? ⟨w.heap.size + 1, 0, none⟩ = some _ := at_cells I5.b2 0 rfl
      have d1 : wr.cell? ⟨w.heap.size + 1, 1, none⟩ = some _ := at_cells I5.b2 1 rfl
      have d2 : wr.cell? ⟨w.heap.size + 1, 2, none⟩ = some _ := at_cells I5.b2 2 rfl
      have z2 : ∀ i, wr.frozen? ⟨w.heap.size + 1, i, none⟩ = false := fun i => by simp [World.frozen?, I5.b2]
      have hres := set_cells 2 (.int .i64 mg) (set_cells 1 (.int .i64 mn) (set_cells 0 (.slice va F.length vc) I5.b2))
      have hCl : Hid (C.length = F.length) := I5.len
      clear I5
      go_wp2
      have I5 := I.out
      refine bodyPost_ret (results_cell_row (by rfl) _ _ (w.heap.size + 1) 24 _ (0, 0) _ rfl hres Tryz.underlying24 rfl (by kernel_rfl)) rfl ⟨C, va, vc, rfl, ?_, ?_, ?_, I5.nm, ?_⟩
      · have := I5.same
        rw [List.take_length] at this
        exact this
      · have h := I5.row
        rw [List.drop_length, List.append_nil] at h
        have hk : (Value.slice va F.length vc).ownBlock ≠ some (w.heap.size + 1) := own_ne h I5.b2 (by decide)
        exact ownsRow_setCell_other (ownsRow_setCell_other (ownsRow_setCell_other h hk _) hk _) hk _
      · intro z hz
        have h := I5.ls z hz
        have fr3 : Fr [w.heap.size + 1] wr (((wr.setCell ⟨w.heap.size + 1, 0, none⟩ (.slice va F.length vc)).setCell ⟨w.heap.size + 1, 1, none⟩ (.int .i64 mn)).setCell ⟨w.heap.size + 1, 2, none⟩ (.int .i64 mg)) := ((((Fr.refl _ _).setCell (.inl (by simp)) _).setCell (.inl (by simp)) _).setCell (.inl (by simp)) _)
        exact ⟨own_fr h.row fr3 (fun j hj hm => by simp at hm; subst hm; exact own_ne h.row I5.b2 (by decide) hj), fun x hx => (h.ls x hx).fr fr3 (fun j hj hm => by simp at hm; subst hm; exact own_ne (h.ls x hx) I5.b2 (by decide) hj)⟩
      · exact ((I5.fr.setCell (.inr (by simp)) _).setCell (.inr (by simp)) _).setCell (.inr (by simp)) _
end Go.Proofs.YtkjkpkmmojchiaaGreatDoor
