/-
  HeapApart returns true, and writes to nothing that was there, told of values and worlds; condition: the cells of its list can be read.
-/
import Derived.Test.YtndjoklinccfjaaHeapQ
import Derived.Test.YtndjoklinccfjaaHeapN
namespace Go.Proofs.Ytndjoklinccfjaa
open Go.RowKit

/-- Cells that hold their values. -/
def Cs (L : List ((Nat × Nat) × Value)) (w : World) : Prop := ∀ p, p ∈ L → w.cell? ⟨p.1.1, p.1.2, none⟩ = some p.2

theorem Cs.fr {L : List ((Nat × Nat) × Value)} {S : List Nat} {w w' : World} (h : Cs L w) (f : Fr S w w') (hS : ∀ p, p ∈ L → p.1.1 ∉ S) : Cs L w' := by
  intro p hp
  have hc := h p hp
  have hlt := World.block_lt_of_cell? w _ hc
  rw [World.cell?_of_block (w := w) (f.block _ hlt (hS p hp))]
  exact hc
theorem Cs.drew {L : List ((Nat × Nat) × Value)} {w : World} (h : Cs L w) : Cs L w.drew := h.fr (Fr.refl [] _).drew (by simp)
theorem Cs.lt {L : List ((Nat × Nat) × Value)} {w : World} (h : Cs L w) : ∀ p, p ∈ L → p.1.1 < w.heap.size := fun p hp => World.block_lt_of_cell? w _ (h p hp)

theorem row_cells {w : World} {g : Nat} {x : Int × Int} {r : List (Int × Int)} (h : w.heap[g]? = some (.cells (flat (x :: r)).toArray 30 (0, 0))) :
    w.cell? ⟨g, 0, none⟩ = some (.int .i64 x.1) ∧ w.cell? ⟨g, 1, none⟩ = some (.int .i64 x.2) ∧ ∀ i, w.frozen? ⟨g, i, none⟩ = false := by
  refine ⟨?_, ?_, fun i => ?_⟩
  · simp [World.cell?, h, flat]
  · simp [World.cell?, h, flat]
  · simp [World.frozen?, h]

theorem Lay_at {w : World} {B b : Nat} {lim used : Int} {sv : Value} {rk rn : Int} {T : List Thing} (R : Rep w B b lim used sv rk rn T) (r : Int) (hr : 0 ≤ r) (xs : List (Int × Int)) (n : Nat) (hn : xs.length = n) (a : Option Addr) (c : Nat) (h : Lies w a xs) (h0 : n = 0 → a = none → c = 0) (hm : n ≤ 10000000) (hT : T.length ≤ 1000000000000) :
    Calls Try.prog 24 #[.pointer (some ⟨b, 0, none⟩), .int .i64 r, .slice a n c] w fun e w' => e = .returned (.agg #[.int .i64 2, .int .i64 T.length]) ∧
      ∃ sv' t, Rep w' B b lim used sv' rk rn (T ++ [t]) ∧ t.sort = r ∧ t.cells = xs ∧ w.heap.size ≤ t.rb ∧ Fr (b :: sv.ownBlock.toList) w w' ∧ (∀ k, sv'.ownBlock = some k → sv.ownBlock = some k ∨ w.heap.size ≤ k) := by
  subst hn
  exact Lay_rec R r hr xs a c h h0 hm hT

theorem Obj_at {w : World} {B b : Nat} {lim used : Int} {sv : Value} {rk rn : Int} {T : List Thing} (R : Rep w B b lim used sv rk rn T) (i : Nat) (t : Thing) (ht : T[i]? = some t) (k s : Int) (hk : k = (i : Int)) (hs : t.sort = s) (h0 : 0 ≤ s) (xs : List (Int × Int)) (hx : t.cells = xs) (n : Nat) (hn : xs.length = n) (hm : n ≤ 10000000) :
    Calls Try.prog 13 #[.pointer (some ⟨b, 0, none⟩), .agg #[.int .i64 2, .int .i64 k]] w fun e w' => ∃ g, e = .returned (.tuple #[.agg #[.int .i64 s, .slice (some ⟨g, 0, none⟩) n n], .bool true]) ∧ Fr [] w w' ∧ w.heap.size ≤ g ∧ w'.heap[g]? = some (.cells (flat xs).toArray 30 (0, 0)) := by
  subst hk hs hx hn
  exact Obj_rec R i t ht h0 hm

/-- Where a slice lies. -/
def slot : Value → Option Addr
  | .slice a _ _ => a
  | _ => none

set_option maxHeartbeats 1000000 in
theorem apart_in (y : Int × Int) (r : List (Int × Int)) (sb so cap : Nat) (x1 x2 : Int) (w : World) (hn : (((y :: r).length : Nat) : Int) ≤ 100) (hL : Lies w (some ⟨sb, so, none⟩) (y :: r)) (hsb : sb < w.heap.size) :
    Calls Try.prog 5 #[.slice (some ⟨sb, so, none⟩) (y :: r).length cap, .agg #[.int .i64 x1, .int .i64 x2]] w fun e w' => e = .returned (.bool true) ∧ Below w.heap.size w w' := by
  obtain ⟨ad, had, hcell⟩ := hL (by simp)
  injection had with had
  subst had
  have n1 : (1 : Int) ≤ (((y :: r).length : Nat) : Int) := by simp; omega
  have C0 : Cs [((sb, so), .int .i64 y.1), ((sb, so + 1), .int .i64 y.2)] w := by
    intro p hp
    have h0 := hcell 0 (.int .i64 y.1) rfl
    have h1 := hcell 1 (.int .i64 y.2) rfl
    simp [Addr.add] at h0 h1
    simp at hp
    rcases hp with rfl | rfl
    · exact h0
    · exact h1
  generalize hnn : (y :: r).length = n at *
  have HN : Hid ((y :: r).length = n) := hnn
  clear hnn
  obtain ⟨i30, hi, hz, hs, hby⟩ := info_parts info30
  go_enter Try.func5, Try.ntmps5
  go_wp2_with fail
  have X0 := Box.new w x1 x2
  have F0 : Fr [] w (w.alloc (.cells #[.int .i64 x1, .int .i64 x2] 30)) := (Fr.refl _ _).alloc _
  generalize w.alloc (.cells #[.int .i64 x1, .int .i64 x2] 30) = w0 at *
  generalize hxb : w.heap.size = xb at *
  have HXB : Hid (w.heap.size = xb) := hxb
  clear hxb
  refine (awake_any _).mono ?_
  rintro e w1 ⟨rfl, f1⟩
  have X1 := X0.fr f1 (by simp)
  have F1 := F0.trans f1
  clear X0 F0 f1
  go_wp2_with fail
  refine (new_any 10 _).mono ?_
  rintro e w2 ⟨rfl, rfl⟩
  have R2 := Rep.new w1 10
  have hcap : cap0 10 = 10 := by decide
  rw [hcap] at R2 ⊢
  clear hcap
  have X2 := (fun o => X1.fr ((Fr.refl [] _).alloc o) (by simp)) (Obj.cells #[Value.bool true, Value.int IntKind.i64 10, Value.int IntKind.i64 0, Value.slice none 0 0, Value.int IntKind.i64 0, Value.int IntKind.i64 0] 61)
  have F2 := F1.alloc (Obj.cells #[Value.bool true, Value.int IntKind.i64 10, Value.int IntKind.i64 0, Value.slice none 0 0, Value.int IntKind.i64 0, Value.int IntKind.i64 0] 61)
  have hxlt : xb < w1.heap.size := X1.lt
  generalize w1.alloc (Obj.cells #[Value.bool true, Value.int IntKind.i64 10, Value.int IntKind.i64 0, Value.slice none 0 0, Value.int IntKind.i64 0, Value.int IntKind.i64 0] 61) = w2 at *
  generalize w1.heap.size = b at *
  clear X1 F1
  have hL2 : ∀ j u, (flat (y :: r))[j]? = some u → w2.cell? ((⟨sb, so, none⟩ : Addr).add j) = some u := by
    intro j u hj
    have hc := hcell j u hj
    rw [World.cell?_of_block (w := w) (F2.block _ (World.block_lt_of_cell? w _ hc) (by simp))]
    exact hc
  go_wp2_with (at_builtin; refine wpList_append_fp _ rfl _ _ 31 rfl 0 30 i30 _ 2 16 under31 hi hz hs hby rfl (by decide) (.slice none 0 0) 0 [] rfl (World.ownsRow_nil _ _ _ _) ⟨sb, so, none⟩ n _ (flat (y :: r)) rfl ?len hL2 (flat_one _) ?max ?bytes ?base ?_)
  case len => rw [flat_length, HN.out]
  case max => unfold maxLen; omega
  case bytes => omega
  case base => omega
  intro v3 w3 ho3 hg3 hk3
  have f3 : Fr [] w2 w3 := Fr.grown (Fr.refl _ _) hg3 (by simp [Value.ownBlock])
  have hex : ∃ g c cur, v3 = .slice (some ⟨g, 0, none⟩) n c ∧ w3.heap[g]? = some (.cells cur 30 (0, 0)) ∧ w2.heap.size ≤ g ∧ cur.toList.take (n * 2) = flat (y :: r) := by
    rcases ho3.2 with ⟨_, e⟩ | ⟨g, c, cur, e, _, h5, _, _, _, h6⟩
    · omega
    · refine ⟨g, c, cur, e, h5, ?_, h6⟩
      rcases hk3 g (by rw [e]; rfl) with h7 | h7
      · simp [Value.ownBlock] at h7
      · exact h7
  have hlies : Lies w3 (slot v3) (y :: r) := by
    intro _
    obtain ⟨g, c, cur, e, h5, _, h6⟩ := hex
    refine ⟨⟨g, 0, none⟩, by rw [e]; rfl, ?_⟩
    exact ho3.cells (g := g) (by rw [e]; rfl)
  obtain ⟨g, c, cur, hv, hgg, hg2, htake⟩ := hex
  rw [hv] at hlies ⊢
  have hlies : Lies w3 (some ⟨g, 0, none⟩) (y :: r) := hlies
  have hcur : ∃ c0 c1 cr, cur = (c0 :: c1 :: cr).toArray := by
    have hl : 2 ≤ cur.toList.length := by
      have := congrArg List.length htake
      rw [List.length_take, flat_length] at this
      simp at this
      simp
      omega
    match hcl : cur.toList, hl with
    | c0 :: c1 :: cr, _ => exact ⟨c0, c1, cr, by rw [← hcl]⟩
  obtain ⟨c0, c1, cr, hcur⟩ := hcur
  have R3 := R2.frame f3 (by simp)
  have X3 := X2.fr f3 (by simp)
  have F3 := F2.trans f3
  have hxg : xb < g := by have := X2.lt; omega
  have hbg : b < g := by have := R2.hb.lt; omega
  clear ho3 hg3 hk3 hi hz hs hby hL2 R2 X2 F2 htake hv hcell hL
  go_wp2_with fail
  refine (Lay_at R3 5 (by omega) (y :: r) n HN.out _ _ hlies (by simp) (by omega) (by simp)).mono ?_
  rintro e w4 ⟨rfl, sv4, t, R4, s4, c4, n4, f4, k4⟩
  have S4 : Hid (t.sort = 5) := s4
  have C4 : Hid (t.cells = y :: r) := c4
  have X4 := X3.fr f4 (X3.out R3)
  have F4 : Below xb w w4 := R3.below f4 (fun _ h => h) (Nat.le_of_lt hxlt) (F3.below (by rw [HXB.out]; exact Nat.le_refl _) (by simp))
  have hgt : g < t.rb := by have := (Array.getElem?_eq_some_iff.1 hgg).1; omega
  have hg4 : w4.heap[g]? = some (.cells (c0 :: c1 :: cr).toArray 30 (0, 0)) := by
    rw [hcur] at hgg
    have a1 := R3.hb.ne_of hgg (by decide)
    have a2 := own_ne_of R3.row hgg (by decide)
    rw [f4.block g (Array.getElem?_eq_some_iff.1 hgg).1 (by simp only [List.mem_cons, Option.mem_toList, not_or]; exact ⟨a1, fun e => a2 e.symm⟩)]
    exact hgg
  have htr : t.rb < w4.heap.size := R4.lt _ (by simp [foot])
  clear s4 c4 X3 F3 R3 hlies hgg hcur f3 f4 k4 n4
  have gg : ∀ o, (w4.alloc o).heap[g]? = some (.cells (c0 :: c1 :: cr).toArray 30 (0, 0)) := fun o => by rw [Below.heap_alloc _ _ _ (by omega)]; exact hg4
  have gc0 : ∀ o, (w4.alloc o).cell? ⟨g, 0, none⟩ = some c0 := fun o => by simp [World.cell?, gg o]
  have gc1 : ∀ o, (w4.alloc o).cell? ⟨g, 1, none⟩ = some c1 := fun o => by simp [World.cell?, gg o]
  have gfz : ∀ o i, (w4.alloc o).frozen? ⟨g, i, none⟩ = false := fun o i => by simp [World.frozen?, gg o]
  go_wp2_with fail
  have V6 : Box (((w4.alloc (.cells #[.int .i64 2, .int .i64 0] 30)).setCell ⟨g, 0, none⟩ (.int .i64 9)).setCell ⟨g, 1, none⟩ (.int .i64 9)) w4.heap.size (2, 0) :=
    (Box.new w4 2 0).fr (Fr.setCell (Fr.setCell (Fr.refl [g] _) (.inl (by simp)) _) (.inl (by simp)) _) (by simp; omega)
  have f6 : Fr [g] w4 (((w4.alloc (.cells #[.int .i64 2, .int .i64 0] 30)).setCell ⟨g, 0, none⟩ (.int .i64 9)).setCell ⟨g, 1, none⟩ (.int .i64 9)) :=
    Fr.setCell (Fr.setCell ((Fr.refl _ _).alloc _) (.inl (by simp)) _) (.inl (by simp)) _
  generalize (((w4.alloc (.cells #[.int .i64 2, .int .i64 0] 30)).setCell ⟨g, 0, none⟩ (.int .i64 9)).setCell ⟨g, 1, none⟩ (.int .i64 9)) = w6 at *
  have R6 := R4.boxes f6 (by intro k hk; simp at hk; subst hk; exact .inl ⟨_, _, hg4, by simp; omega⟩)
  have X6 := X4.fr f6 (by simp; omega)
  have F6 := F4.trans (f6.below (by have := X4.lt; omega) (by simp; omega))
  have hvt : t.rb < w4.heap.size := htr
  generalize w4.heap.size = vb at *
  clear R4 X4 F4 f6 gg gc0 gc1 gfz hg4 htr
  refine (Obj_at R6 0 t rfl 0 5 rfl S4.out (by omega) (y :: r) C4.out n HN.out (by omega)).mono ?_
  rintro e w7 ⟨g1, rfl, f7, hz7, hg7⟩
  have V7 := V6.fr f7 (by simp)
  have X7 := X6.fr f7 (by simp)
  have R7 := R6.frame f7 (by simp)
  have F7 := F6.trans (f7.below (by have := X6.lt; omega) (by simp))
  have hvg1 : vb < g1 := by have := V6.lt; omega
  clear V6 X6 R6 F6 f7 hz7
  go_wp2_with fail
  have f8 : Fr [] w7 (w7.alloc (.cells #[.int .i64 5, .slice (some ⟨g1, 0, none⟩) n n] 40)) := (Fr.refl _ _).alloc _
  have O8 : (w7.alloc (.cells #[.int .i64 5, .slice (some ⟨g1, 0, none⟩) n n] 40)).heap[w7.heap.size]? = some (.cells #[.int .i64 5, .slice (some ⟨g1, 0, none⟩) n n] 40) := heap_alloc_new _ _
  generalize w7.alloc (.cells #[.int .i64 5, .slice (some ⟨g1, 0, none⟩) n n] 40) = w8 at *
  have hg8 : w8.heap[g1]? = some (.cells (flat (y :: r)).toArray 30 (0, 0)) := (f8.block _ (Array.getElem?_eq_some_iff.1 hg7).1 (by simp)).trans hg7
  have V8 := V7.fr f8 (by simp)
  have X8 := X7.fr f8 (by simp)
  have R8 := R7.frame f8 (by simp)
  have F8 := F7.trans (f8.below (by have := X7.lt; omega) (by simp))
  have C8 : Cs [((sb, so), .int .i64 y.1), ((sb, so + 1), .int .i64 y.2)] w8 := by
    intro p hp
    have hc := C0 p hp
    have hpb : p.1.1 = sb := by simp at hp; rcases hp with rfl | rfl <;> rfl
    rw [F8.cell (p := ⟨p.1.1, p.1.2, none⟩) (by show p.1.1 < xb; omega)]
    exact hc
  have hog1 : g1 < w7.heap.size := (Array.getElem?_eq_some_iff.1 hg7).1
  generalize w7.heap.size = ob at *
  clear V7 X7 R7 F7 f8 hg7
  have o1 : w8.cell? ⟨ob, 1, none⟩ = some (.slice (some ⟨g1, 0, none⟩) n n) := by simp [World.cell?, O8]
  obtain ⟨ga, gb, gz⟩ := row_cells hg8
  have sa := C8 ((sb, so), .int .i64 y.1) (by simp)
  have sc := C8 ((sb, so + 1), .int .i64 y.2) (by simp)
  simp only at sa sc
  have va := V8.c0
  have vc := V8.c1
  go_quiet (fail)
  go_wp2_with fail
  have f9 : Fr [g1] w8 (((w8.drewN nq).setCell ⟨g1, 0, none⟩ (.int .i64 8)).setCell ⟨g1, 1, none⟩ (.int .i64 8)) := Fr.setCell (Fr.setCell (Fr.drewN (Fr.refl _ _) _) (.inl (by simp)) _) (.inl (by simp)) _
  have G9 : (((w8.drewN nq).setCell ⟨g1, 0, none⟩ (.int .i64 8)).setCell ⟨g1, 1, none⟩ (.int .i64 8)).heap[g1]? = some (.cells (flat ((8, 8) :: r)).toArray 30 (0, 0)) := by
    simp [World.setCell, Array.getElem?_modify, hg8, flat]
  generalize (((w8.drewN nq).setCell ⟨g1, 0, none⟩ (.int .i64 8)).setCell ⟨g1, 1, none⟩ (.int .i64 8)) = w9 at *
  have V9 := V8.fr f9 (by simp; omega)
  have X9 := X8.fr f9 (by simp; omega)
  have R9 := R8.boxes f9 (by intro k hk; simp at hk; subst hk; exact .inl ⟨_, _, hg8, by simp; omega⟩)
  have F9 := F8.trans (f9.below (by have := X8.lt; omega) (by simp; omega))
  have O9 := (f9.block ob (Array.getElem?_eq_some_iff.1 O8).1 (by simp; omega)).trans O8
  have C9 := C8.fr f9 (by intro p hp; simp at hp; rcases hp with rfl | rfl <;> (simp; omega))
  clear V8 X8 R8 F8 C8 f9 hg8 O8 o1 ga gb gz sa sc va vc
  refine (Obj_at R9 0 t rfl 0 5 rfl S4.out (by omega) (y :: r) C4.out n HN.out (by omega)).mono ?_
  rintro e w10 ⟨g2, rfl, f10, hz10, hg10⟩
  go_wp2_with fail
  have f11 : Fr [] w9 (w10.alloc (.cells #[.int .i64 5, .slice (some ⟨g2, 0, none⟩) n n] 40)) := f10.alloc _
  have P11 : (w10.alloc (.cells #[.int .i64 5, .slice (some ⟨g2, 0, none⟩) n n] 40)).heap[w10.heap.size]? = some (.cells #[.int .i64 5, .slice (some ⟨g2, 0, none⟩) n n] 40) := heap_alloc_new _ _
  have hg11 : (w10.alloc (.cells #[.int .i64 5, .slice (some ⟨g2, 0, none⟩) n n] 40)).heap[g2]? = some (.cells (flat (y :: r)).toArray 30 (0, 0)) := by rw [Below.heap_alloc _ _ _ (Array.getElem?_eq_some_iff.1 hg10).1]; exact hg10
  have hg1s : g1 < w9.heap.size := (Array.getElem?_eq_some_iff.1 G9).1
  have hobs : ob < w9.heap.size := (Array.getElem?_eq_some_iff.1 O9).1
  have hzz := f10.size
  generalize w10.alloc (.cells #[.int .i64 5, .slice (some ⟨g2, 0, none⟩) n n] 40) = w11 at *
  generalize w10.heap.size = pb at *
  have V11 := V9.fr f11 (by simp)
  have X11 := X9.fr f11 (by simp)
  have R11 := R9.frame f11 (by simp)
  have F11 := F9.trans (f11.below (by have := X9.lt; omega) (by simp))
  have O11 := (f11.block ob hobs (by simp)).trans O9
  have G11 := (f11.block g1 hg1s (by simp)).trans G9
  have C11 := C9.fr f11 (by simp)
  have CC : Cs [((sb, so), .int .i64 y.1), ((sb, so + 1), .int .i64 y.2), ((vb, 0), .int .i64 2), ((vb, 1), .int .i64 0), ((xb, 0), .int .i64 x1), ((xb, 1), .int .i64 x2), ((ob, 1), .slice (some ⟨g1, 0, none⟩) n n), ((pb, 1), .slice (some ⟨g2, 0, none⟩) n n), ((g1, 0), .int .i64 8), ((g1, 1), .int .i64 8), ((g2, 0), .int .i64 y.1), ((g2, 1), .int .i64 y.2)] w11 := by
    intro p hp
    simp only [List.mem_cons, List.not_mem_nil, or_false] at hp
    rcases hp with rfl | rfl | rfl | rfl | rfl | rfl | rfl | rfl | rfl | rfl | rfl | rfl
    · exact C11 _ (by simp)
    · exact C11 _ (by simp)
    · exact V11.c0
    · exact V11.c1
    · exact X11.c0
    · exact X11.c1
    · simp [World.cell?, O11]
    · simp [World.cell?, P11]
    · exact (row_cells G11).1
    · exact (row_cells G11).2.1
    · exact (row_cells hg11).1
    · exact (row_cells hg11).2.1
  clear V9 X9 R9 F9 O9 G9 C9 f10 hg10 V11 X11 O11 G11 C11 P11 hg11 f11 C0
  generalize hLL : [((sb, so), Value.int .i64 y.1), ((sb, so + 1), .int .i64 y.2), ((vb, 0), .int .i64 2), ((vb, 1), .int .i64 0), ((xb, 0), .int .i64 x1), ((xb, 1), .int .i64 x2), ((ob, 1), .slice (some ⟨g1, 0, none⟩) n n), ((pb, 1), .slice (some ⟨g2, 0, none⟩) n n), ((g1, 0), .int .i64 8), ((g1, 1), .int .i64 8), ((g2, 0), .int .i64 y.1), ((g2, 1), .int .i64 y.2)] = LL at *
  have r0 : ∀ w', Cs LL w' → w'.cell? ⟨sb, so, none⟩ = some (.int .i64 y.1) := fun w' h => h ((sb, so), .int .i64 y.1) (by rw [← hLL]; simp)
  have r1 : ∀ w', Cs LL w' → w'.cell? ⟨sb, so + 1, none⟩ = some (.int .i64 y.2) := fun w' h => h ((sb, so + 1), .int .i64 y.2) (by rw [← hLL]; simp)
  have r2 : ∀ w', Cs LL w' → w'.cell? ⟨vb, 0, none⟩ = some (.int .i64 2) := fun w' h => h ((vb, 0), .int .i64 2) (by rw [← hLL]; simp)
  have r3 : ∀ w', Cs LL w' → w'.cell? ⟨vb, 1, none⟩ = some (.int .i64 0) := fun w' h => h ((vb, 1), .int .i64 0) (by rw [← hLL]; simp)
  have r4 : ∀ w', Cs LL w' → w'.cell? ⟨xb, 0, none⟩ = some (.int .i64 x1) := fun w' h => h ((xb, 0), .int .i64 x1) (by rw [← hLL]; simp)
  have r5 : ∀ w', Cs LL w' → w'.cell? ⟨xb, 1, none⟩ = some (.int .i64 x2) := fun w' h => h ((xb, 1), .int .i64 x2) (by rw [← hLL]; simp)
  have r6 : ∀ w', Cs LL w' → w'.cell? ⟨ob, 1, none⟩ = some (.slice (some ⟨g1, 0, none⟩) n n) := fun w' h => h ((ob, 1), .slice (some ⟨g1, 0, none⟩) n n) (by rw [← hLL]; simp)
  have r7 : ∀ w', Cs LL w' → w'.cell? ⟨pb, 1, none⟩ = some (.slice (some ⟨g2, 0, none⟩) n n) := fun w' h => h ((pb, 1), .slice (some ⟨g2, 0, none⟩) n n) (by rw [← hLL]; simp)
  have r8 : ∀ w', Cs LL w' → w'.cell? ⟨g1, 0, none⟩ = some (.int .i64 8) := fun w' h => h ((g1, 0), .int .i64 8) (by rw [← hLL]; simp)
  have r9 : ∀ w', Cs LL w' → w'.cell? ⟨g1, 1, none⟩ = some (.int .i64 8) := fun w' h => h ((g1, 1), .int .i64 8) (by rw [← hLL]; simp)
  have ra : ∀ w', Cs LL w' → w'.cell? ⟨g2, 0, none⟩ = some (.int .i64 y.1) := fun w' h => h ((g2, 0), .int .i64 y.1) (by rw [← hLL]; simp)
  have rb : ∀ w', Cs LL w' → w'.cell? ⟨g2, 1, none⟩ = some (.int .i64 y.2) := fun w' h => h ((g2, 1), .int .i64 y.2) (by rw [← hLL]; simp)
  have hLt : ∀ p, p ∈ LL → p.1.1 ∉ [t.rb] := by
    intro p hp
    rw [← hLL] at hp
    simp only [List.mem_cons, List.not_mem_nil, or_false] at hp
    rcases hp with rfl | rfl | rfl | rfl | rfl | rfl | rfl | rfl | rfl | rfl | rfl | rfl <;> (simp; omega)
  clear hLL
  have m0 : 0 < n := by omega
  have m1 : (0 : Int) < (n : Int) := by omega
  go_region_held3 (fun w' => Cs LL w')
    (with_reducible (first | assumption | (refine Cs.drew ?_; assumption)))
    (first
      | (go_at_call 19; refine (SetField_at (R11.frame ((Fr.refl [] _).drew) (by simp)) 0 t rfl 0 5 0 0 rfl S4.out rfl (by omega) (by rw [C4.out]; simp) x1 x2).mono ?_; rintro e w12 ⟨rfl, R12, f12⟩; have C12 := Cs.fr (by assumption) f12 hLt))
  all_goals (go_wp2; go_ret; exact ⟨rfl, by rw [HXB.out]; exact F11.drew.trans (f12.below (by have := F11.size; have := HXB.out; show xb ≤ w11.heap.size; omega) (by simp; omega))⟩)

set_option maxHeartbeats 400000 in
theorem apart_out (a0 : Option Addr) (n cap : Nat) (x1 x2 : Int) (w : World) (h : (n : Int) < 1 ∨ 100 < (n : Int)) :
    Calls Try.prog 5 #[.slice a0 n cap, .agg #[.int .i64 x1, .int .i64 x2]] w fun e w' => e = .returned (.bool true) ∧ Below w.heap.size w w' := by
  go_enter Try.func5, Try.ntmps5
  go_wp2_with fail
  refine (awake_any _).mono ?_
  rintro e w1 ⟨rfl, f1⟩
  have F := ((Fr.refl [] w).alloc _).trans f1
  clear f1
  go_wp2_with fail
  all_goals first | (exfalso; omega) | skip
  all_goals (go_ret; exact ⟨rfl, F.below (Nat.le_refl _) (by simp)⟩)

theorem apart_any (xs : List (Int × Int)) (a0 : Option Addr) (cap : Nat) (x1 x2 : Int) (w : World) (hL : 0 < xs.length → ∃ sb so, a0 = some ⟨sb, so, none⟩ ∧ sb < w.heap.size ∧ Lies w (some ⟨sb, so, none⟩) xs) :
    Calls Try.prog 5 #[.slice a0 xs.length cap, .agg #[.int .i64 x1, .int .i64 x2]] w fun e w' => e = .returned (.bool true) ∧ Below w.heap.size w w' := by
  by_cases h : (xs.length : Int) < 1 ∨ 100 < (xs.length : Int)
  · exact apart_out a0 xs.length cap x1 x2 w h
  · match xs, hL, h with
    | [], _, h => simp at h
    | y :: r, hL, h =>
      obtain ⟨sb, so, rfl, h1, h2⟩ := hL (by simp)
      exact apart_in y r sb so cap x1 x2 w (by omega) h2 h1
end Go.Proofs.Ytndjoklinccfjaa
