/-
  A parser in memory: its tokens, where it stands, the nodes that it has laid; what its small calls do; condition: it lies as told.
-/
import Derived.Test.YtekjfddcbcijdaaGreatDoorParM
import Derived.Deep.RegionHeld3
import Derived.RegionDies
namespace Go.Proofs.YtekjfddcbcijdaaGreatDoor
open Go.RowKit
set_option linter.unusedVariables false
set_option linter.unusedSimpArgs false

/-- A node in memory: where its kids' row lies, and its room. -/
structure MN where
  x : PN
  a : Option Addr
  c : Nat
def MN.cells (m : MN) : List Value := [.int .i64 m.x.kind, .string ⟨m.x.text.toArray⟩, .slice m.a m.x.kids.length m.c, .int .i64 m.x.pl]
def flatM : List MN → List Value
  | [] => []
  | m :: r => m.cells ++ flatM r
theorem flatM_append (a b : List MN) : flatM (a ++ b) = flatM a ++ flatM b := by
  induction a with
  | nil => rfl
  | cons t r ih => simp [flatM, ih]
theorem flatM_len (a : List MN) : (flatM a).length = a.length * 4 := by
  induction a with
  | nil => rfl
  | cons t r ih => simp [flatM, ih, MN.cells]; omega
theorem flatM_get {L : List MN} : ∀ {i : Nat} {m : MN}, L[i]? = some m → ∀ j, j < 4 → (flatM L)[i * 4 + j]? = m.cells[j]? := by
  induction L with
  | nil => intro i m h; simp at h
  | cons s r ih =>
    intro i m h j hj
    cases i with
    | zero =>
      simp at h
      subst h
      simp only [flatM, Nat.zero_mul, Nat.zero_add]
      rw [List.getElem?_append_left (by simp [MN.cells]; omega)]
    | succ i =>
      have := ih (i := i) (m := m) (by simpa using h) j hj
      simp only [flatM]
      rw [List.getElem?_append_right (by simp [MN.cells]; omega)]
      rw [show (i + 1) * 4 + j - s.cells.length = i * 4 + j from by simp [MN.cells]; omega]
      exact this
theorem flatT_get {ts : List Tok} : ∀ {i : Nat} {t : Tok}, ts[i]? = some t → ∀ j, j < 5 → (flatT ts)[i * 5 + j]? = (tokA t).toList[j]? := by
  induction ts with
  | nil => intro i m h; simp at h
  | cons s r ih =>
    intro i m h j hj
    cases i with
    | zero =>
      simp at h
      subst h
      simp only [flatT, Nat.zero_mul, Nat.zero_add]
      rw [List.getElem?_append_left (by simp [tokA]; omega)]
    | succ i =>
      have := ih (i := i) (t := m) (by simpa using h) j hj
      simp only [flatT]
      rw [List.getElem?_append_right (by simp [tokA]; omega)]
      rw [show (i + 1) * 5 + j - (tokA s).toList.length = i * 5 + j from by simp [tokA]; omega]
      exact this

/-- A node's kids, in memory. -/
def KRow (w : World) (F : List Nat) (m : MN) : Prop :=
  (m.x.kids.length ≤ m.c ∧ m.c ≤ maxLen) ∧ (m.a = none → m.c = 0) ∧ ∀ (j k : Nat), m.x.kids[j]? = some k → ∃ (b o : Nat) (c : Array Value) (z : Nat × Nat), m.a = some ⟨b, o, none⟩ ∧ b ∈ F ∧ w.heap[b]? = some (.cells c 3 z) ∧ c[o + j]? = some (.int .i64 (k : Nat))
/-- Tokens in memory. -/
def TRow (w : World) (g : Nat) (ts : List Tok) : Prop := ∃ (c : Array Value) (z : Nat × Nat), w.heap[g]? = some (.cells c 43 z) ∧ ∀ (j : Nat) (u : Value), (flatT ts)[j]? = some u → c[j]? = some u

/-- A parser in memory; F: the blocks that are its own. -/
structure PS (ts : List Tok) (B pb : Nat) (F : List Nat) (i : Nat) (ns : List PN) (w : World) : Prop where
  ex : ∃ (tg tc : Nat) (nv : Value) (bd bs bf : Nat) (L : List MN),
    w.heap[pb]? = some (.cells #[.slice (some ⟨tg, 0, none⟩) ts.length tc, .int .i64 (i : Nat), nv, .map (some bd), .map (some bs), .map (some bf)] 49 (0, 0)) ∧ ts.length ≤ tc ∧ tg ∈ F ∧ TRow w tg ts ∧ bd ∈ F ∧ RM w bd declM ∧ bs ∈ F ∧ RM w bs stmtM ∧ bf ∈ F ∧ RM w bf firstM ∧
    L.map MN.x = ns ∧ w.ownsRow B 30 4 nv L.length (flatM L) ∧ (∀ k, nv.ownBlock = some k → k ∈ F) ∧ ∀ m ∈ L, KRow w F m
  pf : pb ∈ F
  fb : ∀ j ∈ F, B ≤ j ∧ j < w.heap.size
  lo : 6 ≤ B
  tl : ts.length ≤ 200001
  ti : i < ts.length

section
variable {ts : List Tok} {B pb : Nat} {F : List Nat} {i : Nat} {ns : List PN} {w w' : World}
theorem PS.fr (h : PS ts B pb F i ns w) {S : List Nat} (f : Fr S w w') (hS : ∀ j ∈ S, j ∉ F) : PS ts B pb F i ns w' := by
  obtain ⟨tg, tc, nv, bd, bs, bf, L, h1, h2, h3, ⟨c, z, h4, h4'⟩, h5, h6, h7, h8, h9, h10, h11, h12, h13, h14⟩ := h.ex
  have kp : ∀ {k : Nat} {o : Obj}, k ∈ F → w.heap[k]? = some o → w'.heap[k]? = some o := fun hk h => (f.block _ (Array.getElem?_eq_some_iff.1 h).1 (fun hm => hS _ hm hk)).trans h
  refine ⟨⟨tg, tc, nv, bd, bs, bf, L, kp h.pf h1, h2, h3, ⟨c, z, kp h3 h4, h4'⟩, h5, kp h5 h6, h7, kp h7 h8, h9, kp h9 h10, h11, own_fr h12 f (fun k hk hm => hS k hm (h13 k hk)), h13, fun m hm => ?_⟩, h.pf, fun j hj => ⟨(h.fb j hj).1, Nat.lt_of_lt_of_le (h.fb j hj).2 f.size⟩, h.lo, h.tl, h.ti⟩
  obtain ⟨k1, k2, k3⟩ := h14 m hm
  refine ⟨k1, k2, fun j k hk => ?_⟩
  obtain ⟨b, o, c, z, e1, e2, e3, e4⟩ := k3 j k hk
  exact ⟨b, o, c, z, e1, e2, kp e2 e3, e4⟩
end

theorem tk_get {ts : List Tok} {i : Nat} (h : i < ts.length) : ts[i]? = some (tk ts i) := by
  unfold tk
  rw [List.getD_eq_getElem?_getD, List.getElem?_eq_getElem h]
  rfl
theorem TRow.cell {w : World} {g : Nat} {ts : List Tok} (h : TRow w g ts) {i : Nat} (hi : i < ts.length) {j : Nat} (hj : j < 5) {u : Value} (hu : (tokA (tk ts i)).toList[j]? = some u) : w.cell? ⟨g, i * 5 + j, none⟩ = some u := by
  obtain ⟨c, z, h1, h2⟩ := h
  have := h2 (i * 5 + j) u (by rw [flatT_get (tk_get hi) j hj]; exact hu)
  simp [World.cell?, h1, this]
/-- What the walk wants to know of a parser. -/
structure PT (ts : List Tok) (pb i : Nat) (w : World) (tg tc : Nat) (nv : Value) (bd bs bf : Nat) : Prop where
  blk : w.heap[pb]? = some (.cells #[.slice (some ⟨tg, 0, none⟩) ts.length tc, .int .i64 (i : Nat), nv, .map (some bd), .map (some bs), .map (some bf)] 49 (0, 0))
  t0 : w.cell? ⟨tg, i * 5, none⟩ = some (.int .i64 ((tk ts i).kind : Nat))
  t1 : w.cell? ⟨tg, i * 5 + 1, none⟩ = some (.string ⟨(tk ts i).text.toArray⟩)
  t2 : w.cell? ⟨tg, i * 5 + 2, none⟩ = some (.int .i64 ((tk ts i).frm : Nat))
  t3 : w.cell? ⟨tg, i * 5 + 3, none⟩ = some (.int .i64 ((tk ts i).to : Nat))
  t4 : w.cell? ⟨tg, i * 5 + 4, none⟩ = some (.int .i64 ((tk ts i).n : Nat))
  len : (ts.length : Int) ≤ 200001
  lc : ts.length ≤ tc
  lt : (i : Int) < ts.length
theorem PS.pt {ts : List Tok} {B pb : Nat} {F : List Nat} {i : Nat} {ns : List PN} {w : World} (h : PS ts B pb F i ns w) : ∃ tg tc nv bd bs bf, PT ts pb i w tg tc nv bd bs bf ∧ tg ∈ F ∧ tg ≠ pb := by
  obtain ⟨tg, tc, nv, bd, bs, bf, L, h1, h2, h3, h4, h5, h6, h7, h8, h9, h10, h11, h12, h13, h14⟩ := h.ex
  refine ⟨tg, tc, nv, bd, bs, bf, ⟨h1, h4.cell h.ti (j := 0) (by decide) rfl, h4.cell h.ti (j := 1) (by decide) rfl, h4.cell h.ti (j := 2) (by decide) rfl, h4.cell h.ti (j := 3) (by decide) rfl, h4.cell h.ti (j := 4) (by decide) rfl, by have := h.tl; omega, h2, by have := h.ti; omega⟩, h3, fun e => ?_⟩
  obtain ⟨c, z, h4, _⟩ := h4
  rw [e, h1] at h4
  simp at h4
theorem pt_cells {pb : Nat} {w : World} {v0 v1 v2 v3 v4 v5 : Value} (h : w.heap[pb]? = some (.cells #[v0, v1, v2, v3, v4, v5] 49 (0, 0))) : w.cell? ⟨pb, 0, none⟩ = some v0 ∧ w.cell? ⟨pb, 1, none⟩ = some v1 ∧ w.cell? ⟨pb, 2, none⟩ = some v2 ∧ w.cell? ⟨pb, 3, none⟩ = some v3 ∧ w.cell? ⟨pb, 4, none⟩ = some v4 ∧ w.cell? ⟨pb, 5, none⟩ = some v5 ∧ ∀ j, w.frozen? ⟨pb, j, none⟩ = false := by
  simp [World.cell?, World.frozen?, h]

/-- What a call of a parser's may come out as. -/
def Post (ts : List Tok) (B pb : Nat) (F : List Nat) (w : World) (val : List Nat → World → Value → Prop) : Except Nat (List Nat × Nat × List PN) → Ending → World → Prop
  | .ok (v, j, ms), e, w' => ∃ u F', e = .returned u ∧ val v w' u ∧ PS ts B pb F' j ms w' ∧ Fr F w w' ∧ ∀ k ∈ F', k ∈ F ∨ w.heap.size ≤ k
  | .error k, e, w' => ∃ r, e = .panicked [{ v := .iface 45 (.agg #[.int .i64 ((tk ts k).frm : Nat)]), recovered := r }] ∧ r = false ∧ Fr F w w'

set_option maxRecDepth 100000 in
set_option maxHeartbeats 1000000 in
theorem next_any {ts : List Tok} {B pb : Nat} {F : List Nat} {i : Nat} {ns : List PN} {w : World} (h : PS ts B pb F i ns w) :
    Calls Tryz.prog 41 #[.pointer (some ⟨pb, 0, none⟩)] w fun e w' => e = .returned (.string ⟨(nx ts i).toArray⟩) ∧ Fr [] w w' := by
  obtain ⟨tg, tc, nv, bd, bs, bf, ⟨hb, t0, t1, t2, t3, t4, hlen, hlc, hlt⟩, _, _⟩ := h.pt
  obtain ⟨c0, c1, c2, c3, c4, c5, cz⟩ := pt_cells hb
  have HX : Hid (nx ts i = nxT (tk ts i)) := rfl
  have hlt' : i < ts.length := h.ti
  have F1 : Fr [] w (w.alloc (.cells #[.int .i64 ((tk ts i).kind : Nat), .string ⟨(tk ts i).text.toArray⟩, .int .i64 ((tk ts i).frm : Nat), .int .i64 ((tk ts i).to : Nat), .int .i64 ((tk ts i).n : Nat)] 43)) := (Fr.refl _ _).alloc _
  have hlI : (ts.length : Int) ≤ tc := by omega
  clear hb h
  generalize nx ts i = X at *
  generalize tk ts i = t at *
  obtain ⟨k, tx, fr, to, n⟩ := t
  simp only at *
  have r0 : ∀ w', Fr [] w w' → w'.cell? ⟨pb, 0, none⟩ = _ := fun w' f => f.cell1 c0 (by simp)
  have r1 : ∀ w', Fr [] w w' → w'.cell? ⟨pb, 1, none⟩ = _ := fun w' f => f.cell1 c1 (by simp)
  have s0 : ∀ w', Fr [] w w' → w'.cell? ⟨tg, i * 5, none⟩ = _ := fun w' f => f.cell1 t0 (by simp)
  have s1 : ∀ w', Fr [] w w' → w'.cell? ⟨tg, i * 5 + 1, none⟩ = _ := fun w' f => f.cell1 t1 (by simp)
  have s2 : ∀ w', Fr [] w w' → w'.cell? ⟨tg, i * 5 + 2, none⟩ = _ := fun w' f => f.cell1 t2 (by simp)
  have s3 : ∀ w', Fr [] w w' → w'.cell? ⟨tg, i * 5 + 3, none⟩ = _ := fun w' f => f.cell1 t3 (by simp)
  have s4 : ∀ w', Fr [] w w' → w'.cell? ⟨tg, i * 5 + 4, none⟩ = _ := fun w' f => f.cell1 t4 (by simp)
  have f0 : Fr [] w w := Fr.refl _ _
  clear c0 c1 c2 c3 c4 c5 t0 t1 t2 t3 t4
  go_enter Tryz.func41, Tryz.ntmps41
  go_wp2
  go_region_held3 (fun w' => Fr [] w w') (with_reducible (first | assumption | (refine Fr.drew ?_; assumption) | (refine Fr.alloc ?_ _; assumption) | (refine Fr.drew ?_; refine Fr.alloc ?_ _; assumption) | (refine Fr.alloc ?_ _; refine Fr.drew ?_; assumption))) (fail)
  have nb := heap_alloc_new w (.cells #[.int .i64 (k : Nat), .string ⟨tx.toArray⟩, .int .i64 (fr : Nat), .int .i64 (to : Nat), .int .i64 (n : Nat)] 43)
  have F2 := F1.drew
  have n0 : (w.alloc (.cells #[.int .i64 (k : Nat), .string ⟨tx.toArray⟩, .int .i64 (fr : Nat), .int .i64 (to : Nat), .int .i64 (n : Nat)] 43)).drew.cell? ⟨w.heap.size, 0, none⟩ = some (.int .i64 (k : Nat)) := at_cells (w := w.alloc _) nb 0 rfl
  have n1 : (w.alloc (.cells #[.int .i64 (k : Nat), .string ⟨tx.toArray⟩, .int .i64 (fr : Nat), .int .i64 (to : Nat), .int .i64 (n : Nat)] 43)).drew.cell? ⟨w.heap.size, 1, none⟩ = some (.string ⟨tx.toArray⟩) := at_cells (w := w.alloc _) nb 1 rfl
  clear r0 r1 s0 s1 s2 s3 s4 nb F1
  generalize (w.alloc (.cells #[.int .i64 (k : Nat), .string ⟨tx.toArray⟩, .int .i64 (fr : Nat), .int .i64 (to : Nat), .int .i64 (n : Nat)] 43)).drew = w2 at *
  by_cases k1 : k = 1
  · subst k1
    go_wp2
    go_ret
    exact ⟨by rw [HX.out]; rfl, F2⟩
  · have b1 : ((k : Int) == 1) = false := beq_int_false (by omega)
    by_cases k4 : k = 4
    · subst k4
      go_wp2
      go_ret
      exact ⟨by rw [HX.out]; rfl, F2⟩
    · have b4 : ((k : Int) == 4) = false := beq_int_false (by omega)
      by_cases k0 : k = 0
      · subst k0
        go_wp2
        go_ret
        exact ⟨by rw [HX.out]; rfl, F2⟩
      · have b0 : ((k : Int) == 0) = false := beq_int_false (by omega)
        have HK1 : Hid (k ≠ 1 ∧ k ≠ 4 ∧ k ≠ 0) := ⟨k1, k4, k0⟩
        clear k1 k4 k0
        go_wp2
        go_ret
        obtain ⟨q1, q2, q3⟩ := HK1.out
        refine ⟨?_, F2⟩
        rw [HX.out]
        simp only [nxT]
        rw [if_neg q1, if_neg q2, if_neg q3]
        rfl

theorem PS.step {ts : List Tok} {B pb : Nat} {F : List Nat} {i : Nat} {ns : List PN} {w : World} (h : PS ts B pb F i ns w) {j : Nat} (hj : j < ts.length) : PS ts B pb F j ns (w.setCell ⟨pb, 1, none⟩ (.int .i64 (j : Nat))) := by
  obtain ⟨tg, tc, nv, bd, bs, bf, L, h1, h2, h3, ⟨c, z, h4, h4'⟩, h5, h6, h7, h8, h9, h10, h11, h12, h13, h14⟩ := h.ex
  have f : Fr [pb] w (w.setCell ⟨pb, 1, none⟩ (.int .i64 (j : Nat))) := Fr.setCell (Fr.refl _ _) (.inl (by simp)) _
  have kp : ∀ {k : Nat} {o : Obj}, k ≠ pb → w.heap[k]? = some o → (w.setCell ⟨pb, 1, none⟩ (.int .i64 (j : Nat))).heap[k]? = some o := fun hk h => (f.block _ (Array.getElem?_eq_some_iff.1 h).1 (by simpa using hk)).trans h
  have n1 : tg ≠ pb := fun e => by rw [e, h1] at h4; simp at h4
  have nm : ∀ {g : Nat} {l : List (List UInt8 × Nat)}, RM w g l → g ≠ pb := fun hr e => by unfold RM at hr; rw [e, h1] at hr; simp at hr
  refine ⟨⟨tg, tc, nv, bd, bs, bf, L, by simp [World.setCell, Array.getElem?_modify, h1], h2, h3, ⟨c, z, kp n1 h4, h4'⟩, h5, kp (nm h6) h6, h7, kp (nm h8) h8, h9, kp (nm h10) h10, h11, own_fr h12 f (fun k hk hm => by simp at hm; subst hm; exact own_ne h12 h1 (by decide) hk), h13, fun m hm => ?_⟩, h.pf, fun j hj => ⟨(h.fb j hj).1, Nat.lt_of_lt_of_le (h.fb j hj).2 f.size⟩, h.lo, h.tl, hj⟩
  obtain ⟨k1, k2, k3⟩ := h14 m hm
  refine ⟨k1, k2, fun j k hk => ?_⟩
  obtain ⟨b, o, c, z, e1, e2, e3, e4⟩ := k3 j k hk
  exact ⟨b, o, c, z, e1, e2, kp (fun e => by rw [e, h1] at e3; simp at e3) e3, e4⟩

set_option maxRecDepth 100000 in
set_option maxHeartbeats 1000000 in
theorem pass_any {ts : List Tok} {B pb : Nat} {F : List Nat} {i : Nat} {ns : List PN} {w : World} (h : PS ts B pb F i ns w) (hi : i + 1 < ts.length) :
    Calls Tryz.prog 52 #[.pointer (some ⟨pb, 0, none⟩)] w fun e w' => e = .returned (.agg (tokA (tk ts i))) ∧ PS ts B pb F (i + 1) ns w' ∧ Fr F w w' := by
  have hpw := (h.fb pb h.pf).2
  have F0 : Fr [] w (w.alloc (.cells #[.int .i64 0, .string ⟨#[]⟩, .int .i64 0, .int .i64 0, .int .i64 0] 43)) := (Fr.refl _ _).alloc _
  have u0 := TB.new w (.int .i64 0) (.string ⟨#[]⟩) (.int .i64 0) (.int .i64 0) (.int .i64 0)
  have h1 := h.fr F0 (by simp)
  have HW : Hid (∀ j ∈ F, j < w.heap.size) := fun j hj => (h.fb j hj).2
  obtain ⟨tg, tc, nv, bd, bs, bf, ⟨hb, t0, t1, t2, t3, t4, hlen, hlc, hlt⟩, htF, htp⟩ := h1.pt
  obtain ⟨c0, c1, c2, c3, c4, c5, cz⟩ := pt_cells hb
  have z1 := cz 1
  have ei : ((i + 1 : Nat) : Int) = (i : Int) + 1 := by omega
  have h2 := h1.step hi
  rw [ei] at h2
  have f2 : Fr [pb] (w.alloc (.cells #[.int .i64 0, .string ⟨#[]⟩, .int .i64 0, .int .i64 0, .int .i64 0] 43)) ((w.alloc (.cells #[.int .i64 0, .string ⟨#[]⟩, .int .i64 0, .int .i64 0, .int .i64 0] 43)).setCell ⟨pb, 1, none⟩ (.int .i64 ((i : Int) + 1))) := Fr.setCell (Fr.refl _ _) (.inl (by simp)) _
  have F2 : Fr F w ((w.alloc (.cells #[.int .i64 0, .string ⟨#[]⟩, .int .i64 0, .int .i64 0, .int .i64 0] 43)).setCell ⟨pb, 1, none⟩ (.int .i64 ((i : Int) + 1))) := (F0.sub (by simp)).trans (f2.sub (fun k hk => .inl (by simp at hk; subst hk; exact h.pf)))
  have hp2 : ((w.alloc (.cells #[.int .i64 0, .string ⟨#[]⟩, .int .i64 0, .int .i64 0, .int .i64 0] 43)).setCell ⟨pb, 1, none⟩ (.int .i64 ((i : Int) + 1))).heap[pb]? = some (.cells #[.slice (some ⟨tg, 0, none⟩) ts.length tc, .int .i64 ((i : Int) + 1), nv, .map (some bd), .map (some bs), .map (some bf)] 49 (0, 0)) := by simp [World.setCell, Array.getElem?_modify, hb]
  obtain ⟨e0, e1, _⟩ := pt_cells hp2
  have t0 := f2.cell1 t0 (by simpa using htp)
  have t1 := f2.cell1 t1 (by simpa using htp)
  have t2 := f2.cell1 t2 (by simpa using htp)
  have t3 := f2.cell1 t3 (by simpa using htp)
  have t4 := f2.cell1 t4 (by simpa using htp)
  have u2 := u0.fr f2 (by simp; omega)
  have HI : Hid (i + 1 < ts.length) := hi
  have hlI : (ts.length : Int) ≤ tc := by omega
  have hltN : i < ts.length := by omega
  have hw1 : IntKind.i64.wrap ((i : Int) + 1) = (i : Int) + 1 := by rw [IntKind.wrap_i64]; omega
  have hw2 : IntKind.i64.wrap ((i : Int) + 1 - 1) = (i : Int) := by rw [IntKind.wrap_i64]; omega
  have hw3 : (i : Int) + 1 - 1 = (i : Int) := by omega
  have hw4 : IntKind.i64.wrap (i : Int) = (i : Int) := by rw [IntKind.wrap_i64]; omega
  have hi0 : (0 : Int) ≤ (i : Int) := by omega
  unfold tokA
  generalize hW2 : (w.alloc (.cells #[.int .i64 0, .string ⟨#[]⟩, .int .i64 0, .int .i64 0, .int .i64 0] 43)).setCell ⟨pb, 1, none⟩ (.int .i64 ((i : Int) + 1)) = w2 at *
  have hpR : pb ≠ w.heap.size := by omega
  have htR : tg ≠ w.heap.size := by have := HW.out _ htF; omega
  have r0 : ∀ w', Fr [w.heap.size] w2 w' → w'.cell? ⟨pb, 0, none⟩ = _ := fun w' f => f.cell1 e0 (by simpa using hpR)
  have r1 : ∀ w', Fr [w.heap.size] w2 w' → w'.cell? ⟨pb, 1, none⟩ = _ := fun w' f => f.cell1 e1 (by simpa using hpR)
  have s0 : ∀ w', Fr [w.heap.size] w2 w' → w'.cell? ⟨tg, i * 5, none⟩ = _ := fun w' f => f.cell1 t0 (by simpa using htR)
  have s1 : ∀ w', Fr [w.heap.size] w2 w' → w'.cell? ⟨tg, i * 5 + 1, none⟩ = _ := fun w' f => f.cell1 t1 (by simpa using htR)
  have s2 : ∀ w', Fr [w.heap.size] w2 w' → w'.cell? ⟨tg, i * 5 + 2, none⟩ = _ := fun w' f => f.cell1 t2 (by simpa using htR)
  have s3 : ∀ w', Fr [w.heap.size] w2 w' → w'.cell? ⟨tg, i * 5 + 3, none⟩ = _ := fun w' f => f.cell1 t3 (by simpa using htR)
  have s4 : ∀ w', Fr [w.heap.size] w2 w' → w'.cell? ⟨tg, i * 5 + 4, none⟩ = _ := fun w' f => f.cell1 t4 (by simpa using htR)
  have f0 : Fr [w.heap.size] w2 w2 := Fr.refl _ _
  have hmR : w.heap.size ∈ [w.heap.size] ∨ w2.heap.size ≤ w.heap.size := .inl (by simp)
  clear t0 t1 t2 t3 t4 e0 e1 hb hp2 h1
  generalize tk ts i = t at *
  obtain ⟨k, tx, fr, to, n⟩ := t
  simp only at *
  go_enter Tryz.func52, Tryz.ntmps52
  have d0 := u2.c0
  have d1 := u2.c1
  have d2 := u2.c2
  have d3 := u2.c3
  have d4 := u2.c4
  have dz := u2.fz
  have HR : Hid (w.heap.size ∉ F) := fun hm => by have := HW.out _ hm; omega
  have F3 := TB.fset (Fr.refl [w.heap.size] w2) (B := w.heap.size) (.inl (by simp)) (.int .i64 (k : Nat)) (.string ⟨tx.toArray⟩) (.int .i64 (fr : Nat)) (.int .i64 (to : Nat)) (.int .i64 (n : Nat))
  have F3d := F3.drew
  go_wp2
  go_region_held3 (fun w' => Fr [w.heap.size] w2 w') (with_reducible (first | assumption | (refine Fr.drew ?_; assumption))) (fail)
  clear r0 r1 s0 s1 s2 s3 s4 d0 d1 d2 d3 d4 dz
  go_wp2
  have u3 := u2.set (.int .i64 (k : Nat)) (.string ⟨tx.toArray⟩) (.int .i64 (fr : Nat)) (.int .i64 (to : Nat)) (.int .i64 (n : Nat))
  have g0 := u3.c0
  have g1 := u3.c1
  have g2 := u3.c2
  have g3 := u3.c3
  have g4 := u3.c4
  have h3 := h2.fr F3d (fun j hj => by simp at hj; subst hj; exact HR.out)
  have F4 : Fr F w _ := ((F2.sub (T := w.heap.size :: F) (fun k hk => .inl (by simp [hk]))).trans (F3d.sub (fun k hk => .inl (by simp at hk; simp [hk])))).sub (fun k hk => by
    simp at hk
    rcases hk with rfl | hk
    · exact .inr (Nat.le_refl _)
    · exact .inl hk)
  refine bodyPost_ret (v := .agg #[.int .i64 (k : Nat), .string ⟨tx.toArray⟩, .int .i64 (fr : Nat), .int .i64 (to : Nat), .int .i64 (n : Nat)]) ?_ rfl ⟨rfl, h3, F4⟩
  clear h3 F4 F3 F3d u3
  generalize ((((w2.setCell _ _).setCell _ _).setCell _ _).setCell _ _).setCell _ _ = w3 at *
  simp [results, Tryz.results52, go_sem, g0, g1, g2, g3, g4]

/-- What is thrown. -/
def thrown (ts : List Tok) (k : Nat) : Ending := .panicked [{ v := .iface 45 (.agg #[.int .i64 ((tk ts k).frm : Nat)]), recovered := false }]

set_option maxRecDepth 100000 in
set_option maxHeartbeats 1000000 in
theorem refuse_any {ts : List Tok} {B pb : Nat} {F : List Nat} {i : Nat} {ns : List PN} {w : World} (h : PS ts B pb F i ns w) :
    Calls Tryz.prog 65 #[.pointer (some ⟨pb, 0, none⟩)] w fun e w' => e = thrown ts i ∧ Fr [] w w' := by
  obtain ⟨tg, tc, nv, bd, bs, bf, ⟨hb, t0, t1, t2, t3, t4, hlen, hlc, hlt⟩, _, _⟩ := h.pt
  obtain ⟨c0, c1, c2, c3, c4, c5, cz⟩ := pt_cells hb
  have hlt' : i < ts.length := h.ti
  have hlI : (ts.length : Int) ≤ tc := by omega
  unfold thrown
  clear hb h
  have F1 : Fr [] w w.drew := (Fr.refl _ _).drew
  clear c2 c3 c4 c5 t0 t1 t3 t4
  go_enter Tryz.func65, Tryz.ntmps65
  go_wp2
  go_region_dies
  all_goals (try go_wp2)
  all_goals exact ⟨rfl, rfl, F1⟩

set_option maxRecDepth 100000 in
set_option maxHeartbeats 1000000 in
/-- It goes behind the next token, if it is that one. -/
theorem passIf_yes {ts : List Tok} {B pb : Nat} {F : List Nat} {i : Nat} {ns : List PN} {w : World} (h : PS ts B pb F i ns w) (what : List UInt8) (hw : nx ts i = what) (hi : i + 1 < ts.length) :
    Calls Tryz.prog 61 #[.pointer (some ⟨pb, 0, none⟩), .string ⟨what.toArray⟩] w fun e w' => e = .returned (.bool true) ∧ PS ts B pb F (i + 1) ns w' ∧ Fr F w w' := by
  have C1 := next_any h
  rw [hw] at C1
  go_enter Tryz.func61, Tryz.ntmps61
  go_wp2_with fail
  refine C1.mono ?_
  rintro e w1 ⟨rfl, f1⟩
  have C2 := pass_any (h.fr f1 (by simp)) hi
  go_wp2_with fail
  refine C2.mono ?_
  rintro e w2 ⟨rfl, h2, f2⟩
  go_wp2
  go_ret
  exact ⟨rfl, h2, (f1.sub (by simp)).trans (f2.sub (fun k hk => .inl hk))⟩
set_option maxRecDepth 100000 in
set_option maxHeartbeats 1000000 in
theorem passIf_no {ts : List Tok} {B pb : Nat} {F : List Nat} {i : Nat} {ns : List PN} {w : World} (h : PS ts B pb F i ns w) (what : List UInt8) (hw : nx ts i ≠ what) :
    Calls Tryz.prog 61 #[.pointer (some ⟨pb, 0, none⟩), .string ⟨what.toArray⟩] w fun e w' => e = .returned (.bool false) ∧ Fr [] w w' := by
  have C1 := next_any h
  have hne : (nx ts i == what) = false := by simpa using hw
  clear hw
  generalize nx ts i = X at *
  go_enter Tryz.func61, Tryz.ntmps61
  go_wp2_with fail
  refine C1.mono ?_
  rintro e w1 ⟨rfl, f1⟩
  go_wp2
  go_ret
  exact ⟨rfl, f1⟩

set_option maxRecDepth 100000 in
set_option maxHeartbeats 1000000 in
/-- It must be there. -/
theorem want_yes {ts : List Tok} {B pb : Nat} {F : List Nat} {i : Nat} {ns : List PN} {w : World} (h : PS ts B pb F i ns w) (what : List UInt8) (hw : nx ts i = what) (hi : i + 1 < ts.length) :
    Calls Tryz.prog 53 #[.pointer (some ⟨pb, 0, none⟩), .string ⟨what.toArray⟩] w fun e w' => e = .returned (.agg (tokA (tk ts i))) ∧ PS ts B pb F (i + 1) ns w' ∧ Fr F w w' := by
  have F0 : Fr [] w (w.alloc (.cells #[.int .i64 0, .string ⟨#[]⟩, .int .i64 0, .int .i64 0, .int .i64 0] 43)) := (Fr.refl _ _).alloc _
  have u0 := TB.new w (.int .i64 0) (.string ⟨#[]⟩) (.int .i64 0) (.int .i64 0) (.int .i64 0)
  have HR : Hid (w.heap.size ∉ F) := fun hm => by have := (h.fb _ hm).2; omega
  have C1 := next_any (h.fr F0 (by simp))
  rw [hw] at C1
  have C2 := fun w1 (f : Fr [] w w1) => pass_any (h.fr f (by simp)) hi
  unfold tokA at C2 ⊢
  generalize tk ts i = t at *
  obtain ⟨k, tx, fr, to, n⟩ := t
  simp only at *
  go_enter Tryz.func53, Tryz.ntmps53
  go_wp2_with fail
  refine C1.mono ?_
  rintro e w1 ⟨rfl, f1⟩
  have u1 := u0.fr f1 (by simp)
  have F1 := F0.trans f1
  have C3 := C2 w1 F1
  clear C2
  go_wp2_with fail
  refine C3.mono ?_
  rintro e w2 ⟨rfl, h2, f2⟩
  have u2 := u1.fr f2 HR.out
  have d0 := u2.c0
  have d1 := u2.c1
  have d2 := u2.c2
  have d3 := u2.c3
  have d4 := u2.c4
  have dz := u2.fz
  clear C1 C3 u0 u1
  go_wp2
  clear d0 d1 d2 d3 d4 dz
  have u3 := u2.set (.int .i64 (k : Nat)) (.string ⟨tx.toArray⟩) (.int .i64 (fr : Nat)) (.int .i64 (to : Nat)) (.int .i64 (n : Nat))
  have F3 := TB.fset (Fr.refl [w.heap.size] w2) (B := w.heap.size) (.inl (by simp)) (.int .i64 (k : Nat)) (.string ⟨tx.toArray⟩) (.int .i64 (fr : Nat)) (.int .i64 (to : Nat)) (.int .i64 (n : Nat))
  have g0 := u3.c0
  have g1 := u3.c1
  have g2 := u3.c2
  have g3 := u3.c3
  have g4 := u3.c4
  have h3 := h2.fr F3 (fun j hj => by simp at hj; subst hj; exact HR.out)
  have F4 : Fr F w _ := (((F1.sub (T := w.heap.size :: F) (by simp)).trans (f2.sub (fun k hk => .inl (by simp [hk])))).trans (F3.sub (fun k hk => .inl (by simp at hk; simp [hk])))).sub (fun k hk => by
    simp at hk
    rcases hk with rfl | hk
    · exact .inr (Nat.le_refl _)
    · exact .inl hk)
  refine bodyPost_ret (v := .agg #[.int .i64 (k : Nat), .string ⟨tx.toArray⟩, .int .i64 (fr : Nat), .int .i64 (to : Nat), .int .i64 (n : Nat)]) ?_ rfl ⟨rfl, h3, F4⟩
  clear h3 F4 F3 u3
  generalize ((((w2.setCell _ _).setCell _ _).setCell _ _).setCell _ _).setCell _ _ = w3 at *
  simp [results, Tryz.results53, go_sem, g0, g1, g2, g3, g4]
set_option maxRecDepth 100000 in
set_option maxHeartbeats 1000000 in
theorem want_no {ts : List Tok} {B pb : Nat} {F : List Nat} {i : Nat} {ns : List PN} {w : World} (h : PS ts B pb F i ns w) (what : List UInt8) (hw : nx ts i ≠ what) :
    Calls Tryz.prog 53 #[.pointer (some ⟨pb, 0, none⟩), .string ⟨what.toArray⟩] w fun e w' => e = thrown ts i ∧ Fr [] w w' := by
  have F0 : Fr [] w (w.alloc (.cells #[.int .i64 0, .string ⟨#[]⟩, .int .i64 0, .int .i64 0, .int .i64 0] 43)) := (Fr.refl _ _).alloc _
  have C1 := next_any (h.fr F0 (by simp))
  have hne : (nx ts i == what) = false := by simpa using hw
  clear hw
  generalize nx ts i = X at *
  unfold thrown
  go_enter Tryz.func53, Tryz.ntmps53
  go_wp2_with fail
  refine C1.mono ?_
  rintro e w1 ⟨rfl, f1⟩
  have F1 := F0.trans f1
  have C2 := refuse_any (h.fr F1 (by simp))
  unfold thrown at C2
  go_wp2_with fail
  refine C2.mono ?_
  rintro e w2 ⟨rfl, f2⟩
  exact ⟨rfl, rfl, F1.trans f2⟩
end Go.Proofs.YtekjfddcbcijdaaGreatDoor
