/-
  Texts of the proof, in their order: ShwD, ShwE, ShwG, ShwH, ShwI, ShwJ, ShwK, ShwL, ShwM, ShwN, ShwO, ShwP, ShwQ, ShwR, ShwF, ShwS, ShwT, ShwU, ShwV, ShwW, ShwX; conditions: as each says.
-/
import Derived.Lib.UnsafeStr
import Derived.Test.YtnebhkglpggnlaaGreatDoorMgJECN
import Derived.Test.YtnebhkglpggnlaaGreatDoorMgKACE
import Derived.Test.YtnebhkglpggnlaaGreatDoorMgPCOC
namespace Go.Proofs.YtnebhkglpggnlaaGreatDoor
open Go.RowKit
set_option linter.unusedVariables false
set_option linter.unusedSimpArgs false

inductive Part where
  | text (s : ByteArray) | num (n : Int) | decls (n : Nat) | body (n : Nat) | other (n : Nat) | whole (n : Nat) | side (n t : Nat) | row (ks : List Int) | brk (n : Nat)
def PVal (B : Nat) (w : World) : Part → Value → Prop
  | .text s, v => v = .iface 9 (.string s)
  | .num n, v => v = .iface 3 (.int .i64 n)
  | .decls n, v => v = .iface 38 (.int .i64 (n : Nat))
  | .body n, v => v = .iface 86 (.int .i64 (n : Nat))
  | .other n, v => v = .iface 87 (.int .i64 (n : Nat))
  | .whole n, v => v = .iface 89 (.int .i64 (n : Nat))
  | .side n t, v => v = .iface 92 (.agg #[.int .i64 (n : Nat), .int .i64 (t : Nat)])
  | .row ks, v => ∃ a c, v = .iface 93 (.slice a ks.length c) ∧ T5.KAt B w a ks ∧ ks.length ≤ c
  | .brk n, v => v = .iface 42 (.int .i64 (n : Nat))
theorem PVal.fr {B : Nat} {S : List Nat} {w w' : World} {p : Part} {v : Value} (h : PVal B w p v) (f : Fr S w w') (hS : ∀ k, k ∈ S → B ≤ k) : PVal B w' p v := by
  cases p <;> try exact h
  obtain ⟨a, c, h1, h2, h3⟩ := h
  exact ⟨a, c, h1, h2.fr f hS, h3⟩
def PVs (B : Nat) (w : World) : List Part → List Value → Prop
  | [], [] => True
  | p :: ps, v :: vs => PVal B w p v ∧ PVs B w ps vs
  | _, _ => False
theorem PVs.fr {B : Nat} {S : List Nat} {w w' : World} (f : Fr S w w') (hS : ∀ k, k ∈ S → B ≤ k) : ∀ {ps : List Part} {vs : List Value}, PVs B w ps vs → PVs B w' ps vs
  | [], [], _ => trivial
  | _ :: _, _ :: _, ⟨h1, h2⟩ => ⟨h1.fr f hS, h2.fr f hS⟩
  | [], _ :: _, h => h.elim
  | _ :: _, [], h => h.elim
theorem PVs.len {B : Nat} {w : World} : ∀ {ps : List Part} {vs : List Value}, PVs B w ps vs → vs.length = ps.length
  | [], [], _ => rfl
  | _ :: _, _ :: _, ⟨_, h2⟩ => by simp [h2.len]
  | [], _ :: _, h => h.elim
  | _ :: _, [], h => h.elim
theorem PVs.at {B : Nat} {w : World} : ∀ {ps : List Part} {vs : List Value}, PVs B w ps vs → ∀ {i : Nat} {p : Part}, ps[i]? = some p → ∃ v, vs[i]? = some v ∧ PVal B w p v
  | [], [], _, i, p, h => by simp at h
  | p0 :: _, v0 :: _, ⟨h1, h2⟩, 0, p, h => by simp at h; subst h; exact ⟨v0, rfl, h1⟩
  | _ :: _, _ :: _, ⟨_, h2⟩, i + 1, p, h => by simpa using h2.at (by simpa using h)
  | [], _ :: _, h, _, _, _ => h.elim
  | _ :: _, [], h, _, _, _ => h.elim
/-- Parts in a row of memory. -/
def PR (B : Nat) (w : World) (g : Nat) (ps : List Part) : Prop := ∃ vs : List Value, w.heap[g]? = some (.cells vs.toArray 20 (0, 0)) ∧ PVs B w ps vs
theorem PR.fr {B : Nat} {S : List Nat} {w w' : World} {g : Nat} {ps : List Part} (h : PR B w g ps) (f : Fr S w w') (hS : ∀ k, k ∈ S → B ≤ k) (hg : g ∉ S) : PR B w' g ps := by
  obtain ⟨vs, h1, h2⟩ := h
  exact ⟨vs, (f.block _ (Array.getElem?_eq_some_iff.1 h1).1 hg).trans h1, h2.fr f hS⟩
theorem PR.cell {B : Nat} {w : World} {g : Nat} {ps : List Part} (h : PR B w g ps) {i : Nat} {p : Part} (hp : ps[i]? = some p) : ∃ v, w.cell? ⟨g, i, none⟩ = some v ∧ PVal B w p v := by
  obtain ⟨vs, h1, h2⟩ := h
  obtain ⟨v, h3, h4⟩ := h2.at hp
  exact ⟨v, at_cells h1 i (by simpa using h3), h4⟩
/-- The text of a part, with so many blocks about the line. -/
def bodyB (L : List T5.Nd) (ab n : Nat) : List UInt8 := 10 :: (bN L (ab + 1) n ++ ind ab)
def txtP (L : List T5.Nd) (ab : Nat) : Part → List UInt8
  | .text s => s.data.toList
  | .num n => Lib.itoa n
  | .decls n => pN L n
  | .body n => bodyB L ab n
  | .other n => if T5.kd L n = 14 then [] else [125, 32, 101, 108, 115, 101, 32, 123] ++ bodyB L ab n
  | .whole n => eN L n
  | .side n t => hN L n t
  | .row ks => joinC (ks.map (eN L))
  | .brk n => lispN L n
def txtL (L : List T5.Nd) (ab : Nat) (ps : List Part) : List UInt8 := (ps.map (txtP L ab)).flatten
/-- How far within it stands; whether it may be. -/
def Fits (r : Nat) : Part → Prop
  | .text _ => True
  | .num _ => True
  | .decls n => 3 * n + 1 ≤ r
  | .body n => 3 * n + 1 ≤ r
  | .other n => 3 * n + 2 ≤ r
  | .whole n => 3 * n + 1 ≤ r
  | .side n _ => 3 * n + 2 ≤ r
  | .row ks => ∀ k ∈ ks, 3 * k.toNat + 2 ≤ r
  | .brk n => 3 * n + 1 ≤ r
def OkP (L : List T5.Nd) (ab : Nat) : Part → Prop
  | .text _ => True
  | .num n => -9223372036854775808 ≤ n ∧ n ≤ 9223372036854775807
  | .decls n => n < L.length ∧ T5.kd L n = 1 ∧ ab = 0
  | .body n => n < L.length ∧ T5.kd L n = 4 ∧ ab + n ≤ 60000
  | .other n => n < L.length ∧ (T5.kd L n = 4 ∨ T5.kd L n = 14) ∧ ab + n ≤ 60000
  | .whole n => n < L.length ∧ T5.isEx (T5.kd L n) = true
  | .side n t => n < L.length ∧ T5.isEx (T5.kd L n) = true ∧ t ≤ 7
  | .row ks => ks.length ≤ 50000 ∧ ∀ k ∈ ks, 0 ≤ k ∧ k.toNat < L.length ∧ T5.isEx (T5.kd L k) = true
  | .brk n => n < L.length
/-- What does not change while one writes. -/
structure Cst (L : List T5.Nd) (B : Nat) (a : Option Addr) (len : Nat) : Prop where
  shp : Shp L
  ln : L.length = len
  few : len ≤ 50000
  kf : ∀ (i : Nat) (x : T5.Nd), L[i]? = some x → x.ks.length ≤ 50000
  rg : ∀ (i : Nat) (x : T5.Nd), L[i]? = some x → x.pl ≤ 9223372036854775807
def Put (L : List T5.Nd) (B wb : Nat) (a : Option Addr) (len cap most r : Nat) : Prop := ∀ (ps : List Part) (w : World) (F : List Nat) (bs : List UInt8) (lg : Bool) (ab g : Nat), (∀ p ∈ ps, Fits r p ∧ OkP L ab p) → WS B wb F (.slice a len cap) most bs lg ab w → T5.NAt B w a L → Tabs w → PR B w g ps → g ∉ F → bs.length + (txtL L ab ps).length ≤ 1000000000000 → ps.length ≤ 100 →
  Calls Tryz.prog 26 #[.pointer (some ⟨wb, 0, none⟩), .slice (some ⟨g, 0, none⟩) ps.length ps.length] w (PostW B wb F (.slice a len cap) most bs lg ab w (txtL L ab ps))
theorem NAt.tr {B : Nat} {F : List Nat} {w w' : World} {a : Option Addr} {L : List T5.Nd} (h : T5.NAt B w a L) (f : Fr F w w') (hF : ∀ k, k ∈ F → B ≤ k) : T5.NAt B w' a L := h.fr f hF
theorem PostW.trans {B wb : Nat} {F F1 : List Nat} {av : Value} {most : Nat} {bs bs1 t1 t2 : List UInt8} {lg lg1 : Bool} {ab : Nat} {w w1 : World} {e : Ending} {w' : World} (h1 : Adds most bs lg t1 bs1 lg1) (h2 : Tr F w F1 w1) (h : PostW B wb F1 av most bs1 lg1 ab w1 t2 e w') : PostW B wb F av most bs lg ab w (t1 ++ t2) e w' := by
  obtain ⟨he, bs', lg', F', k1, k2, k3⟩ := h
  exact ⟨he, bs', lg', F', h1.trans k1, k2, h2.trans k3⟩
theorem PostW.cast {B wb : Nat} {F : List Nat} {av : Value} {most : Nat} {bs t t' : List UInt8} {lg : Bool} {ab : Nat} {w : World} {e : Ending} {w' : World} (h : PostW B wb F av most bs lg ab w t e w') (ht : t = t') : PostW B wb F av most bs lg ab w t' e w' := ht ▸ h
/-- Parts that have just been laid down are put. -/
theorem putA {L : List T5.Nd} {B wb : Nat} {a : Option Addr} {len cap most r : Nat} (H : Put L B wb a len cap most r) (ps : List Part) (vs : List Value) {w : World} {F : List Nat} {bs : List UInt8} {lg : Bool} {ab : Nat} (hp : ∀ p ∈ ps, Fits r p ∧ OkP L ab p) (h : WS B wb F (.slice a len cap) most bs lg ab w) (hL : T5.NAt B w a L) (T : Tabs w) (hv : PVs B w ps vs) (hl : bs.length + (txtL L ab ps).length ≤ 1000000000000) (hn : ps.length ≤ 100) (n : Nat) (hnn : ps.length = n) :
    Calls Tryz.prog 26 #[.pointer (some ⟨wb, 0, none⟩), .slice (some ⟨w.heap.size, 0, none⟩) n n] (w.alloc (.cells vs.toArray 20)) (PostW B wb F (.slice a len cap) most bs lg ab w (txtL L ab ps)) := by
  subst hnn
  have f1 : Fr [] w (w.alloc (.cells vs.toArray 20)) := (Fr.refl _ _).alloc _
  refine (H ps _ F bs lg ab w.heap.size hp (h.fr f1 (by simp)) (hL.fr f1 (by simp)) (T.fr f1 (by simp)) ⟨vs, heap_alloc_new w _, hv.fr f1 (by simp)⟩ (fun hm => by have := (h.fb _ hm).2; omega) hl hn).mono ?_
  rintro e w' ⟨he, bs', lg', F', k1, k2, k3⟩
  exact ⟨he, bs', lg', F', k1, k2, (Tr.of0 f1).trans k3⟩

set_option maxRecDepth 100000 in
set_option maxHeartbeats 1000000 in
theorem opT_any (s : List UInt8) (w : World) : Calls Tryz.prog 98 #[.string ⟨s.toArray⟩] w fun e w' => e = .returned (.int .i64 (opT s : Nat)) ∧ w' = w := by
  by_cases e0 : s = [42]
  · subst e0
    go_enter Tryz.func98, Tryz.ntmps98
    go_wp2
    go_ret
    exact ⟨rfl, rfl⟩
  by_cases e1 : s = [47]
  · subst e1
    go_enter Tryz.func98, Tryz.ntmps98
    go_wp2
    go_ret
    exact ⟨rfl, rfl⟩
  by_cases e2 : s = [37]
  · subst e2
    go_enter Tryz.func98, Tryz.ntmps98
    go_wp2
    go_ret
    exact ⟨rfl, rfl⟩
  by_cases e3 : s = [43]
  · subst e3
    go_enter Tryz.func98, Tryz.ntmps98
    go_wp2
    go_ret
    exact ⟨rfl, rfl⟩
  by_cases e4 : s = [45]
  · subst e4
    go_enter Tryz.func98, Tryz.ntmps98
    go_wp2
    go_ret
    exact ⟨rfl, rfl⟩
  by_cases e5 : s = [60, 60]
  · subst e5
    go_enter Tryz.func98, Tryz.ntmps98
    go_wp2
    go_ret
    exact ⟨rfl, rfl⟩
  by_cases e6 : s = [62, 62]
  · subst e6
    go_enter Tryz.func98, Tryz.ntmps98
    go_wp2
    go_ret
    exact ⟨rfl, rfl⟩
  by_cases e7 : s = [38]
  · subst e7
    go_enter Tryz.func98, Tryz.ntmps98
    go_wp2
    go_ret
    exact ⟨rfl, rfl⟩
  by_cases e8 : s = [124]
  · subst e8
    go_enter Tryz.func98, Tryz.ntmps98
    go_wp2
    go_ret
    exact ⟨rfl, rfl⟩
  by_cases e9 : s = [94]
  · subst e9
    go_enter Tryz.func98, Tryz.ntmps98
    go_wp2
    go_ret
    exact ⟨rfl, rfl⟩
  have h0 : opT s = 0 := by unfold opT; simp [e0, e1, e2, e3, e4, e5, e6, e7, e8, e9]
  rw [h0]
  have b0 : (s == [42]) = false := by simpa using e0
  have b1 : (s == [47]) = false := by simpa using e1
  have b2 : (s == [37]) = false := by simpa using e2
  have b3 : (s == [43]) = false := by simpa using e3
  have b4 : (s == [45]) = false := by simpa using e4
  have b5 : (s == [60, 60]) = false := by simpa using e5
  have b6 : (s == [62, 62]) = false := by simpa using e6
  have b7 : (s == [38]) = false := by simpa using e7
  have b8 : (s == [124]) = false := by simpa using e8
  have b9 : (s == [94]) = false := by simpa using e9
  go_enter Tryz.func98, Tryz.ntmps98
  go_wp2
  go_ret
  exact ⟨rfl, rfl⟩
set_option maxRecDepth 100000 in
set_option maxHeartbeats 1000000 in
theorem word_any (k : Int) (w : World) : Calls Tryz.prog 96 #[.int .i64 k] w fun e w' => e = .returned (.string ⟨(wordB k).toArray⟩) ∧ w' = w := by
  by_cases e0 : k = 9
  · subst e0
    go_enter Tryz.func96, Tryz.ntmps96
    go_wp2
    go_ret
    exact ⟨rfl, rfl⟩
  by_cases e1 : k = 10
  · subst e1
    go_enter Tryz.func96, Tryz.ntmps96
    go_wp2
    go_ret
    exact ⟨rfl, rfl⟩
  by_cases e2 : k = 11
  · subst e2
    go_enter Tryz.func96, Tryz.ntmps96
    go_wp2
    go_ret
    exact ⟨rfl, rfl⟩
  by_cases e3 : k = 16
  · subst e3
    go_enter Tryz.func96, Tryz.ntmps96
    go_wp2
    go_ret
    exact ⟨rfl, rfl⟩
  by_cases e4 : k = 30
  · subst e4
    go_enter Tryz.func96, Tryz.ntmps96
    go_wp2
    go_ret
    exact ⟨rfl, rfl⟩
  by_cases e5 : k = 24
  · subst e5
    go_enter Tryz.func96, Tryz.ntmps96
    go_wp2
    go_ret
    exact ⟨rfl, rfl⟩
  by_cases e6 : k = 25
  · subst e6
    go_enter Tryz.func96, Tryz.ntmps96
    go_wp2
    go_ret
    exact ⟨rfl, rfl⟩
  by_cases e7 : k = 26
  · subst e7
    go_enter Tryz.func96, Tryz.ntmps96
    go_wp2
    go_ret
    exact ⟨rfl, rfl⟩
  by_cases e8 : k = 27
  · subst e8
    go_enter Tryz.func96, Tryz.ntmps96
    go_wp2
    go_ret
    exact ⟨rfl, rfl⟩
  by_cases e9 : k = 28
  · subst e9
    go_enter Tryz.func96, Tryz.ntmps96
    go_wp2
    go_ret
    exact ⟨rfl, rfl⟩
  by_cases e10 : k = 29
  · subst e10
    go_enter Tryz.func96, Tryz.ntmps96
    go_wp2
    go_ret
    exact ⟨rfl, rfl⟩
  have h0 : wordB k = [] := by unfold wordB; simp [e0, e1, e2, e3, e4, e5, e6, e7, e8, e9, e10]
  rw [h0]
  go_enter Tryz.func96, Tryz.ntmps96
  go_wp2
  go_ret
  exact ⟨rfl, rfl⟩
end Go.Proofs.YtnebhkglpggnlaaGreatDoor
namespace Go.Proofs.YtnebhkglpggnlaaGreatDoor
open Go.RowKit
set_option linter.unusedVariables false
set_option linter.unusedSimpArgs false

theorem repeat_ind : ∀ ab, Lib.repeatL [32, 32, 32, 32] ab = ind ab
  | 0 => rfl
  | n + 1 => by
    have e : ind (n + 1) = [32, 32, 32, 32] ++ ind n := by
      unfold ind
      rw [show 4 * (n + 1) = 4 + 4 * n by omega, ← List.replicate_append_replicate]
      rfl
    simp only [Lib.repeatL, repeat_ind n, e]
section
variable {L : List T5.Nd} {B wb : Nat} {a : Option Addr} {len cap most r : Nat} {w : World} {F : List Nat} {bs : List UInt8} {lg : Bool} {ab : Nat}
set_option maxRecDepth 100000 in
set_option maxHeartbeats 1000000 in
theorem moveIn_any (H : Put L B wb a len cap most r) (h : WS B wb F (.slice a len cap) most bs lg ab w) (hL : T5.NAt B w a L) (T : Tabs w) (hl : bs.length + (ind ab).length ≤ 1000000000000) :
    Calls Tryz.prog 78 #[.pointer (some ⟨wb, 0, none⟩)] w (PostW B wb F (.slice a len cap) most bs lg ab w (ind ab)) := by
  obtain ⟨p, v, hb, hp, hown, hv⟩ := h.ex
  obtain ⟨c0, c1, c2, c3, c4, c5, cz⟩ := wr_cells hb
  have hal := h.al
  have CR := Tryz.strings_Repeat ⟨#[32, 32, 32, 32]⟩ ab w (by omega) (by show 4 * ab ≤ _; omega)
  have er : Lib.repeatL (⟨#[32, 32, 32, 32]⟩ : ByteArray).data.toList ab = ind ab := repeat_ind ab
  rw [er] at CR
  clear c1 c2 c3 c4 cz hb hown hv hp
  go_enter Tryz.func78, Tryz.ntmps78
  go_wp2_with fail
  refine CR.mono ?_
  rintro e w1 ⟨rfl, hb1⟩
  have f1 := Fr.ofBelow hb1
  have et : txtL L ab [.text ⟨(ind ab).toArray⟩] = ind ab := by simp [txtL, txtP]
  have CP := putA H [.text ⟨(ind ab).toArray⟩] [.iface 9 (.string ⟨(ind ab).toArray⟩)] (by simp [Fits, OkP]) (h.fr f1 (by simp)) (hL.fr f1 (by simp)) (T.fr f1 (by simp)) ⟨rfl, trivial⟩ (by rw [et]; exact hl) (by simp) 1 rfl
  rw [et] at CP
  clear CR et er c0 c5
  go_wp2_with fail
  refine CP.mono ?_
  rintro e w2 ⟨rfl, bs', lg', F', k1, k2, k3⟩
  go_wp2
  go_end0
  exact ⟨rfl, bs', lg', F', k1, k2, (Tr.of0 f1).trans k3⟩
/-- Parts as a line of their own. -/
def lineB (L : List T5.Nd) (ab : Nat) (ps : List Part) : List UInt8 := ind ab ++ (txtL L ab ps ++ [10])
set_option maxRecDepth 100000 in
set_option maxHeartbeats 1000000 in
theorem line_any (H : Put L B wb a len cap most r) (ps : List Part) (vs : List Value) (hp : ∀ p ∈ ps, Fits r p ∧ OkP L ab p) (h : WS B wb F (.slice a len cap) most bs lg ab w) (hL : T5.NAt B w a L) (T : Tabs w) (hv : PVs B w ps vs) (hl : bs.length + (lineB L ab ps).length ≤ 1000000000000) (hn : ps.length ≤ 100) (n : Nat) (hnn : ps.length = n) :
    Calls Tryz.prog 95 #[.pointer (some ⟨wb, 0, none⟩), .slice (some ⟨w.heap.size, 0, none⟩) n n] (w.alloc (.cells vs.toArray 20)) (PostW B wb F (.slice a len cap) most bs lg ab w (lineB L ab ps)) := by
  subst hnn
  have hB : Hid (B ≤ w.heap.size) := by have := h.fb wb h.pf; unfold Hid; omega
  have f1 : Fr [] w (w.alloc (.cells vs.toArray 20)) := (Fr.refl _ _).alloc _
  have h1 := h.fr f1 (by simp)
  have hg : w.heap.size ∉ F := fun hm => by have := (h.fb _ hm).2; omega
  have hlt : w.heap.size < (w.alloc (.cells vs.toArray 20)).heap.size := by simp
  have pr : PR B (w.alloc (.cells vs.toArray 20)) w.heap.size ps := ⟨vs, heap_alloc_new w _, hv.fr f1 (by simp)⟩
  unfold lineB at hl ⊢
  simp only [List.length_append] at hl
  have CM := moveIn_any H h1 (hL.fr f1 (by simp)) (T.fr f1 (by simp)) (by omega)
  generalize w.alloc (.cells vs.toArray 20) = wA at *
  generalize w.heap.size = g at *
  go_enter Tryz.func95, Tryz.ntmps95
  go_wp2_with fail
  refine CM.mono ?_
  rintro e w1 ⟨rfl, bs1, lg1, F1, k1, k2, k3⟩
  have hg1 := Tr.notin k3 hg hlt
  have fA := (Tr.of0 f1).trans k3
  have hl1 := k1.1
  have CP := H ps w1 F1 bs1 lg1 ab g hp k2 (hL.fr fA.f h.hi) (h.tabs T fA.f) (pr.fr k3.f h1.hi hg) hg1 (by omega) hn
  clear CM pr hv
  go_wp2_with fail
  refine CP.mono ?_
  rintro e w2 ⟨rfl, bs2, lg2, F2, j1, j2, j3⟩
  have fB := fA.trans j3
  have hl2 := j1.1
  have et : txtL L ab [.text ⟨#[10]⟩] = [10] := by simp [txtL, txtP]
  have CQ := putA H [.text ⟨#[10]⟩] [.iface 9 (.string ⟨#[10]⟩)] (by simp [Fits, OkP]) j2 (hL.fr fB.f h.hi) (h.tabs T fB.f) ⟨rfl, trivial⟩ (by rw [et]; simp only [List.length_cons, List.length_nil] at hl ⊢; omega) (by simp) 1 rfl
  rw [et] at CQ
  clear CP
  go_wp2_with fail
  refine CQ.mono ?_
  rintro e w3 ⟨rfl, bs3, lg3, F3, i1, i2, i3⟩
  go_wp2
  go_end0
  exact ⟨rfl, bs3, lg3, F3, k1.trans (j1.trans i1), i2, fB.trans i3⟩
set_option maxRecDepth 100000 in
set_option maxHeartbeats 1000000 in
theorem tight_any (kind : Int) (text : ByteArray) (v : Value) (pl : Int) (w : World) : Calls Tryz.prog 79 #[.agg #[.int .i64 kind, .string text, v, .int .i64 pl]] w fun e w' => e = .returned (.int .i64 ((if kind = 19 then opT text.data.toList else if kind = 18 then 6 else 7 : Nat) : Nat)) ∧ Fr [] w w' := by
  have f1 : Fr [] w (w.alloc (.cells #[.int .i64 kind, .string text, v, .int .i64 pl] 36)) := (Fr.refl _ _).alloc _
  by_cases h1 : kind = 19
  · subst h1
    rw [if_pos rfl]
    have CO := fun w1 => opT_any text.data.toList w1
    have e0 : (⟨text.data.toList.toArray⟩ : ByteArray) = text := by cases text; rfl
    rw [e0] at CO
    go_enter Tryz.func79, Tryz.ntmps79
    go_wp2_with fail
    refine (CO _).mono ?_
    rintro e w1 ⟨rfl, rfl⟩
    go_wp2
    go_ret
    exact ⟨rfl, f1⟩
  · rw [if_neg h1]
    by_cases h2 : kind = 18
    · subst h2
      rw [if_pos rfl]
      go_enter Tryz.func79, Tryz.ntmps79
      go_wp2
      go_ret
      exact ⟨rfl, f1⟩
    · rw [if_neg h2]
      go_enter Tryz.func79, Tryz.ntmps79
      go_wp2
      go_ret
      exact ⟨rfl, f1⟩
end
end Go.Proofs.YtnebhkglpggnlaaGreatDoor
namespace Go.Proofs.YtnebhkglpggnlaaGreatDoor
open Go.RowKit
set_option linter.unusedVariables false
set_option linter.unusedSimpArgs false

section
variable {L : List T5.Nd} {B wb : Nat} {a : Option Addr} {len cap most r : Nat} {w : World} {F : List Nat} {bs : List UInt8} {lg : Bool} {ab : Nat}
/-- A node as a value. -/
def ndV (x : T5.Nd) : Value := .agg #[.int .i64 x.kind, .string x.text, .slice x.a x.ks.length x.c, .int .i64 x.pl]
/-- What is said of a call that writes one node. -/
def NodeC (L : List T5.Nd) (B wb : Nat) (a : Option Addr) (len cap most fn : Nat) (x : T5.Nd) (t : Nat → List UInt8) : Prop := ∀ (w : World) (F : List Nat) (bs : List UInt8) (lg : Bool) (ab : Nat), WS B wb F (.slice a len cap) most bs lg ab w → T5.NAt B w a L → Tabs w → bs.length + (t ab).length ≤ 1000000000000 →
  Calls Tryz.prog fn #[.pointer (some ⟨wb, 0, none⟩), ndV x] w (PostW B wb F (.slice a len cap) most bs lg ab w (t ab))
theorem tg_eq {n : Nat} {x : T5.Nd} (hx : L[n]? = some x) : tg L (n : Nat) = tightN x := by unfold tg; simp [hx]
set_option maxRecDepth 100000 in
set_option maxHeartbeats 2000000 in
theorem side_any (K : Cst L B a len) (H : Put L B wb a len cap most r) {n t : Nat} {x : T5.Nd} (hx : L[n]? = some x) (hex : T5.isEx x.kind = true) (ht : t ≤ 7) (hr : tightN x < t → 3 * n + 1 ≤ r) (hE : NodeC L B wb a len cap most 80 x (fun _ => eN L n)) (h : WS B wb F (.slice a len cap) most bs lg ab w) (hL : T5.NAt B w a L) (T : Tabs w) (hl : bs.length + (hN L n t).length ≤ 1000000000000) :
    Calls Tryz.prog 54 #[.pointer (some ⟨wb, 0, none⟩), .agg #[.int .i64 (n : Nat), .int .i64 (t : Nat)]] w (PostW B wb F (.slice a len cap) most bs lg ab w (hN L n t)) := by
  have hn : n < L.length := (List.getElem?_eq_some_iff.1 hx).1
  obtain ⟨b, o, rfl, hb, NC⟩ := hL n x hx
  obtain ⟨p, v, hbk, hp, hown, hv⟩ := h.ex
  obtain ⟨c0, _, _, _, _, _, _⟩ := wr_cells hbk
  have hBw : B ≤ w.heap.size := by have := h.fb wb h.pf; omega
  have hlen := K.ln
  have hfew := K.few
  have hnI : (n : Int) < len := by omega
  have hlm : (len : Int) ≤ 50000 := by omega
  have r0 : ∀ w', Fr [] w w' → w'.cell? ⟨wb, 0, none⟩ = _ := fun w' f => f.cell1 c0 (by simp)
  have r1 : ∀ w', Fr [] w w' → w'.cell? ⟨b, o + n * 4, none⟩ = _ := fun w' f => f.cell1 NC.c0 (by simp)
  have r2 : ∀ w', Fr [] w w' → w'.cell? ⟨b, o + n * 4 + 1, none⟩ = _ := fun w' f => f.cell1 NC.c1 (by simp)
  have r3 : ∀ w', Fr [] w w' → w'.cell? ⟨b, o + n * 4 + 2, none⟩ = _ := fun w' f => f.cell1 NC.c2 (by simp)
  have r4 : ∀ w', Fr [] w w' → w'.cell? ⟨b, o + n * 4 + 3, none⟩ = _ := fun w' f => f.cell1 NC.c3 (by simp)
  have f1 : Fr [] w (w.alloc (.cells #[.int .i64 (n : Nat), .int .i64 (t : Nat)] 92)) := (Fr.refl _ _).alloc _
  have f2 := f1.alloc (.cells #[.int .i64 0, .string ⟨#[]⟩, .slice none 0 0, .int .i64 0] 36)
  have q0 := r0 _ f1
  have q1 := r1 _ f1
  have q2 := r2 _ f1
  have q3 := r3 _ f1
  have q4 := r4 _ f1
  have p0 := r0 _ f2
  have p1 := r1 _ f2
  have p2 := r2 _ f2
  have p3 := r3 _ f2
  have p4 := r4 _ f2
  clear r0 r1 r2 r3 r4 c0
  go_enter Tryz.func54, Tryz.ntmps54
  go_wp2
  go_region
  have f3 : Fr [] w ((w.alloc (.cells #[.int .i64 (n : Nat), .int .i64 (t : Nat)] 92)).alloc (.cells #[.int .i64 x.kind, .string x.text, .slice x.a x.ks.length x.c, .int .i64 x.pl] 36)).drew := (f1.alloc _).drew
  have b1 : ((w.alloc (.cells #[.int .i64 (n : Nat), .int .i64 (t : Nat)] 92)).alloc (.cells #[.int .i64 x.kind, .string x.text, .slice x.a x.ks.length x.c, .int .i64 x.pl] 36)).drew.heap[w.heap.size]? = some (.cells #[.int .i64 (n : Nat), .int .i64 (t : Nat)] 92 (0, 0)) := (((Fr.refl [] _).alloc _).block _ (by simp) (by simp)).trans (heap_alloc_new w _)
  have b2 : ((w.alloc (.cells #[.int .i64 (n : Nat), .int .i64 (t : Nat)] 92)).alloc (.cells #[.int .i64 x.kind, .string x.text, .slice x.a x.ks.length x.c, .int .i64 x.pl] 36)).drew.heap[w.heap.size + 1]? = some (.cells #[.int .i64 x.kind, .string x.text, .slice x.a x.ks.length x.c, .int .i64 x.pl] 36 (0, 0)) := by
    have := heap_alloc_new (w.alloc (.cells #[.int .i64 (n : Nat), .int .i64 (t : Nat)] 92)) (.cells #[.int .i64 x.kind, .string x.text, .slice x.a x.ks.length x.c, .int .i64 x.pl] 36)
    rw [World.size_alloc] at this
    exact this
  clear q0 q1 q2 q3 q4 p0 p1 p2 p3 p4 f1 f2
  go_wp2
  generalize ((w.alloc (.cells #[.int .i64 (n : Nat), .int .i64 (t : Nat)] 92)).alloc (.cells #[.int .i64 x.kind, .string x.text, .slice x.a x.ks.length x.c, .int .i64 x.pl] 36)).drew = w3 at *
  generalize w.heap.size + 1 = g2 at *
  generalize w.heap.size = g1 at *
  have s0 : ∀ w', Fr [] w3 w' → w'.cell? ⟨g1, 0, none⟩ = _ := fun w' f => f.cell1 (at_cells b1 0 rfl) (by simp)
  have s1 : ∀ w', Fr [] w3 w' → w'.cell? ⟨g1, 1, none⟩ = _ := fun w' f => f.cell1 (at_cells b1 1 rfl) (by simp)
  have m0 : ∀ w', Fr [] w3 w' → w'.cell? ⟨g2, 0, none⟩ = _ := fun w' f => f.cell1 (at_cells b2 0 rfl) (by simp)
  have m1 : ∀ w', Fr [] w3 w' → w'.cell? ⟨g2, 1, none⟩ = _ := fun w' f => f.cell1 (at_cells b2 1 rfl) (by simp)
  have m2 : ∀ w', Fr [] w3 w' → w'.cell? ⟨g2, 2, none⟩ = _ := fun w' f => f.cell1 (at_cells b2 2 rfl) (by simp)
  have m3 : ∀ w', Fr [] w3 w' → w'.cell? ⟨g2, 3, none⟩ = _ := fun w' f => f.cell1 (at_cells b2 3 rfl) (by simp)
  have fA : Fr [] w3 w3 := Fr.refl _ _
  have et : (if x.kind = 19 then opT x.text.data.toList else if x.kind = 18 then 6 else 7 : Nat) = tightN x := rfl
  have eg := tg_eq hx
  have CT := fun w' => tight_any x.kind x.text (.slice x.a x.ks.length x.c) x.pl w'
  rw [et] at CT
  have htl := tightN_le x
  generalize tightN x = tn at *
  go_region_held3 (fun w' => Fr [] w3 w') (with_reducible (first | assumption | (refine Fr.drew ?_; assumption)))
    (first
      | (go_at_call 79; refine (CT _).mono ?_; rintro e w4 ⟨rfl, f4⟩; have f34 : Fr [] w3 w4 := ((Fr.refl [] w3).drew).trans f4))
  have fw4 : Fr [] w w4 := f3.trans f34
  have W4 := h.fr fw4 (by simp)
  have L4 := hL.fr fw4 (by simp)
  have T4 := T.fr fw4 (by simp)
  have s0' := s0 w4 f34
  have m0' := m0 w4 f34
  have m1' := m1 w4 f34
  have m2' := m2 w4 f34
  have m3' := m3 w4 f34
  clear s0 s1 m0 m1 m2 m3 CT
  by_cases hc : tn < t
  · rw [show decide (tn < t) = true by simpa using hc]
    have hh : hN L n t = 40 :: (eN L n ++ [41]) := by unfold hN heldB; rw [eg, if_pos hc]
    have HH : Hid (hN L n t = _) := hh
    rw [hh] at hl
    have et2 : txtL L ab [.text ⟨#[40]⟩, .whole n, .text ⟨#[41]⟩] = 40 :: (eN L n ++ [41]) := by simp [txtL, txtP]
    have CP := putA H [.text ⟨#[40]⟩, .whole n, .text ⟨#[41]⟩] [.iface 9 (.string ⟨#[40]⟩), .iface 89 (.int .i64 (n : Nat)), .iface 9 (.string ⟨#[41]⟩)] (by intro p hp; simp at hp; rcases hp with rfl | rfl | rfl; exact ⟨trivial, trivial⟩; exact ⟨hr hc, hn, by unfold T5.kd; simp [hx]; exact hex⟩; exact ⟨trivial, trivial⟩) W4 L4 T4 ⟨rfl, rfl, rfl, trivial⟩ (by rw [et2]; exact hl) (by simp) 3 rfl
    rw [et2] at CP
    clear hE hh et2 hc
    go_wp2_with fail
    refine CP.mono ?_
    rintro e w5 ⟨rfl, bs', lg', F', k1, k2, k3⟩
    go_wp2
    go_end0
    exact ⟨rfl, bs', lg', F', k1.cast HH.out.symm, k2, (Tr.of0 fw4).trans k3⟩
  · rw [show decide (tn < t) = false by simpa using hc]
    have hh : hN L n t = eN L n := by unfold hN heldB; rw [eg, if_neg hc]
    have HH : Hid (hN L n t = _) := hh
    rw [hh] at hl
    have CE := hE w4 F bs lg ab W4 L4 T4 hl
    unfold ndV at CE
    clear hE hh hc
    go_wp2_with fail
    refine CE.mono ?_
    rintro e w5 ⟨rfl, bs', lg', F', k1, k2, k3⟩
    go_wp2
    go_end0
    exact ⟨rfl, bs', lg', F', k1.cast HH.out.symm, k2, (Tr.of0 fw4).trans k3⟩
end
end Go.Proofs.YtnebhkglpggnlaaGreatDoor
namespace Go.Proofs.YtnebhkglpggnlaaGreatDoor
open Go.RowKit
set_option linter.unusedVariables false
set_option linter.unusedSimpArgs false

section
variable {L : List T5.Nd} {B wb : Nat} {a : Option Addr} {len cap most r : Nat}
theorem putD {w : World} {F : List Nat} {bs : List UInt8} {lg : Bool} {ab : Nat} (H : Put L B wb a len cap most r) (ps : List Part) (vs : List Value) (hp : ∀ p ∈ ps, Fits r p ∧ OkP L ab p) (h : WS B wb F (.slice a len cap) most bs lg ab w) (hL : T5.NAt B w a L) (T : Tabs w) (hv : PVs B w ps vs) (hl : bs.length + (txtL L ab ps).length ≤ 1000000000000) (hn : ps.length ≤ 100) (n : Nat) (hnn : ps.length = n) :
    Calls Tryz.prog 26 #[.pointer (some ⟨wb, 0, none⟩), .slice (some ⟨w.heap.size, 0, none⟩) n n] (w.alloc (.cells vs.toArray 20)).drew (PostW B wb F (.slice a len cap) most bs lg ab w (txtL L ab ps)) := by
  have f1 : Fr [] w w.drew := (Fr.refl _ _).drew
  refine (putA H ps vs hp (h.fr f1 (by simp)) (hL.fr f1 (by simp)) (T.fr f1 (by simp)) (hv.fr f1 (by simp)) hl hn n hnn).mono ?_
  rintro e w' ⟨he, bs', lg', F', k1, k2, k3⟩
  exact ⟨he, bs', lg', F', k1, k2, (Tr.of0 f1).trans k3⟩
theorem lineD {w : World} {F : List Nat} {bs : List UInt8} {lg : Bool} {ab : Nat} (H : Put L B wb a len cap most r) (ps : List Part) (vs : List Value) (hp : ∀ p ∈ ps, Fits r p ∧ OkP L ab p) (h : WS B wb F (.slice a len cap) most bs lg ab w) (hL : T5.NAt B w a L) (T : Tabs w) (hv : PVs B w ps vs) (hl : bs.length + (lineB L ab ps).length ≤ 1000000000000) (hn : ps.length ≤ 100) (n : Nat) (hnn : ps.length = n) :
    Calls Tryz.prog 95 #[.pointer (some ⟨wb, 0, none⟩), .slice (some ⟨w.heap.size, 0, none⟩) n n] (w.alloc (.cells vs.toArray 20)).drew (PostW B wb F (.slice a len cap) most bs lg ab w (lineB L ab ps)) := by
  have f1 : Fr [] w w.drew := (Fr.refl _ _).drew
  refine (line_any H ps vs hp (h.fr f1 (by simp)) (hL.fr f1 (by simp)) (T.fr f1 (by simp)) (hv.fr f1 (by simp)) hl hn n hnn).mono ?_
  rintro e w' ⟨he, bs', lg', F', k1, k2, k3⟩
  exact ⟨he, bs', lg', F', k1, k2, (Tr.of0 f1).trans k3⟩
set_option maxRecDepth 100000 in
set_option maxHeartbeats 2000000 in
theorem expr_15 (K : Cst L B a len) (H : Put L B wb a len cap most r) {n : Nat} {x : T5.Nd} (hx : L[n]? = some x) (hk : x.kind = 15) (hr : 3 * n ≤ r + 1) {w : World} {F : List Nat} {bs : List UInt8} {lg : Bool} {ab : Nat} (h : WS B wb F (.slice a len cap) most bs lg ab w) (hL : T5.NAt B w a L) (T : Tabs w) (hl : bs.length + (eN L n).length ≤ 1000000000000) :
    Calls Tryz.prog 80 #[.pointer (some ⟨wb, 0, none⟩), ndV x] w (PostW B wb F (.slice a len cap) most bs lg ab w (eN L n)) := by
  skip
  have hn : n < L.length := (List.getElem?_eq_some_iff.1 hx).1
  have hfew := K.few
  have hln := K.ln
  have HE : Hid (eN L n = txtL L ab [.text x.text]) := by unfold Hid; rw [eN_eq K.shp.kids (k := n) (by simpa using hx)]; simp [exprX, hk, atK, txtL, txtP, tx]
  have hl2 : bs.length + (txtL L ab [.text x.text]).length ≤ 1000000000000 := by rw [← HE.out]; exact hl
  have hok : ∀ p ∈ ([.text x.text] : List Part), Fits r p ∧ OkP L ab p := by
    intro p hp
    simp only [List.mem_cons, List.not_mem_nil, or_false] at hp
    subst hp
    · exact ⟨trivial, trivial⟩
  obtain ⟨b, o, ha, hb, NC⟩ := hL n x hx
  obtain ⟨xk, xt, xa, xc, xks, xp⟩ := x
  simp only at *
  subst hk
  have f1 : Fr [] w (w.alloc (.cells #[.int .i64 15, .string xt, .slice xa xks.length xc, .int .i64 xp] 36)) := (Fr.refl _ _).alloc _
  have b1 := heap_alloc_new w (.cells #[.int .i64 15, .string xt, .slice xa xks.length xc, .int .i64 xp] 36)
  have hgF : w.heap.size ∉ F := fun hm => by have := (h.fb _ hm).2; omega
  unfold ndV
  go_enter Tryz.func80, Tryz.ntmps80
  have WA := h.fr f1 (by simp)
  have LA := hL.fr f1 (by simp)
  have TA := T.fr f1 (by simp)
  have CP := putA H [.text xt] [.iface 9 (.string xt)] hok WA LA TA ⟨rfl, trivial⟩ hl2 (by simp) 1 rfl
  simp only [World.size_alloc] at CP
  go_wp2_with fail
  refine CP.mono ?_
  rintro e w2 ⟨rfl, bs', lg', F', k1, k2, k3⟩
  go_wp2
  go_end0
  exact ⟨rfl, bs', lg', F', k1.cast HE.out.symm, k2, (Tr.of0 f1).trans k3⟩
set_option maxRecDepth 100000 in
set_option maxHeartbeats 2000000 in
theorem expr_17 (K : Cst L B a len) (H : Put L B wb a len cap most r) {n : Nat} {x : T5.Nd} (hx : L[n]? = some x) (hk : x.kind = 17) (hr : 3 * n ≤ r + 1) {w : World} {F : List Nat} {bs : List UInt8} {lg : Bool} {ab : Nat} (h : WS B wb F (.slice a len cap) most bs lg ab w) (hL : T5.NAt B w a L) (T : Tabs w) (hl : bs.length + (eN L n).length ≤ 1000000000000) :
    Calls Tryz.prog 80 #[.pointer (some ⟨wb, 0, none⟩), ndV x] w (PostW B wb F (.slice a len cap) most bs lg ab w (eN L n)) := by
  skip
  have hn : n < L.length := (List.getElem?_eq_some_iff.1 hx).1
  have hfew := K.few
  have hln := K.ln
  have HE : Hid (eN L n = txtL L ab [.text x.text]) := by unfold Hid; rw [eN_eq K.shp.kids (k := n) (by simpa using hx)]; simp [exprX, hk, atK, txtL, txtP, tx]
  have hl2 : bs.length + (txtL L ab [.text x.text]).length ≤ 1000000000000 := by rw [← HE.out]; exact hl
  have hok : ∀ p ∈ ([.text x.text] : List Part), Fits r p ∧ OkP L ab p := by
    intro p hp
    simp only [List.mem_cons, List.not_mem_nil, or_false] at hp
    subst hp
    · exact ⟨trivial, trivial⟩
  obtain ⟨b, o, ha, hb, NC⟩ := hL n x hx
  obtain ⟨xk, xt, xa, xc, xks, xp⟩ := x
  simp only at *
  subst hk
  have f1 : Fr [] w (w.alloc (.cells #[.int .i64 17, .string xt, .slice xa xks.length xc, .int .i64 xp] 36)) := (Fr.refl _ _).alloc _
  have b1 := heap_alloc_new w (.cells #[.int .i64 17, .string xt, .slice xa xks.length xc, .int .i64 xp] 36)
  have hgF : w.heap.size ∉ F := fun hm => by have := (h.fb _ hm).2; omega
  unfold ndV
  go_enter Tryz.func80, Tryz.ntmps80
  have WA := h.fr f1 (by simp)
  have LA := hL.fr f1 (by simp)
  have TA := T.fr f1 (by simp)
  have CP := putA H [.text xt] [.iface 9 (.string xt)] hok WA LA TA ⟨rfl, trivial⟩ hl2 (by simp) 1 rfl
  simp only [World.size_alloc] at CP
  go_wp2_with fail
  refine CP.mono ?_
  rintro e w2 ⟨rfl, bs', lg', F', k1, k2, k3⟩
  go_wp2
  go_end0
  exact ⟨rfl, bs', lg', F', k1.cast HE.out.symm, k2, (Tr.of0 f1).trans k3⟩
set_option maxRecDepth 100000 in
set_option maxHeartbeats 2000000 in
theorem expr_16 (K : Cst L B a len) (H : Put L B wb a len cap most r) {n : Nat} {x : T5.Nd} (hx : L[n]? = some x) (hk : x.kind = 16) (hr : 3 * n ≤ r + 1) {w : World} {F : List Nat} {bs : List UInt8} {lg : Bool} {ab : Nat} (h : WS B wb F (.slice a len cap) most bs lg ab w) (hL : T5.NAt B w a L) (T : Tabs w) (hl : bs.length + (eN L n).length ≤ 1000000000000) :
    Calls Tryz.prog 80 #[.pointer (some ⟨wb, 0, none⟩), ndV x] w (PostW B wb F (.slice a len cap) most bs lg ab w (eN L n)) := by
  skip
  have hn : n < L.length := (List.getElem?_eq_some_iff.1 hx).1
  have hfew := K.few
  have hln := K.ln
  have HE : Hid (eN L n = txtL L ab [.text ⟨(wordB 16).toArray⟩]) := by unfold Hid; rw [eN_eq K.shp.kids (k := n) (by simpa using hx)]; simp [exprX, hk, atK, txtL, txtP, tx]
  have hl2 : bs.length + (txtL L ab [.text ⟨(wordB 16).toArray⟩]).length ≤ 1000000000000 := by rw [← HE.out]; exact hl
  have hok : ∀ p ∈ ([.text ⟨(wordB 16).toArray⟩] : List Part), Fits r p ∧ OkP L ab p := by
    intro p hp
    simp only [List.mem_cons, List.not_mem_nil, or_false] at hp
    subst hp
    · exact ⟨trivial, trivial⟩
  obtain ⟨b, o, ha, hb, NC⟩ := hL n x hx
  obtain ⟨xk, xt, xa, xc, xks, xp⟩ := x
  simp only at *
  subst hk
  have f1 : Fr [] w (w.alloc (.cells #[.int .i64 16, .string xt, .slice xa xks.length xc, .int .i64 xp] 36)) := (Fr.refl _ _).alloc _
  have b1 := heap_alloc_new w (.cells #[.int .i64 16, .string xt, .slice xa xks.length xc, .int .i64 xp] 36)
  have hgF : w.heap.size ∉ F := fun hm => by have := (h.fb _ hm).2; omega
  unfold ndV
  have CW := fun w' => word_any 16 w'
  go_enter Tryz.func80, Tryz.ntmps80
  go_wp2_with fail
  refine (CW _).mono ?_
  rintro e w9 ⟨rfl, rfl⟩
  have WA := h.fr f1 (by simp)
  have LA := hL.fr f1 (by simp)
  have TA := T.fr f1 (by simp)
  have CP := putA H [.text ⟨(wordB 16).toArray⟩] [.iface 9 (.string ⟨(wordB 16).toArray⟩)] hok WA LA TA ⟨rfl, trivial⟩ hl2 (by simp) 1 rfl
  simp only [World.size_alloc] at CP
  go_wp2_with fail
  refine CP.mono ?_
  rintro e w2 ⟨rfl, bs', lg', F', k1, k2, k3⟩
  go_wp2
  go_end0
  exact ⟨rfl, bs', lg', F', k1.cast HE.out.symm, k2, (Tr.of0 f1).trans k3⟩
set_option maxRecDepth 100000 in
set_option maxHeartbeats 2000000 in
theorem expr_30 (K : Cst L B a len) (H : Put L B wb a len cap most r) {n : Nat} {x : T5.Nd} (hx : L[n]? = some x) (hk : x.kind = 30) (hr : 3 * n ≤ r + 1) {w : World} {F : List Nat} {bs : List UInt8} {lg : Bool} {ab : Nat} (h : WS B wb F (.slice a len cap) most bs lg ab w) (hL : T5.NAt B w a L) (T : Tabs w) (hl : bs.length + (eN L n).length ≤ 1000000000000) :
    Calls Tryz.prog 80 #[.pointer (some ⟨wb, 0, none⟩), ndV x] w (PostW B wb F (.slice a len cap) most bs lg ab w (eN L n)) := by
  skip
  have hn : n < L.length := (List.getElem?_eq_some_iff.1 hx).1
  have hfew := K.few
  have hln := K.ln
  have HE : Hid (eN L n = txtL L ab [.text ⟨(wordB 30).toArray⟩]) := by unfold Hid; rw [eN_eq K.shp.kids (k := n) (by simpa using hx)]; simp [exprX, hk, atK, txtL, txtP, tx]
  have hl2 : bs.length + (txtL L ab [.text ⟨(wordB 30).toArray⟩]).length ≤ 1000000000000 := by rw [← HE.out]; exact hl
  have hok : ∀ p ∈ ([.text ⟨(wordB 30).toArray⟩] : List Part), Fits r p ∧ OkP L ab p := by
    intro p hp
    simp only [List.mem_cons, List.not_mem_nil, or_false] at hp
    subst hp
    · exact ⟨trivial, trivial⟩
  obtain ⟨b, o, ha, hb, NC⟩ := hL n x hx
  obtain ⟨xk, xt, xa, xc, xks, xp⟩ := x
  simp only at *
  subst hk
  have f1 : Fr [] w (w.alloc (.cells #[.int .i64 30, .string xt, .slice xa xks.length xc, .int .i64 xp] 36)) := (Fr.refl _ _).alloc _
  have b1 := heap_alloc_new w (.cells #[.int .i64 30, .string xt, .slice xa xks.length xc, .int .i64 xp] 36)
  have hgF : w.heap.size ∉ F := fun hm => by have := (h.fb _ hm).2; omega
  unfold ndV
  have CW := fun w' => word_any 30 w'
  go_enter Tryz.func80, Tryz.ntmps80
  go_wp2_with fail
  refine (CW _).mono ?_
  rintro e w9 ⟨rfl, rfl⟩
  have WA := h.fr f1 (by simp)
  have LA := hL.fr f1 (by simp)
  have TA := T.fr f1 (by simp)
  have CP := putA H [.text ⟨(wordB 30).toArray⟩] [.iface 9 (.string ⟨(wordB 30).toArray⟩)] hok WA LA TA ⟨rfl, trivial⟩ hl2 (by simp) 1 rfl
  simp only [World.size_alloc] at CP
  go_wp2_with fail
  refine CP.mono ?_
  rintro e w2 ⟨rfl, bs', lg', F', k1, k2, k3⟩
  go_wp2
  go_end0
  exact ⟨rfl, bs', lg', F', k1.cast HE.out.symm, k2, (Tr.of0 f1).trans k3⟩
set_option maxRecDepth 100000 in
set_option maxHeartbeats 2000000 in
theorem expr_23 (K : Cst L B a len) (H : Put L B wb a len cap most r) {n : Nat} {x : T5.Nd} (hx : L[n]? = some x) (hk : x.kind = 23) (hr : 3 * n ≤ r + 1) {w : World} {F : List Nat} {bs : List UInt8} {lg : Bool} {ab : Nat} (h : WS B wb F (.slice a len cap) most bs lg ab w) (hL : T5.NAt B w a L) (T : Tabs w) (hl : bs.length + (eN L n).length ≤ 1000000000000) :
    Calls Tryz.prog 80 #[.pointer (some ⟨wb, 0, none⟩), ndV x] w (PostW B wb F (.slice a len cap) most bs lg ab w (eN L n)) := by
  skip
  have hn : n < L.length := (List.getElem?_eq_some_iff.1 hx).1
  have hfew := K.few
  have hln := K.ln
  have HE : Hid (eN L n = txtL L ab [.text ⟨#[110, 101, 119, 32]⟩, .text x.text]) := by unfold Hid; rw [eN_eq K.shp.kids (k := n) (by simpa using hx)]; simp [exprX, hk, atK, txtL, txtP, tx]
  have hl2 : bs.length + (txtL L ab [.text ⟨#[110, 101, 119, 32]⟩, .text x.text]).length ≤ 1000000000000 := by rw [← HE.out]; exact hl
  have hok : ∀ p ∈ ([.text ⟨#[110, 101, 119, 32]⟩, .text x.text] : List Part), Fits r p ∧ OkP L ab p := by
    intro p hp
    simp only [List.mem_cons, List.not_mem_nil, or_false] at hp
    rcases hp with rfl | rfl
    · exact ⟨trivial, trivial⟩
    · exact ⟨trivial, trivial⟩
  obtain ⟨b, o, ha, hb, NC⟩ := hL n x hx
  obtain ⟨xk, xt, xa, xc, xks, xp⟩ := x
  simp only at *
  subst hk
  have f1 : Fr [] w (w.alloc (.cells #[.int .i64 23, .string xt, .slice xa xks.length xc, .int .i64 xp] 36)) := (Fr.refl _ _).alloc _
  have b1 := heap_alloc_new w (.cells #[.int .i64 23, .string xt, .slice xa xks.length xc, .int .i64 xp] 36)
  have hgF : w.heap.size ∉ F := fun hm => by have := (h.fb _ hm).2; omega
  unfold ndV
  go_enter Tryz.func80, Tryz.ntmps80
  have WA := h.fr f1 (by simp)
  have LA := hL.fr f1 (by simp)
  have TA := T.fr f1 (by simp)
  have CP := putA H [.text ⟨#[110, 101, 119, 32]⟩, .text xt] [.iface 9 (.string ⟨#[110, 101, 119, 32]⟩), .iface 9 (.string xt)] hok WA LA TA ⟨rfl, rfl, trivial⟩ hl2 (by simp) 2 rfl
  simp only [World.size_alloc] at CP
  go_wp2_with fail
  refine CP.mono ?_
  rintro e w2 ⟨rfl, bs', lg', F', k1, k2, k3⟩
  go_wp2
  go_end0
  exact ⟨rfl, bs', lg', F', k1.cast HE.out.symm, k2, (Tr.of0 f1).trans k3⟩
end
end Go.Proofs.YtnebhkglpggnlaaGreatDoor
namespace Go.Proofs.YtnebhkglpggnlaaGreatDoor
open Go.RowKit
set_option linter.unusedVariables false
set_option linter.unusedSimpArgs false

section
variable {L : List T5.Nd} {B wb : Nat} {a : Option Addr} {len cap most r : Nat}
set_option maxRecDepth 100000 in
set_option maxHeartbeats 2000000 in
theorem expr_18 (K : Cst L B a len) (H : Put L B wb a len cap most r) {n : Nat} {x : T5.Nd} (hx : L[n]? = some x) (hk : x.kind = 18) (hr : 3 * n ≤ r + 1) {w : World} {F : List Nat} {bs : List UInt8} {lg : Bool} {ab : Nat} (h : WS B wb F (.slice a len cap) most bs lg ab w) (hL : T5.NAt B w a L) (T : Tabs w) (hl : bs.length + (eN L n).length ≤ 1000000000000) :
    Calls Tryz.prog 80 #[.pointer (some ⟨wb, 0, none⟩), ndV x] w (PostW B wb F (.slice a len cap) most bs lg ab w (eN L n)) := by
  obtain ⟨k0, hks, hex0⟩ := K.shp.one hx (by simp [hk])
  obtain ⟨hk0a, hk0b⟩ := K.shp.kids n x hx k0 (by simp [hks])
  have ek0 : ((k0.toNat : Nat) : Int) = k0 := by omega
  have hn : n < L.length := (List.getElem?_eq_some_iff.1 hx).1
  have hfew := K.few
  have hln := K.ln
  have HE : Hid (eN L n = txtL L ab [.text x.text, .side k0.toNat (6)]) := by unfold Hid; rw [eN_eq K.shp.kids (k := n) (by simpa using hx)]; simp [exprX, hk, hks, atK, txtL, txtP, tx, ek0]
  have hl2 : bs.length + (txtL L ab [.text x.text, .side k0.toNat (6)]).length ≤ 1000000000000 := by rw [← HE.out]; exact hl
  have hok : ∀ p ∈ ([.text x.text, .side k0.toNat (6)] : List Part), Fits r p ∧ OkP L ab p := by
    intro p hp
    simp only [List.mem_cons, List.not_mem_nil, or_false] at hp
    rcases hp with rfl | rfl
    · exact ⟨trivial, trivial⟩
    · exact ⟨by simp only [Fits]; omega, by omega, by rw [ek0]; exact hex0, by omega⟩
  obtain ⟨b, o, ha, hb, NC⟩ := hL n x hx
  obtain ⟨kb, ko, hxa, hkb, kc0⟩ := NC.k 0 k0 (by simp [hks])
  obtain ⟨xk, xt, xa, xc, xks, xp⟩ := x
  simp only at *
  subst hk
  subst hks hxa
  have f1 : Fr [] w (w.alloc (.cells #[.int .i64 18, .string xt, .slice (some ⟨kb, ko, none⟩) 1 xc, .int .i64 xp] 36)) := (Fr.refl _ _).alloc _
  have b1 := heap_alloc_new w (.cells #[.int .i64 18, .string xt, .slice (some ⟨kb, ko, none⟩) 1 xc, .int .i64 xp] 36)
  have kd0 := f1.cell1 kc0 (by simp)
  have hgF : w.heap.size ∉ F := fun hm => by have := (h.fb _ hm).2; omega
  have hkF : kb ∉ F := fun hm => by have := h.hi _ hm; omega
  unfold ndV
  go_enter Tryz.func80, Tryz.ntmps80
  go_wp2
  generalize w.alloc (.cells #[.int .i64 18, .string xt, .slice (some ⟨kb, ko, none⟩) 1 xc, .int .i64 xp] 36) = w1 at *
  generalize w.heap.size = g at *
  have s0 : ∀ w', Fr F w1 w' → w'.cell? ⟨g, 0, none⟩ = _ := fun w' f => f.cell1 (at_cells b1 0 rfl) hgF
  have s1 : ∀ w', Fr F w1 w' → w'.cell? ⟨g, 1, none⟩ = _ := fun w' f => f.cell1 (at_cells b1 1 rfl) hgF
  have q0 : ∀ w', Fr F w1 w' → w'.cell? ⟨kb, ko + 0, none⟩ = _ := fun w' f => f.cell1 kd0 hkF
  simp only [Nat.add_zero] at *
  have fA : Fr F w1 w1 := Fr.refl _ _
  have WA := h.fr f1 (by simp)
  have LA := hL.fr f1 (by simp)
  have TA := T.fr f1 (by simp)
  go_region_held3 (fun w' => Fr F w1 w') (with_reducible (first | assumption | (refine Fr.drew ?_; assumption) | (refine Fr.alloc ?_ _; assumption) | (refine Fr.drew ?_; refine Fr.alloc ?_ _; assumption)))
    (first
      | (go_at_call 26; refine (putD H [.text xt, .side k0.toNat (6)] [.iface 9 (.string xt), .iface 92 (.agg #[.int .i64 k0, .int .i64 (6)])] hok WA LA TA ⟨rfl, by simp [PVal, ek0], trivial⟩ hl2 (by simp) 2 rfl).mono ?_; rintro e w2 ⟨rfl, bs', lg', F', k1, k2, k3⟩; have fz : Fr F w1 w2 := k3.f))
  go_wp2
  go_end0
  exact ⟨rfl, bs', lg', F', k1.cast HE.out.symm, k2, (Tr.of0 f1).trans k3⟩
set_option maxRecDepth 100000 in
set_option maxHeartbeats 2000000 in
theorem expr_20 (K : Cst L B a len) (H : Put L B wb a len cap most r) {n : Nat} {x : T5.Nd} (hx : L[n]? = some x) (hk : x.kind = 20) (hr : 3 * n ≤ r + 1) {w : World} {F : List Nat} {bs : List UInt8} {lg : Bool} {ab : Nat} (h : WS B wb F (.slice a len cap) most bs lg ab w) (hL : T5.NAt B w a L) (T : Tabs w) (hl : bs.length + (eN L n).length ≤ 1000000000000) :
    Calls Tryz.prog 80 #[.pointer (some ⟨wb, 0, none⟩), ndV x] w (PostW B wb F (.slice a len cap) most bs lg ab w (eN L n)) := by
  obtain ⟨k0, hks, hex0⟩ := K.shp.one hx (by simp [hk])
  obtain ⟨hk0a, hk0b⟩ := K.shp.kids n x hx k0 (by simp [hks])
  have ek0 : ((k0.toNat : Nat) : Int) = k0 := by omega
  have hn : n < L.length := (List.getElem?_eq_some_iff.1 hx).1
  have hfew := K.few
  have hln := K.ln
  have HE : Hid (eN L n = txtL L ab [.side k0.toNat (7), .text ⟨#[46]⟩, .text x.text]) := by unfold Hid; rw [eN_eq K.shp.kids (k := n) (by simpa using hx)]; simp [exprX, hk, hks, atK, txtL, txtP, tx, ek0]
  have hl2 : bs.length + (txtL L ab [.side k0.toNat (7), .text ⟨#[46]⟩, .text x.text]).length ≤ 1000000000000 := by rw [← HE.out]; exact hl
  have hok : ∀ p ∈ ([.side k0.toNat (7), .text ⟨#[46]⟩, .text x.text] : List Part), Fits r p ∧ OkP L ab p := by
    intro p hp
    simp only [List.mem_cons, List.not_mem_nil, or_false] at hp
    rcases hp with rfl | rfl | rfl
    · exact ⟨by simp only [Fits]; omega, by omega, by rw [ek0]; exact hex0, by omega⟩
    · exact ⟨trivial, trivial⟩
    · exact ⟨trivial, trivial⟩
  obtain ⟨b, o, ha, hb, NC⟩ := hL n x hx
  obtain ⟨kb, ko, hxa, hkb, kc0⟩ := NC.k 0 k0 (by simp [hks])
  obtain ⟨xk, xt, xa, xc, xks, xp⟩ := x
  simp only at *
  subst hk
  subst hks hxa
  have f1 : Fr [] w (w.alloc (.cells #[.int .i64 20, .string xt, .slice (some ⟨kb, ko, none⟩) 1 xc, .int .i64 xp] 36)) := (Fr.refl _ _).alloc _
  have b1 := heap_alloc_new w (.cells #[.int .i64 20, .string xt, .slice (some ⟨kb, ko, none⟩) 1 xc, .int .i64 xp] 36)
  have kd0 := f1.cell1 kc0 (by simp)
  have hgF : w.heap.size ∉ F := fun hm => by have := (h.fb _ hm).2; omega
  have hkF : kb ∉ F := fun hm => by have := h.hi _ hm; omega
  unfold ndV
  go_enter Tryz.func80, Tryz.ntmps80
  go_wp2
  generalize w.alloc (.cells #[.int .i64 20, .string xt, .slice (some ⟨kb, ko, none⟩) 1 xc, .int .i64 xp] 36) = w1 at *
  generalize w.heap.size = g at *
  have s0 : ∀ w', Fr F w1 w' → w'.cell? ⟨g, 0, none⟩ = _ := fun w' f => f.cell1 (at_cells b1 0 rfl) hgF
  have s1 : ∀ w', Fr F w1 w' → w'.cell? ⟨g, 1, none⟩ = _ := fun w' f => f.cell1 (at_cells b1 1 rfl) hgF
  have q0 : ∀ w', Fr F w1 w' → w'.cell? ⟨kb, ko + 0, none⟩ = _ := fun w' f => f.cell1 kd0 hkF
  simp only [Nat.add_zero] at *
  have fA : Fr F w1 w1 := Fr.refl _ _
  have WA := h.fr f1 (by simp)
  have LA := hL.fr f1 (by simp)
  have TA := T.fr f1 (by simp)
  go_region_held3 (fun w' => Fr F w1 w') (with_reducible (first | assumption | (refine Fr.drew ?_; assumption) | (refine Fr.alloc ?_ _; assumption) | (refine Fr.drew ?_; refine Fr.alloc ?_ _; assumption)))
    (first
      | (go_at_call 26; refine (putD H [.side k0.toNat (7), .text ⟨#[46]⟩, .text xt] [.iface 92 (.agg #[.int .i64 k0, .int .i64 (7)]), .iface 9 (.string ⟨#[46]⟩), .iface 9 (.string xt)] hok WA LA TA ⟨by simp [PVal, ek0], rfl, rfl, trivial⟩ hl2 (by simp) 3 rfl).mono ?_; rintro e w2 ⟨rfl, bs', lg', F', k1, k2, k3⟩; have fz : Fr F w1 w2 := k3.f))
  go_wp2
  go_end0
  exact ⟨rfl, bs', lg', F', k1.cast HE.out.symm, k2, (Tr.of0 f1).trans k3⟩
set_option maxRecDepth 100000 in
set_option maxHeartbeats 2000000 in
theorem expr_21 (K : Cst L B a len) (H : Put L B wb a len cap most r) {n : Nat} {x : T5.Nd} (hx : L[n]? = some x) (hk : x.kind = 21) (hr : 3 * n ≤ r + 1) {w : World} {F : List Nat} {bs : List UInt8} {lg : Bool} {ab : Nat} (h : WS B wb F (.slice a len cap) most bs lg ab w) (hL : T5.NAt B w a L) (T : Tabs w) (hl : bs.length + (eN L n).length ≤ 1000000000000) :
    Calls Tryz.prog 80 #[.pointer (some ⟨wb, 0, none⟩), ndV x] w (PostW B wb F (.slice a len cap) most bs lg ab w (eN L n)) := by
  obtain ⟨k0, k1, hks, hex0, hex1⟩ := K.shp.two hx (by simp [hk])
  obtain ⟨hk0a, hk0b⟩ := K.shp.kids n x hx k0 (by simp [hks])
  have ek0 : ((k0.toNat : Nat) : Int) = k0 := by omega
  obtain ⟨hk1a, hk1b⟩ := K.shp.kids n x hx k1 (by simp [hks])
  have ek1 : ((k1.toNat : Nat) : Int) = k1 := by omega
  have hn : n < L.length := (List.getElem?_eq_some_iff.1 hx).1
  have hfew := K.few
  have hln := K.ln
  have HE : Hid (eN L n = txtL L ab [.side k0.toNat (7), .text ⟨#[91]⟩, .whole k1.toNat, .text ⟨#[93]⟩]) := by unfold Hid; rw [eN_eq K.shp.kids (k := n) (by simpa using hx)]; simp [exprX, hk, hks, atK, txtL, txtP, tx, ek0, ek1]
  have hl2 : bs.length + (txtL L ab [.side k0.toNat (7), .text ⟨#[91]⟩, .whole k1.toNat, .text ⟨#[93]⟩]).length ≤ 1000000000000 := by rw [← HE.out]; exact hl
  have hok : ∀ p ∈ ([.side k0.toNat (7), .text ⟨#[91]⟩, .whole k1.toNat, .text ⟨#[93]⟩] : List Part), Fits r p ∧ OkP L ab p := by
    intro p hp
    simp only [List.mem_cons, List.not_mem_nil, or_false] at hp
    rcases hp with rfl | rfl | rfl | rfl
    · exact ⟨by simp only [Fits]; omega, by omega, by rw [ek0]; exact hex0, by omega⟩
    · exact ⟨trivial, trivial⟩
    · exact ⟨by simp only [Fits]; omega, by omega, by rw [ek1]; exact hex1⟩
    · exact ⟨trivial, trivial⟩
  obtain ⟨b, o, ha, hb, NC⟩ := hL n x hx
  obtain ⟨kb, ko, hxa, hkb, kc0⟩ := NC.k 0 k0 (by simp [hks])
  obtain ⟨kb', ko', hxa', hkb', kc1⟩ := NC.k 1 k1 (by simp [hks])
  rw [hxa] at hxa'
  cases hxa'
  obtain ⟨xk, xt, xa, xc, xks, xp⟩ := x
  simp only at *
  subst hk
  subst hks hxa
  have f1 : Fr [] w (w.alloc (.cells #[.int .i64 21, .string xt, .slice (some ⟨kb, ko, none⟩) 2 xc, .int .i64 xp] 36)) := (Fr.refl _ _).alloc _
  have b1 := heap_alloc_new w (.cells #[.int .i64 21, .string xt, .slice (some ⟨kb, ko, none⟩) 2 xc, .int .i64 xp] 36)
  have kd0 := f1.cell1 kc0 (by simp)
  have kd1 := f1.cell1 kc1 (by simp)
  have hgF : w.heap.size ∉ F := fun hm => by have := (h.fb _ hm).2; omega
  have hkF : kb ∉ F := fun hm => by have := h.hi _ hm; omega
  unfold ndV
  go_enter Tryz.func80, Tryz.ntmps80
  go_wp2
  generalize w.alloc (.cells #[.int .i64 21, .string xt, .slice (some ⟨kb, ko, none⟩) 2 xc, .int .i64 xp] 36) = w1 at *
  generalize w.heap.size = g at *
  have s0 : ∀ w', Fr F w1 w' → w'.cell? ⟨g, 0, none⟩ = _ := fun w' f => f.cell1 (at_cells b1 0 rfl) hgF
  have s1 : ∀ w', Fr F w1 w' → w'.cell? ⟨g, 1, none⟩ = _ := fun w' f => f.cell1 (at_cells b1 1 rfl) hgF
  have q0 : ∀ w', Fr F w1 w' → w'.cell? ⟨kb, ko + 0, none⟩ = _ := fun w' f => f.cell1 kd0 hkF
  have q1 : ∀ w', Fr F w1 w' → w'.cell? ⟨kb, ko + 1, none⟩ = _ := fun w' f => f.cell1 kd1 hkF
  simp only [Nat.add_zero] at *
  have fA : Fr F w1 w1 := Fr.refl _ _
  have WA := h.fr f1 (by simp)
  have LA := hL.fr f1 (by simp)
  have TA := T.fr f1 (by simp)
  go_region_held3 (fun w' => Fr F w1 w') (with_reducible (first | assumption | (refine Fr.drew ?_; assumption) | (refine Fr.alloc ?_ _; assumption) | (refine Fr.drew ?_; refine Fr.alloc ?_ _; assumption)))
    (first
      | (go_at_call 26; refine (putD H [.side k0.toNat (7), .text ⟨#[91]⟩, .whole k1.toNat, .text ⟨#[93]⟩] [.iface 92 (.agg #[.int .i64 k0, .int .i64 (7)]), .iface 9 (.string ⟨#[91]⟩), .iface 89 (.int .i64 k1), .iface 9 (.string ⟨#[93]⟩)] hok WA LA TA ⟨by simp [PVal, ek0], rfl, by simp [PVal, ek1], rfl, trivial⟩ hl2 (by simp) 4 rfl).mono ?_; rintro e w2 ⟨rfl, bs', lg', F', k1, k2, k3⟩; have fz : Fr F w1 w2 := k3.f))
  go_wp2
  go_end0
  exact ⟨rfl, bs', lg', F', k1.cast HE.out.symm, k2, (Tr.of0 f1).trans k3⟩
end
end Go.Proofs.YtnebhkglpggnlaaGreatDoor
namespace Go.Proofs.YtnebhkglpggnlaaGreatDoor
open Go.RowKit
set_option linter.unusedVariables false
set_option linter.unusedSimpArgs false

section
variable {L : List T5.Nd} {B wb : Nat} {a : Option Addr} {len cap most r : Nat}
set_option maxRecDepth 100000 in
set_option maxHeartbeats 2000000 in
theorem expr_22 (K : Cst L B a len) (H : Put L B wb a len cap most r) {n : Nat} {x : T5.Nd} (hx : L[n]? = some x) (hk : x.kind = 22) (hr : 3 * n ≤ r + 1) {w : World} {F : List Nat} {bs : List UInt8} {lg : Bool} {ab : Nat} (h : WS B wb F (.slice a len cap) most bs lg ab w) (hL : T5.NAt B w a L) (T : Tabs w) (hl : bs.length + (eN L n).length ≤ 1000000000000) :
    Calls Tryz.prog 80 #[.pointer (some ⟨wb, 0, none⟩), ndV x] w (PostW B wb F (.slice a len cap) most bs lg ab w (eN L n)) := by
  have hmany := K.shp.many hx (by simp [hk])
  have hn : n < L.length := (List.getElem?_eq_some_iff.1 hx).1
  have hfew := K.few
  have hln := K.ln
  have HE : Hid (eN L n = txtL L ab [.text x.text, .text ⟨#[40]⟩, .row x.ks, .text ⟨#[41]⟩]) := by unfold Hid; rw [eN_eq K.shp.kids (k := n) (by simpa using hx)]; simp [exprX, hk, atK, txtL, txtP, tx]
  have hl2 : bs.length + (txtL L ab [.text x.text, .text ⟨#[40]⟩, .row x.ks, .text ⟨#[41]⟩]).length ≤ 1000000000000 := by rw [← HE.out]; exact hl
  have hok : ∀ p ∈ ([.text x.text, .text ⟨#[40]⟩, .row x.ks, .text ⟨#[41]⟩] : List Part), Fits r p ∧ OkP L ab p := by
    intro p hp
    simp only [List.mem_cons, List.not_mem_nil, or_false] at hp
    rcases hp with rfl | rfl | rfl | rfl
    · exact ⟨trivial, trivial⟩
    · exact ⟨trivial, trivial⟩
    · exact ⟨fun k hk => by have := K.shp.kids n x hx k hk; omega, K.kf n x hx, fun k hk => by have := K.shp.kids n x hx k hk; exact ⟨this.1, by omega, hmany k hk⟩⟩
    · exact ⟨trivial, trivial⟩
  obtain ⟨b, o, ha, hb, NC⟩ := hL n x hx
  have HKA : Hid (T5.KAt B w x.a x.ks) := NC.k
  have HKC : Hid (x.ks.length ≤ x.c) := NC.kc
  obtain ⟨xk, xt, xa, xc, xks, xp⟩ := x
  simp only at *
  subst hk
  have f1 : Fr [] w (w.alloc (.cells #[.int .i64 22, .string xt, .slice xa xks.length xc, .int .i64 xp] 36)) := (Fr.refl _ _).alloc _
  have b1 := heap_alloc_new w (.cells #[.int .i64 22, .string xt, .slice xa xks.length xc, .int .i64 xp] 36)
  have hgF : w.heap.size ∉ F := fun hm => by have := (h.fb _ hm).2; omega
  unfold ndV
  go_enter Tryz.func80, Tryz.ntmps80
  have WA := h.fr f1 (by simp)
  have LA := hL.fr f1 (by simp)
  have TA := T.fr f1 (by simp)
  have CP := putA H [.text xt, .text ⟨#[40]⟩, .row xks, .text ⟨#[41]⟩] [.iface 9 (.string xt), .iface 9 (.string ⟨#[40]⟩), .iface 93 (.slice xa xks.length xc), .iface 9 (.string ⟨#[41]⟩)] hok WA LA TA ⟨rfl, rfl, ⟨_, _, rfl, HKA.out.fr (f1) (by simp), HKC.out⟩, rfl, trivial⟩ hl2 (by simp) 4 rfl
  simp only [World.size_alloc] at CP
  go_wp2_with fail
  refine CP.mono ?_
  rintro e w2 ⟨rfl, bs', lg', F', k1, k2, k3⟩
  go_wp2
  go_end0
  exact ⟨rfl, bs', lg', F', k1.cast HE.out.symm, k2, (Tr.of0 f1).trans k3⟩
set_option maxRecDepth 100000 in
set_option maxHeartbeats 2000000 in
theorem expr_24 (K : Cst L B a len) (H : Put L B wb a len cap most r) {n : Nat} {x : T5.Nd} (hx : L[n]? = some x) (hk : x.kind = 24) (hr : 3 * n ≤ r + 1) {w : World} {F : List Nat} {bs : List UInt8} {lg : Bool} {ab : Nat} (h : WS B wb F (.slice a len cap) most bs lg ab w) (hL : T5.NAt B w a L) (T : Tabs w) (hl : bs.length + (eN L n).length ≤ 1000000000000) :
    Calls Tryz.prog 80 #[.pointer (some ⟨wb, 0, none⟩), ndV x] w (PostW B wb F (.slice a len cap) most bs lg ab w (eN L n)) := by
  obtain ⟨k0, hks, hex0⟩ := K.shp.one hx (by simp [hk])
  obtain ⟨hk0a, hk0b⟩ := K.shp.kids n x hx k0 (by simp [hks])
  have ek0 : ((k0.toNat : Nat) : Int) = k0 := by omega
  have hmany : ∀ k ∈ x.ks, T5.isEx (T5.kd L k) = true := by intro k hk; rw [hks] at hk; simp at hk; subst hk; exact hex0
  have hn : n < L.length := (List.getElem?_eq_some_iff.1 hx).1
  have hfew := K.few
  have hln := K.ln
  have HE : Hid (eN L n = txtL L ab [.text ⟨(wordB 24).toArray⟩, .text ⟨#[40]⟩, .row x.ks, .text ⟨#[41]⟩]) := by unfold Hid; rw [eN_eq K.shp.kids (k := n) (by simpa using hx)]; simp [exprX, hk, atK, txtL, txtP, tx]
  have hl2 : bs.length + (txtL L ab [.text ⟨(wordB 24).toArray⟩, .text ⟨#[40]⟩, .row x.ks, .text ⟨#[41]⟩]).length ≤ 1000000000000 := by rw [← HE.out]; exact hl
  have hok : ∀ p ∈ ([.text ⟨(wordB 24).toArray⟩, .text ⟨#[40]⟩, .row x.ks, .text ⟨#[41]⟩] : List Part), Fits r p ∧ OkP L ab p := by
    intro p hp
    simp only [List.mem_cons, List.not_mem_nil, or_false] at hp
    rcases hp with rfl | rfl | rfl | rfl
    · exact ⟨trivial, trivial⟩
    · exact ⟨trivial, trivial⟩
    · exact ⟨fun k hk => by have := K.shp.kids n x hx k hk; omega, K.kf n x hx, fun k hk => by have := K.shp.kids n x hx k hk; exact ⟨this.1, by omega, hmany k hk⟩⟩
    · exact ⟨trivial, trivial⟩
  obtain ⟨b, o, ha, hb, NC⟩ := hL n x hx
  clear hks
  have HKA : Hid (T5.KAt B w x.a x.ks) := NC.k
  have HKC : Hid (x.ks.length ≤ x.c) := NC.kc
  obtain ⟨xk, xt, xa, xc, xks, xp⟩ := x
  simp only at *
  subst hk
  have f1 : Fr [] w (w.alloc (.cells #[.int .i64 24, .string xt, .slice xa xks.length xc, .int .i64 xp] 36)) := (Fr.refl _ _).alloc _
  have b1 := heap_alloc_new w (.cells #[.int .i64 24, .string xt, .slice xa xks.length xc, .int .i64 xp] 36)
  have hgF : w.heap.size ∉ F := fun hm => by have := (h.fb _ hm).2; omega
  unfold ndV
  have CW := fun w' => word_any 24 w'
  go_enter Tryz.func80, Tryz.ntmps80
  go_wp2_with fail
  refine (CW _).mono ?_
  rintro e w9 ⟨rfl, rfl⟩
  have WA := h.fr f1 (by simp)
  have LA := hL.fr f1 (by simp)
  have TA := T.fr f1 (by simp)
  have CP := putA H [.text ⟨(wordB 24).toArray⟩, .text ⟨#[40]⟩, .row xks, .text ⟨#[41]⟩] [.iface 9 (.string ⟨(wordB 24).toArray⟩), .iface 9 (.string ⟨#[40]⟩), .iface 93 (.slice xa xks.length xc), .iface 9 (.string ⟨#[41]⟩)] hok WA LA TA ⟨rfl, rfl, ⟨_, _, rfl, HKA.out.fr (f1) (by simp), HKC.out⟩, rfl, trivial⟩ hl2 (by simp) 4 rfl
  simp only [World.size_alloc] at CP
  go_wp2_with fail
  refine CP.mono ?_
  rintro e w2 ⟨rfl, bs', lg', F', k1, k2, k3⟩
  go_wp2
  go_end0
  exact ⟨rfl, bs', lg', F', k1.cast HE.out.symm, k2, (Tr.of0 f1).trans k3⟩
set_option maxRecDepth 100000 in
set_option maxHeartbeats 2000000 in
theorem expr_25 (K : Cst L B a len) (H : Put L B wb a len cap most r) {n : Nat} {x : T5.Nd} (hx : L[n]? = some x) (hk : x.kind = 25) (hr : 3 * n ≤ r + 1) {w : World} {F : List Nat} {bs : List UInt8} {lg : Bool} {ab : Nat} (h : WS B wb F (.slice a len cap) most bs lg ab w) (hL : T5.NAt B w a L) (T : Tabs w) (hl : bs.length + (eN L n).length ≤ 1000000000000) :
    Calls Tryz.prog 80 #[.pointer (some ⟨wb, 0, none⟩), ndV x] w (PostW B wb F (.slice a len cap) most bs lg ab w (eN L n)) := by
  obtain ⟨k0, hks, hex0⟩ := K.shp.one hx (by simp [hk])
  obtain ⟨hk0a, hk0b⟩ := K.shp.kids n x hx k0 (by simp [hks])
  have ek0 : ((k0.toNat : Nat) : Int) = k0 := by omega
  have hmany : ∀ k ∈ x.ks, T5.isEx (T5.kd L k) = true := by intro k hk; rw [hks] at hk; simp at hk; subst hk; exact hex0
  have hn : n < L.length := (List.getElem?_eq_some_iff.1 hx).1
  have hfew := K.few
  have hln := K.ln
  have HE : Hid (eN L n = txtL L ab [.text ⟨(wordB 25).toArray⟩, .text ⟨#[40]⟩, .row x.ks, .text ⟨#[41]⟩]) := by unfold Hid; rw [eN_eq K.shp.kids (k := n) (by simpa using hx)]; simp [exprX, hk, atK, txtL, txtP, tx]
  have hl2 : bs.length + (txtL L ab [.text ⟨(wordB 25).toArray⟩, .text ⟨#[40]⟩, .row x.ks, .text ⟨#[41]⟩]).length ≤ 1000000000000 := by rw [← HE.out]; exact hl
  have hok : ∀ p ∈ ([.text ⟨(wordB 25).toArray⟩, .text ⟨#[40]⟩, .row x.ks, .text ⟨#[41]⟩] : List Part), Fits r p ∧ OkP L ab p := by
    intro p hp
    simp only [List.mem_cons, List.not_mem_nil, or_false] at hp
    rcases hp with rfl | rfl | rfl | rfl
    · exact ⟨trivial, trivial⟩
    · exact ⟨trivial, trivial⟩
    · exact ⟨fun k hk => by have := K.shp.kids n x hx k hk; omega, K.kf n x hx, fun k hk => by have := K.shp.kids n x hx k hk; exact ⟨this.1, by omega, hmany k hk⟩⟩
    · exact ⟨trivial, trivial⟩
  obtain ⟨b, o, ha, hb, NC⟩ := hL n x hx
  clear hks
  have HKA : Hid (T5.KAt B w x.a x.ks) := NC.k
  have HKC : Hid (x.ks.length ≤ x.c) := NC.kc
  obtain ⟨xk, xt, xa, xc, xks, xp⟩ := x
  simp only at *
  subst hk
  have f1 : Fr [] w (w.alloc (.cells #[.int .i64 25, .string xt, .slice xa xks.length xc, .int .i64 xp] 36)) := (Fr.refl _ _).alloc _
  have b1 := heap_alloc_new w (.cells #[.int .i64 25, .string xt, .slice xa xks.length xc, .int .i64 xp] 36)
  have hgF : w.heap.size ∉ F := fun hm => by have := (h.fb _ hm).2; omega
  unfold ndV
  have CW := fun w' => word_any 25 w'
  go_enter Tryz.func80, Tryz.ntmps80
  go_wp2_with fail
  refine (CW _).mono ?_
  rintro e w9 ⟨rfl, rfl⟩
  have WA := h.fr f1 (by simp)
  have LA := hL.fr f1 (by simp)
  have TA := T.fr f1 (by simp)
  have CP := putA H [.text ⟨(wordB 25).toArray⟩, .text ⟨#[40]⟩, .row xks, .text ⟨#[41]⟩] [.iface 9 (.string ⟨(wordB 25).toArray⟩), .iface 9 (.string ⟨#[40]⟩), .iface 93 (.slice xa xks.length xc), .iface 9 (.string ⟨#[41]⟩)] hok WA LA TA ⟨rfl, rfl, ⟨_, _, rfl, HKA.out.fr (f1) (by simp), HKC.out⟩, rfl, trivial⟩ hl2 (by simp) 4 rfl
  simp only [World.size_alloc] at CP
  go_wp2_with fail
  refine CP.mono ?_
  rintro e w2 ⟨rfl, bs', lg', F', k1, k2, k3⟩
  go_wp2
  go_end0
  exact ⟨rfl, bs', lg', F', k1.cast HE.out.symm, k2, (Tr.of0 f1).trans k3⟩
set_option maxRecDepth 100000 in
set_option maxHeartbeats 2000000 in
theorem expr_27 (K : Cst L B a len) (H : Put L B wb a len cap most r) {n : Nat} {x : T5.Nd} (hx : L[n]? = some x) (hk : x.kind = 27) (hr : 3 * n ≤ r + 1) {w : World} {F : List Nat} {bs : List UInt8} {lg : Bool} {ab : Nat} (h : WS B wb F (.slice a len cap) most bs lg ab w) (hL : T5.NAt B w a L) (T : Tabs w) (hl : bs.length + (eN L n).length ≤ 1000000000000) :
    Calls Tryz.prog 80 #[.pointer (some ⟨wb, 0, none⟩), ndV x] w (PostW B wb F (.slice a len cap) most bs lg ab w (eN L n)) := by
  obtain ⟨k0, hks, hex0⟩ := K.shp.one hx (by simp [hk])
  obtain ⟨hk0a, hk0b⟩ := K.shp.kids n x hx k0 (by simp [hks])
  have ek0 : ((k0.toNat : Nat) : Int) = k0 := by omega
  have hmany : ∀ k ∈ x.ks, T5.isEx (T5.kd L k) = true := by intro k hk; rw [hks] at hk; simp at hk; subst hk; exact hex0
  have hn : n < L.length := (List.getElem?_eq_some_iff.1 hx).1
  have hfew := K.few
  have hln := K.ln
  have HE : Hid (eN L n = txtL L ab [.text ⟨(wordB 27).toArray⟩, .text ⟨#[40]⟩, .row x.ks, .text ⟨#[41]⟩]) := by unfold Hid; rw [eN_eq K.shp.kids (k := n) (by simpa using hx)]; simp [exprX, hk, atK, txtL, txtP, tx]
  have hl2 : bs.length + (txtL L ab [.text ⟨(wordB 27).toArray⟩, .text ⟨#[40]⟩, .row x.ks, .text ⟨#[41]⟩]).length ≤ 1000000000000 := by rw [← HE.out]; exact hl
  have hok : ∀ p ∈ ([.text ⟨(wordB 27).toArray⟩, .text ⟨#[40]⟩, .row x.ks, .text ⟨#[41]⟩] : List Part), Fits r p ∧ OkP L ab p := by
    intro p hp
    simp only [List.mem_cons, List.not_mem_nil, or_false] at hp
    rcases hp with rfl | rfl | rfl | rfl
    · exact ⟨trivial, trivial⟩
    · exact ⟨trivial, trivial⟩
    · exact ⟨fun k hk => by have := K.shp.kids n x hx k hk; omega, K.kf n x hx, fun k hk => by have := K.shp.kids n x hx k hk; exact ⟨this.1, by omega, hmany k hk⟩⟩
    · exact ⟨trivial, trivial⟩
  obtain ⟨b, o, ha, hb, NC⟩ := hL n x hx
  clear hks
  have HKA : Hid (T5.KAt B w x.a x.ks) := NC.k
  have HKC : Hid (x.ks.length ≤ x.c) := NC.kc
  obtain ⟨xk, xt, xa, xc, xks, xp⟩ := x
  simp only at *
  subst hk
  have f1 : Fr [] w (w.alloc (.cells #[.int .i64 27, .string xt, .slice xa xks.length xc, .int .i64 xp] 36)) := (Fr.refl _ _).alloc _
  have b1 := heap_alloc_new w (.cells #[.int .i64 27, .string xt, .slice xa xks.length xc, .int .i64 xp] 36)
  have hgF : w.heap.size ∉ F := fun hm => by have := (h.fb _ hm).2; omega
  unfold ndV
  have CW := fun w' => word_any 27 w'
  go_enter Tryz.func80, Tryz.ntmps80
  go_wp2_with fail
  refine (CW _).mono ?_
  rintro e w9 ⟨rfl, rfl⟩
  have WA := h.fr f1 (by simp)
  have LA := hL.fr f1 (by simp)
  have TA := T.fr f1 (by simp)
  have CP := putA H [.text ⟨(wordB 27).toArray⟩, .text ⟨#[40]⟩, .row xks, .text ⟨#[41]⟩] [.iface 9 (.string ⟨(wordB 27).toArray⟩), .iface 9 (.string ⟨#[40]⟩), .iface 93 (.slice xa xks.length xc), .iface 9 (.string ⟨#[41]⟩)] hok WA LA TA ⟨rfl, rfl, ⟨_, _, rfl, HKA.out.fr (f1) (by simp), HKC.out⟩, rfl, trivial⟩ hl2 (by simp) 4 rfl
  simp only [World.size_alloc] at CP
  go_wp2_with fail
  refine CP.mono ?_
  rintro e w2 ⟨rfl, bs', lg', F', k1, k2, k3⟩
  go_wp2
  go_end0
  exact ⟨rfl, bs', lg', F', k1.cast HE.out.symm, k2, (Tr.of0 f1).trans k3⟩
set_option maxRecDepth 100000 in
set_option maxHeartbeats 2000000 in
theorem expr_29 (K : Cst L B a len) (H : Put L B wb a len cap most r) {n : Nat} {x : T5.Nd} (hx : L[n]? = some x) (hk : x.kind = 29) (hr : 3 * n ≤ r + 1) {w : World} {F : List Nat} {bs : List UInt8} {lg : Bool} {ab : Nat} (h : WS B wb F (.slice a len cap) most bs lg ab w) (hL : T5.NAt B w a L) (T : Tabs w) (hl : bs.length + (eN L n).length ≤ 1000000000000) :
    Calls Tryz.prog 80 #[.pointer (some ⟨wb, 0, none⟩), ndV x] w (PostW B wb F (.slice a len cap) most bs lg ab w (eN L n)) := by
  obtain ⟨k0, hks, hex0⟩ := K.shp.one hx (by simp [hk])
  obtain ⟨hk0a, hk0b⟩ := K.shp.kids n x hx k0 (by simp [hks])
  have ek0 : ((k0.toNat : Nat) : Int) = k0 := by omega
  have hmany : ∀ k ∈ x.ks, T5.isEx (T5.kd L k) = true := by intro k hk; rw [hks] at hk; simp at hk; subst hk; exact hex0
  have hn : n < L.length := (List.getElem?_eq_some_iff.1 hx).1
  have hfew := K.few
  have hln := K.ln
  have HE : Hid (eN L n = txtL L ab [.text ⟨(wordB 29).toArray⟩, .text ⟨#[40]⟩, .row x.ks, .text ⟨#[41]⟩]) := by unfold Hid; rw [eN_eq K.shp.kids (k := n) (by simpa using hx)]; simp [exprX, hk, atK, txtL, txtP, tx]
  have hl2 : bs.length + (txtL L ab [.text ⟨(wordB 29).toArray⟩, .text ⟨#[40]⟩, .row x.ks, .text ⟨#[41]⟩]).length ≤ 1000000000000 := by rw [← HE.out]; exact hl
  have hok : ∀ p ∈ ([.text ⟨(wordB 29).toArray⟩, .text ⟨#[40]⟩, .row x.ks, .text ⟨#[41]⟩] : List Part), Fits r p ∧ OkP L ab p := by
    intro p hp
    simp only [List.mem_cons, List.not_mem_nil, or_false] at hp
    rcases hp with rfl | rfl | rfl | rfl
    · exact ⟨trivial, trivial⟩
    · exact ⟨trivial, trivial⟩
    · exact ⟨fun k hk => by have := K.shp.kids n x hx k hk; omega, K.kf n x hx, fun k hk => by have := K.shp.kids n x hx k hk; exact ⟨this.1, by omega, hmany k hk⟩⟩
    · exact ⟨trivial, trivial⟩
  obtain ⟨b, o, ha, hb, NC⟩ := hL n x hx
  clear hks
  have HKA : Hid (T5.KAt B w x.a x.ks) := NC.k
  have HKC : Hid (x.ks.length ≤ x.c) := NC.kc
  obtain ⟨xk, xt, xa, xc, xks, xp⟩ := x
  simp only at *
  subst hk
  have f1 : Fr [] w (w.alloc (.cells #[.int .i64 29, .string xt, .slice xa xks.length xc, .int .i64 xp] 36)) := (Fr.refl _ _).alloc _
  have b1 := heap_alloc_new w (.cells #[.int .i64 29, .string xt, .slice xa xks.length xc, .int .i64 xp] 36)
  have hgF : w.heap.size ∉ F := fun hm => by have := (h.fb _ hm).2; omega
  unfold ndV
  have CW := fun w' => word_any 29 w'
  go_enter Tryz.func80, Tryz.ntmps80
  go_wp2_with fail
  refine (CW _).mono ?_
  rintro e w9 ⟨rfl, rfl⟩
  have WA := h.fr f1 (by simp)
  have LA := hL.fr f1 (by simp)
  have TA := T.fr f1 (by simp)
  have CP := putA H [.text ⟨(wordB 29).toArray⟩, .text ⟨#[40]⟩, .row xks, .text ⟨#[41]⟩] [.iface 9 (.string ⟨(wordB 29).toArray⟩), .iface 9 (.string ⟨#[40]⟩), .iface 93 (.slice xa xks.length xc), .iface 9 (.string ⟨#[41]⟩)] hok WA LA TA ⟨rfl, rfl, ⟨_, _, rfl, HKA.out.fr (f1) (by simp), HKC.out⟩, rfl, trivial⟩ hl2 (by simp) 4 rfl
  simp only [World.size_alloc] at CP
  go_wp2_with fail
  refine CP.mono ?_
  rintro e w2 ⟨rfl, bs', lg', F', k1, k2, k3⟩
  go_wp2
  go_end0
  exact ⟨rfl, bs', lg', F', k1.cast HE.out.symm, k2, (Tr.of0 f1).trans k3⟩
set_option maxRecDepth 100000 in
set_option maxHeartbeats 2000000 in
theorem expr_26 (K : Cst L B a len) (H : Put L B wb a len cap most r) {n : Nat} {x : T5.Nd} (hx : L[n]? = some x) (hk : x.kind = 26) (hr : 3 * n ≤ r + 1) {w : World} {F : List Nat} {bs : List UInt8} {lg : Bool} {ab : Nat} (h : WS B wb F (.slice a len cap) most bs lg ab w) (hL : T5.NAt B w a L) (T : Tabs w) (hl : bs.length + (eN L n).length ≤ 1000000000000) :
    Calls Tryz.prog 80 #[.pointer (some ⟨wb, 0, none⟩), ndV x] w (PostW B wb F (.slice a len cap) most bs lg ab w (eN L n)) := by
  have hks := K.shp.nil hx (by simp [hk])
  have hmany : ∀ k ∈ x.ks, T5.isEx (T5.kd L k) = true := by intro k hk; rw [hks] at hk; simp at hk
  have hn : n < L.length := (List.getElem?_eq_some_iff.1 hx).1
  have hfew := K.few
  have hln := K.ln
  have HE : Hid (eN L n = txtL L ab [.text ⟨(wordB 26).toArray⟩, .text ⟨#[40]⟩, .row x.ks, .text ⟨#[41]⟩]) := by unfold Hid; rw [eN_eq K.shp.kids (k := n) (by simpa using hx)]; simp [exprX, hk, atK, txtL, txtP, tx]
  have hl2 : bs.length + (txtL L ab [.text ⟨(wordB 26).toArray⟩, .text ⟨#[40]⟩, .row x.ks, .text ⟨#[41]⟩]).length ≤ 1000000000000 := by rw [← HE.out]; exact hl
  have hok : ∀ p ∈ ([.text ⟨(wordB 26).toArray⟩, .text ⟨#[40]⟩, .row x.ks, .text ⟨#[41]⟩] : List Part), Fits r p ∧ OkP L ab p := by
    intro p hp
    simp only [List.mem_cons, List.not_mem_nil, or_false] at hp
    rcases hp with rfl | rfl | rfl | rfl
    · exact ⟨trivial, trivial⟩
    · exact ⟨trivial, trivial⟩
    · exact ⟨fun k hk => by have := K.shp.kids n x hx k hk; omega, K.kf n x hx, fun k hk => by have := K.shp.kids n x hx k hk; exact ⟨this.1, by omega, hmany k hk⟩⟩
    · exact ⟨trivial, trivial⟩
  obtain ⟨b, o, ha, hb, NC⟩ := hL n x hx
  clear hks
  have HKA : Hid (T5.KAt B w x.a x.ks) := NC.k
  have HKC : Hid (x.ks.length ≤ x.c) := NC.kc
  obtain ⟨xk, xt, xa, xc, xks, xp⟩ := x
  simp only at *
  subst hk
  have f1 : Fr [] w (w.alloc (.cells #[.int .i64 26, .string xt, .slice xa xks.length xc, .int .i64 xp] 36)) := (Fr.refl _ _).alloc _
  have b1 := heap_alloc_new w (.cells #[.int .i64 26, .string xt, .slice xa xks.length xc, .int .i64 xp] 36)
  have hgF : w.heap.size ∉ F := fun hm => by have := (h.fb _ hm).2; omega
  unfold ndV
  have CW := fun w' => word_any 26 w'
  go_enter Tryz.func80, Tryz.ntmps80
  go_wp2_with fail
  refine (CW _).mono ?_
  rintro e w9 ⟨rfl, rfl⟩
  have WA := h.fr f1 (by simp)
  have LA := hL.fr f1 (by simp)
  have TA := T.fr f1 (by simp)
  have CP := putA H [.text ⟨(wordB 26).toArray⟩, .text ⟨#[40]⟩, .row xks, .text ⟨#[41]⟩] [.iface 9 (.string ⟨(wordB 26).toArray⟩), .iface 9 (.string ⟨#[40]⟩), .iface 93 (.slice xa xks.length xc), .iface 9 (.string ⟨#[41]⟩)] hok WA LA TA ⟨rfl, rfl, ⟨_, _, rfl, HKA.out.fr (f1) (by simp), HKC.out⟩, rfl, trivial⟩ hl2 (by simp) 4 rfl
  simp only [World.size_alloc] at CP
  go_wp2_with fail
  refine CP.mono ?_
  rintro e w2 ⟨rfl, bs', lg', F', k1, k2, k3⟩
  go_wp2
  go_end0
  exact ⟨rfl, bs', lg', F', k1.cast HE.out.symm, k2, (Tr.of0 f1).trans k3⟩
set_option maxRecDepth 100000 in
set_option maxHeartbeats 2000000 in
theorem expr_28 (K : Cst L B a len) (H : Put L B wb a len cap most r) {n : Nat} {x : T5.Nd} (hx : L[n]? = some x) (hk : x.kind = 28) (hr : 3 * n ≤ r + 1) {w : World} {F : List Nat} {bs : List UInt8} {lg : Bool} {ab : Nat} (h : WS B wb F (.slice a len cap) most bs lg ab w) (hL : T5.NAt B w a L) (T : Tabs w) (hl : bs.length + (eN L n).length ≤ 1000000000000) :
    Calls Tryz.prog 80 #[.pointer (some ⟨wb, 0, none⟩), ndV x] w (PostW B wb F (.slice a len cap) most bs lg ab w (eN L n)) := by
  have hks := K.shp.nil hx (by simp [hk])
  have hmany : ∀ k ∈ x.ks, T5.isEx (T5.kd L k) = true := by intro k hk; rw [hks] at hk; simp at hk
  have hn : n < L.length := (List.getElem?_eq_some_iff.1 hx).1
  have hfew := K.few
  have hln := K.ln
  have HE : Hid (eN L n = txtL L ab [.text ⟨(wordB 28).toArray⟩, .text ⟨#[40]⟩, .row x.ks, .text ⟨#[41]⟩]) := by unfold Hid; rw [eN_eq K.shp.kids (k := n) (by simpa using hx)]; simp [exprX, hk, atK, txtL, txtP, tx]
  have hl2 : bs.length + (txtL L ab [.text ⟨(wordB 28).toArray⟩, .text ⟨#[40]⟩, .row x.ks, .text ⟨#[41]⟩]).length ≤ 1000000000000 := by rw [← HE.out]; exact hl
  have hok : ∀ p ∈ ([.text ⟨(wordB 28).toArray⟩, .text ⟨#[40]⟩, .row x.ks, .text ⟨#[41]⟩] : List Part), Fits r p ∧ OkP L ab p := by
    intro p hp
    simp only [List.mem_cons, List.not_mem_nil, or_false] at hp
    rcases hp with rfl | rfl | rfl | rfl
    · exact ⟨trivial, trivial⟩
    · exact ⟨trivial, trivial⟩
    · exact ⟨fun k hk => by have := K.shp.kids n x hx k hk; omega, K.kf n x hx, fun k hk => by have := K.shp.kids n x hx k hk; exact ⟨this.1, by omega, hmany k hk⟩⟩
    · exact ⟨trivial, trivial⟩
  obtain ⟨b, o, ha, hb, NC⟩ := hL n x hx
  clear hks
  have HKA : Hid (T5.KAt B w x.a x.ks) := NC.k
  have HKC : Hid (x.ks.length ≤ x.c) := NC.kc
  obtain ⟨xk, xt, xa, xc, xks, xp⟩ := x
  simp only at *
  subst hk
  have f1 : Fr [] w (w.alloc (.cells #[.int .i64 28, .string xt, .slice xa xks.length xc, .int .i64 xp] 36)) := (Fr.refl _ _).alloc _
  have b1 := heap_alloc_new w (.cells #[.int .i64 28, .string xt, .slice xa xks.length xc, .int .i64 xp] 36)
  have hgF : w.heap.size ∉ F := fun hm => by have := (h.fb _ hm).2; omega
  unfold ndV
  have CW := fun w' => word_any 28 w'
  go_enter Tryz.func80, Tryz.ntmps80
  go_wp2_with fail
  refine (CW _).mono ?_
  rintro e w9 ⟨rfl, rfl⟩
  have WA := h.fr f1 (by simp)
  have LA := hL.fr f1 (by simp)
  have TA := T.fr f1 (by simp)
  have CP := putA H [.text ⟨(wordB 28).toArray⟩, .text ⟨#[40]⟩, .row xks, .text ⟨#[41]⟩] [.iface 9 (.string ⟨(wordB 28).toArray⟩), .iface 9 (.string ⟨#[40]⟩), .iface 93 (.slice xa xks.length xc), .iface 9 (.string ⟨#[41]⟩)] hok WA LA TA ⟨rfl, rfl, ⟨_, _, rfl, HKA.out.fr (f1) (by simp), HKC.out⟩, rfl, trivial⟩ hl2 (by simp) 4 rfl
  simp only [World.size_alloc] at CP
  go_wp2_with fail
  refine CP.mono ?_
  rintro e w2 ⟨rfl, bs', lg', F', k1, k2, k3⟩
  go_wp2
  go_end0
  exact ⟨rfl, bs', lg', F', k1.cast HE.out.symm, k2, (Tr.of0 f1).trans k3⟩
end
end Go.Proofs.YtnebhkglpggnlaaGreatDoor
namespace Go.Proofs.YtnebhkglpggnlaaGreatDoor
open Go.RowKit
set_option linter.unusedVariables false
set_option linter.unusedSimpArgs false

section
variable {L : List T5.Nd} {B wb : Nat} {a : Option Addr} {len cap most r : Nat}
theorem wrap_small (t : Nat) (h : t ≤ 5) : IntKind.i64.wrap ((t : Int) + 1) = ((t + 1 : Nat) : Int) := by
  have : t = 0 ∨ t = 1 ∨ t = 2 ∨ t = 3 ∨ t = 4 ∨ t = 5 := by omega
  rcases this with rfl | rfl | rfl | rfl | rfl | rfl <;> decide +kernel
set_option maxRecDepth 100000 in
set_option maxHeartbeats 2000000 in
theorem expr_19 (K : Cst L B a len) (H : Put L B wb a len cap most r) {n : Nat} {x : T5.Nd} (hx : L[n]? = some x) (hk : x.kind = 19) (hr : 3 * n ≤ r + 1) {w : World} {F : List Nat} {bs : List UInt8} {lg : Bool} {ab : Nat} (h : WS B wb F (.slice a len cap) most bs lg ab w) (hL : T5.NAt B w a L) (T : Tabs w) (hl : bs.length + (eN L n).length ≤ 1000000000000) :
    Calls Tryz.prog 80 #[.pointer (some ⟨wb, 0, none⟩), ndV x] w (PostW B wb F (.slice a len cap) most bs lg ab w (eN L n)) := by
  obtain ⟨k0, k1, hks, hex0, hex1⟩ := K.shp.two hx (by simp [hk])
  obtain ⟨hk0a, hk0b⟩ := K.shp.kids n x hx k0 (by simp [hks])
  have ek0 : ((k0.toNat : Nat) : Int) = k0 := by omega
  obtain ⟨hk1a, hk1b⟩ := K.shp.kids n x hx k1 (by simp [hks])
  have ek1 : ((k1.toNat : Nat) : Int) = k1 := by omega
  have hn : n < L.length := (List.getElem?_eq_some_iff.1 hx).1
  have hfew := K.few
  have hln := K.ln
  have hop5 := opT_le x.text.data.toList
  have HE : Hid (eN L n = txtL L ab [.side k0.toNat (max (opT x.text.data.toList) 1), .text ⟨#[32]⟩, .text x.text, .text ⟨#[32]⟩, .side k1.toNat (opT x.text.data.toList + 1)]) := by unfold Hid; rw [eN_eq K.shp.kids (k := n) (by simpa using hx)]; simp [exprX, hk, hks, atK, txtL, txtP, tx, ek0, ek1]
  have hl2 : bs.length + (txtL L ab [.side k0.toNat (max (opT x.text.data.toList) 1), .text ⟨#[32]⟩, .text x.text, .text ⟨#[32]⟩, .side k1.toNat (opT x.text.data.toList + 1)]).length ≤ 1000000000000 := by rw [← HE.out]; exact hl
  have hok : ∀ p ∈ ([.side k0.toNat (max (opT x.text.data.toList) 1), .text ⟨#[32]⟩, .text x.text, .text ⟨#[32]⟩, .side k1.toNat (opT x.text.data.toList + 1)] : List Part), Fits r p ∧ OkP L ab p := by
    intro p hp
    simp only [List.mem_cons, List.not_mem_nil, or_false] at hp
    rcases hp with rfl | rfl | rfl | rfl | rfl
    · exact ⟨by simp only [Fits]; omega, by omega, by rw [ek0]; exact hex0, by omega⟩
    · exact ⟨trivial, trivial⟩
    · exact ⟨trivial, trivial⟩
    · exact ⟨trivial, trivial⟩
    · exact ⟨by simp only [Fits]; omega, by omega, by rw [ek1]; exact hex1, by omega⟩
  obtain ⟨b, o, ha, hb, NC⟩ := hL n x hx
  obtain ⟨kb, ko, hxa, hkb, kc0⟩ := NC.k 0 k0 (by simp [hks])
  obtain ⟨kb', ko', hxa', hkb', kc1⟩ := NC.k 1 k1 (by simp [hks])
  rw [hxa] at hxa'
  cases hxa'
  obtain ⟨xk, xt, xa, xc, xks, xp⟩ := x
  simp only at *
  subst hk
  subst hks hxa
  have f1 : Fr [] w (w.alloc (.cells #[.int .i64 19, .string xt, .slice (some ⟨kb, ko, none⟩) 2 xc, .int .i64 xp] 36)) := (Fr.refl _ _).alloc _
  have b1 := heap_alloc_new w (.cells #[.int .i64 19, .string xt, .slice (some ⟨kb, ko, none⟩) 2 xc, .int .i64 xp] 36)
  have kd0 := f1.cell1 kc0 (by simp)
  have kd1 := f1.cell1 kc1 (by simp)
  have hgF : w.heap.size ∉ F := fun hm => by have := (h.fb _ hm).2; omega
  have hkF : kb ∉ F := fun hm => by have := h.hi _ hm; omega
  unfold ndV
  have CT := fun w' => tight_any 19 xt (.slice (some ⟨kb, ko, none⟩) 2 xc) xp w'
  have et : (if (19 : Int) = 19 then opT xt.data.toList else if (19 : Int) = 18 then 6 else 7 : Nat) = opT xt.data.toList := rfl
  rw [et] at CT
  go_enter Tryz.func80, Tryz.ntmps80
  go_wp2_with fail
  refine (CT _).mono ?_
  rintro e wt ⟨rfl, ft⟩
  have f1 := f1.trans ft
  have b1 := (ft.block _ (Array.getElem?_eq_some_iff.1 b1).1 (by simp)).trans b1
  have kd0 := ft.cell1 kd0 (by simp)
  have kd1 := ft.cell1 kd1 (by simp)
  clear CT
  go_wp2
  generalize w.heap.size = g at *
  generalize hop : opT xt.data.toList = tn at *
  have s0 : ∀ w', Fr F wt w' → w'.cell? ⟨g, 0, none⟩ = _ := fun w' f => f.cell1 (at_cells b1 0 rfl) hgF
  have s1 : ∀ w', Fr F wt w' → w'.cell? ⟨g, 1, none⟩ = _ := fun w' f => f.cell1 (at_cells b1 1 rfl) hgF
  have q0 : ∀ w', Fr F wt w' → w'.cell? ⟨kb, ko + 0, none⟩ = _ := fun w' f => f.cell1 kd0 hkF
  have q1 : ∀ w', Fr F wt w' → w'.cell? ⟨kb, ko + 1, none⟩ = _ := fun w' f => f.cell1 kd1 hkF
  simp only [Nat.add_zero] at *
  have fA : Fr F wt wt := Fr.refl _ _
  have WA := h.fr f1 (by simp)
  have LA := hL.fr f1 (by simp)
  have TA := T.fr f1 (by simp)
  have hw1 : IntKind.i64.wrap ((tn : Int) + 1) = ((tn + 1 : Nat) : Int) := wrap_small tn hop5
  have hm1 : max (tn : Int) 1 = ((max tn 1 : Nat) : Int) := by omega
  have hv0 : PVal B wt (.side k0.toNat (max tn 1)) (.iface 92 (.agg #[.int .i64 k0, .int .i64 (max (tn : Int) 1)])) := by simp only [PVal]; rw [ek0, hm1]
  have hv1 : PVal B wt (.side k1.toNat (tn + 1)) (.iface 92 (.agg #[.int .i64 k1, .int .i64 (IntKind.i64.wrap ((tn : Int) + 1))])) := by simp only [PVal]; rw [ek1, hw1]
  clear hw1 hm1
  go_region_held3 (fun w' => Fr F wt w') (with_reducible (first | assumption | (refine Fr.drew ?_; assumption) | (refine Fr.alloc ?_ _; assumption) | (refine Fr.drew ?_; refine Fr.alloc ?_ _; assumption)))
    (first
      | (go_at_call 26; refine (putD H [.side k0.toNat (max (tn) 1), .text ⟨#[32]⟩, .text xt, .text ⟨#[32]⟩, .side k1.toNat (tn + 1)] [.iface 92 (.agg #[.int .i64 k0, .int .i64 (max (tn : Int) 1)]), .iface 9 (.string ⟨#[32]⟩), .iface 9 (.string xt), .iface 9 (.string ⟨#[32]⟩), .iface 92 (.agg #[.int .i64 k1, .int .i64 (IntKind.i64.wrap ((tn : Int) + 1))])] hok WA LA TA ⟨hv0, rfl, rfl, rfl, hv1, trivial⟩ hl2 (by simp) 5 rfl).mono ?_; rintro e w2 ⟨rfl, bs', lg', F', k1, k2, k3⟩; have fz : Fr F wt w2 := k3.f))
  go_wp2
  go_end0
  exact ⟨rfl, bs', lg', F', k1.cast HE.out.symm, k2, (Tr.of0 f1).trans k3⟩
end
end Go.Proofs.YtnebhkglpggnlaaGreatDoor
namespace Go.Proofs.YtnebhkglpggnlaaGreatDoor
open Go.RowKit
set_option linter.unusedVariables false
set_option linter.unusedSimpArgs false

section
variable {L : List T5.Nd} {B wb : Nat} {a : Option Addr} {len cap most r : Nat}
set_option maxRecDepth 100000 in
set_option maxHeartbeats 2000000 in
theorem stmt_5 (K : Cst L B a len) (H : Put L B wb a len cap most r) {n : Nat} {x : T5.Nd} (hx : L[n]? = some x) (hk : x.kind = 5) (hr : 3 * n ≤ r + 1) {w : World} {F : List Nat} {bs : List UInt8} {lg : Bool} {ab : Nat} (hab : ab + n ≤ 60001) (h : WS B wb F (.slice a len cap) most bs lg ab w) (hL : T5.NAt B w a L) (T : Tabs w) (hl : bs.length + (sN L ab n).length ≤ 1000000000000) :
    Calls Tryz.prog 77 #[.pointer (some ⟨wb, 0, none⟩), ndV x] w (PostW B wb F (.slice a len cap) most bs lg ab w (sN L ab n)) := by
  obtain ⟨k0, hks, hex0⟩ := K.shp.one hx (by simp [hk])
  obtain ⟨hk0a, hk0b⟩ := K.shp.kids n x hx k0 (by simp [hks])
  have ek0 : ((k0.toNat : Nat) : Int) = k0 := by omega
  have hn : n < L.length := (List.getElem?_eq_some_iff.1 hx).1
  have hfew := K.few
  have hln := K.ln
  have HE : Hid (sN L ab n = lineB L ab [.text ⟨#[108, 101, 116, 32]⟩, .text x.text, .text ⟨#[32, 61, 32]⟩, .whole k0.toNat, .text ⟨#[59]⟩]) := by unfold Hid; rw [sN_eq K.shp.kids (k := n) (by simpa using hx)]; simp [stmtX, hk, hks, atK, lineB, txtL, txtP, tx, bodyB, ek0]
  have hl2 : bs.length + (lineB L ab [.text ⟨#[108, 101, 116, 32]⟩, .text x.text, .text ⟨#[32, 61, 32]⟩, .whole k0.toNat, .text ⟨#[59]⟩]).length ≤ 1000000000000 := by rw [← HE.out]; exact hl
  have hok : ∀ p ∈ ([.text ⟨#[108, 101, 116, 32]⟩, .text x.text, .text ⟨#[32, 61, 32]⟩, .whole k0.toNat, .text ⟨#[59]⟩] : List Part), Fits r p ∧ OkP L ab p := by
    intro p hp
    simp only [List.mem_cons, List.not_mem_nil, or_false] at hp
    rcases hp with rfl | rfl | rfl | rfl | rfl
    · exact ⟨trivial, trivial⟩
    · exact ⟨trivial, trivial⟩
    · exact ⟨trivial, trivial⟩
    · exact ⟨by simp only [Fits]; omega, by omega, by rw [ek0]; exact hex0⟩
    · exact ⟨trivial, trivial⟩
  obtain ⟨b, o, ha, hb, NC⟩ := hL n x hx
  obtain ⟨kb, ko, hxa, hkb, kc0⟩ := NC.k 0 k0 (by simp [hks])
  obtain ⟨xk, xt, xa, xc, xks, xp⟩ := x
  simp only at *
  subst hk
  subst hks hxa
  have f1 : Fr [] w (w.alloc (.cells #[.int .i64 5, .string xt, .slice (some ⟨kb, ko, none⟩) 1 xc, .int .i64 xp] 36)) := (Fr.refl _ _).alloc _
  have b1 := heap_alloc_new w (.cells #[.int .i64 5, .string xt, .slice (some ⟨kb, ko, none⟩) 1 xc, .int .i64 xp] 36)
  have kd0 := f1.cell1 kc0 (by simp)
  have hgF : w.heap.size ∉ F := fun hm => by have := (h.fb _ hm).2; omega
  have hkF : kb ∉ F := fun hm => by have := h.hi _ hm; omega
  unfold ndV
  go_enter Tryz.func77, Tryz.ntmps77
  go_wp2
  generalize w.alloc (.cells #[.int .i64 5, .string xt, .slice (some ⟨kb, ko, none⟩) 1 xc, .int .i64 xp] 36) = w1 at *
  generalize w.heap.size = g at *
  have s0 : ∀ w', Fr F w1 w' → w'.cell? ⟨g, 0, none⟩ = _ := fun w' f => f.cell1 (at_cells b1 0 rfl) hgF
  have s1 : ∀ w', Fr F w1 w' → w'.cell? ⟨g, 1, none⟩ = _ := fun w' f => f.cell1 (at_cells b1 1 rfl) hgF
  have q0 : ∀ w', Fr F w1 w' → w'.cell? ⟨kb, ko + 0, none⟩ = _ := fun w' f => f.cell1 kd0 hkF
  simp only [Nat.add_zero] at *
  have fA : Fr F w1 w1 := Fr.refl _ _
  have WA := h.fr f1 (by simp)
  have LA := hL.fr f1 (by simp)
  have TA := T.fr f1 (by simp)
  go_region_held3 (fun w' => Fr F w1 w') (with_reducible (first | assumption | (refine Fr.drew ?_; assumption) | (refine Fr.alloc ?_ _; assumption) | (refine Fr.drew ?_; refine Fr.alloc ?_ _; assumption)))
    (first
      | (go_at_call 95; refine (lineD H [.text ⟨#[108, 101, 116, 32]⟩, .text xt, .text ⟨#[32, 61, 32]⟩, .whole k0.toNat, .text ⟨#[59]⟩] [.iface 9 (.string ⟨#[108, 101, 116, 32]⟩), .iface 9 (.string xt), .iface 9 (.string ⟨#[32, 61, 32]⟩), .iface 89 (.int .i64 k0), .iface 9 (.string ⟨#[59]⟩)] hok WA LA TA ⟨rfl, rfl, rfl, by simp [PVal, ek0], rfl, trivial⟩ hl2 (by simp) 5 rfl).mono ?_; rintro e w2 ⟨rfl, bs', lg', F', k1, k2, k3⟩; have fz : Fr F w1 w2 := k3.f))
  go_wp2
  go_end0
  exact ⟨rfl, bs', lg', F', k1.cast HE.out.symm, k2, (Tr.of0 f1).trans k3⟩
set_option maxRecDepth 100000 in
set_option maxHeartbeats 2000000 in
theorem stmt_6 (K : Cst L B a len) (H : Put L B wb a len cap most r) {n : Nat} {x : T5.Nd} (hx : L[n]? = some x) (hk : x.kind = 6) (hr : 3 * n ≤ r + 1) {w : World} {F : List Nat} {bs : List UInt8} {lg : Bool} {ab : Nat} (hab : ab + n ≤ 60001) (h : WS B wb F (.slice a len cap) most bs lg ab w) (hL : T5.NAt B w a L) (T : Tabs w) (hl : bs.length + (sN L ab n).length ≤ 1000000000000) :
    Calls Tryz.prog 77 #[.pointer (some ⟨wb, 0, none⟩), ndV x] w (PostW B wb F (.slice a len cap) most bs lg ab w (sN L ab n)) := by
  obtain ⟨k0, k1, hks, hex0, hex1⟩ := K.shp.two hx (by simp [hk])
  obtain ⟨hk0a, hk0b⟩ := K.shp.kids n x hx k0 (by simp [hks])
  have ek0 : ((k0.toNat : Nat) : Int) = k0 := by omega
  obtain ⟨hk1a, hk1b⟩ := K.shp.kids n x hx k1 (by simp [hks])
  have ek1 : ((k1.toNat : Nat) : Int) = k1 := by omega
  have hn : n < L.length := (List.getElem?_eq_some_iff.1 hx).1
  have hfew := K.few
  have hln := K.ln
  have HE : Hid (sN L ab n = lineB L ab [.whole k0.toNat, .text ⟨#[32, 61, 32]⟩, .whole k1.toNat, .text ⟨#[59]⟩]) := by unfold Hid; rw [sN_eq K.shp.kids (k := n) (by simpa using hx)]; simp [stmtX, hk, hks, atK, lineB, txtL, txtP, tx, bodyB, ek0, ek1]
  have hl2 : bs.length + (lineB L ab [.whole k0.toNat, .text ⟨#[32, 61, 32]⟩, .whole k1.toNat, .text ⟨#[59]⟩]).length ≤ 1000000000000 := by rw [← HE.out]; exact hl
  have hok : ∀ p ∈ ([.whole k0.toNat, .text ⟨#[32, 61, 32]⟩, .whole k1.toNat, .text ⟨#[59]⟩] : List Part), Fits r p ∧ OkP L ab p := by
    intro p hp
    simp only [List.mem_cons, List.not_mem_nil, or_false] at hp
    rcases hp with rfl | rfl | rfl | rfl
    · exact ⟨by simp only [Fits]; omega, by omega, by rw [ek0]; exact hex0⟩
    · exact ⟨trivial, trivial⟩
    · exact ⟨by simp only [Fits]; omega, by omega, by rw [ek1]; exact hex1⟩
    · exact ⟨trivial, trivial⟩
  obtain ⟨b, o, ha, hb, NC⟩ := hL n x hx
  obtain ⟨kb, ko, hxa, hkb, kc0⟩ := NC.k 0 k0 (by simp [hks])
  obtain ⟨kb', ko', hxa', hkb', kc1⟩ := NC.k 1 k1 (by simp [hks])
  rw [hxa] at hxa'
  cases hxa'
  obtain ⟨xk, xt, xa, xc, xks, xp⟩ := x
  simp only at *
  subst hk
  subst hks hxa
  have f1 : Fr [] w (w.alloc (.cells #[.int .i64 6, .string xt, .slice (some ⟨kb, ko, none⟩) 2 xc, .int .i64 xp] 36)) := (Fr.refl _ _).alloc _
  have b1 := heap_alloc_new w (.cells #[.int .i64 6, .string xt, .slice (some ⟨kb, ko, none⟩) 2 xc, .int .i64 xp] 36)
  have kd0 := f1.cell1 kc0 (by simp)
  have kd1 := f1.cell1 kc1 (by simp)
  have hgF : w.heap.size ∉ F := fun hm => by have := (h.fb _ hm).2; omega
  have hkF : kb ∉ F := fun hm => by have := h.hi _ hm; omega
  unfold ndV
  go_enter Tryz.func77, Tryz.ntmps77
  go_wp2
  generalize w.alloc (.cells #[.int .i64 6, .string xt, .slice (some ⟨kb, ko, none⟩) 2 xc, .int .i64 xp] 36) = w1 at *
  generalize w.heap.size = g at *
  have s0 : ∀ w', Fr F w1 w' → w'.cell? ⟨g, 0, none⟩ = _ := fun w' f => f.cell1 (at_cells b1 0 rfl) hgF
  have s1 : ∀ w', Fr F w1 w' → w'.cell? ⟨g, 1, none⟩ = _ := fun w' f => f.cell1 (at_cells b1 1 rfl) hgF
  have q0 : ∀ w', Fr F w1 w' → w'.cell? ⟨kb, ko + 0, none⟩ = _ := fun w' f => f.cell1 kd0 hkF
  have q1 : ∀ w', Fr F w1 w' → w'.cell? ⟨kb, ko + 1, none⟩ = _ := fun w' f => f.cell1 kd1 hkF
  simp only [Nat.add_zero] at *
  have fA : Fr F w1 w1 := Fr.refl _ _
  have WA := h.fr f1 (by simp)
  have LA := hL.fr f1 (by simp)
  have TA := T.fr f1 (by simp)
  go_region_held3 (fun w' => Fr F w1 w') (with_reducible (first | assumption | (refine Fr.drew ?_; assumption) | (refine Fr.alloc ?_ _; assumption) | (refine Fr.drew ?_; refine Fr.alloc ?_ _; assumption)))
    (first
      | (go_at_call 95; refine (lineD H [.whole k0.toNat, .text ⟨#[32, 61, 32]⟩, .whole k1.toNat, .text ⟨#[59]⟩] [.iface 89 (.int .i64 k0), .iface 9 (.string ⟨#[32, 61, 32]⟩), .iface 89 (.int .i64 k1), .iface 9 (.string ⟨#[59]⟩)] hok WA LA TA ⟨by simp [PVal, ek0], rfl, by simp [PVal, ek1], rfl, trivial⟩ hl2 (by simp) 4 rfl).mono ?_; rintro e w2 ⟨rfl, bs', lg', F', k1, k2, k3⟩; have fz : Fr F w1 w2 := k3.f))
  go_wp2
  go_end0
  exact ⟨rfl, bs', lg', F', k1.cast HE.out.symm, k2, (Tr.of0 f1).trans k3⟩
set_option maxRecDepth 100000 in
set_option maxHeartbeats 2000000 in
theorem stmt_12 (K : Cst L B a len) (H : Put L B wb a len cap most r) {n : Nat} {x : T5.Nd} (hx : L[n]? = some x) (hk : x.kind = 12) (hr : 3 * n ≤ r + 1) {w : World} {F : List Nat} {bs : List UInt8} {lg : Bool} {ab : Nat} (hab : ab + n ≤ 60001) (h : WS B wb F (.slice a len cap) most bs lg ab w) (hL : T5.NAt B w a L) (T : Tabs w) (hl : bs.length + (sN L ab n).length ≤ 1000000000000) :
    Calls Tryz.prog 77 #[.pointer (some ⟨wb, 0, none⟩), ndV x] w (PostW B wb F (.slice a len cap) most bs lg ab w (sN L ab n)) := by
  obtain ⟨k0, hks, hdo⟩ := K.shp.do_ hx hk
  have hex0 : T5.isEx (T5.kd L k0) = true := by rw [hdo]; rfl
  obtain ⟨hk0a, hk0b⟩ := K.shp.kids n x hx k0 (by simp [hks])
  have ek0 : ((k0.toNat : Nat) : Int) = k0 := by omega
  have hn : n < L.length := (List.getElem?_eq_some_iff.1 hx).1
  have hfew := K.few
  have hln := K.ln
  have HE : Hid (sN L ab n = lineB L ab [.whole k0.toNat, .text ⟨#[59]⟩]) := by unfold Hid; rw [sN_eq K.shp.kids (k := n) (by simpa using hx)]; simp [stmtX, hk, hks, atK, lineB, txtL, txtP, tx, bodyB, ek0]
  have hl2 : bs.length + (lineB L ab [.whole k0.toNat, .text ⟨#[59]⟩]).length ≤ 1000000000000 := by rw [← HE.out]; exact hl
  have hok : ∀ p ∈ ([.whole k0.toNat, .text ⟨#[59]⟩] : List Part), Fits r p ∧ OkP L ab p := by
    intro p hp
    simp only [List.mem_cons, List.not_mem_nil, or_false] at hp
    rcases hp with rfl | rfl
    · exact ⟨by simp only [Fits]; omega, by omega, by rw [ek0]; exact hex0⟩
    · exact ⟨trivial, trivial⟩
  obtain ⟨b, o, ha, hb, NC⟩ := hL n x hx
  obtain ⟨kb, ko, hxa, hkb, kc0⟩ := NC.k 0 k0 (by simp [hks])
  obtain ⟨xk, xt, xa, xc, xks, xp⟩ := x
  simp only at *
  subst hk
  subst hks hxa
  have f1 : Fr [] w (w.alloc (.cells #[.int .i64 12, .string xt, .slice (some ⟨kb, ko, none⟩) 1 xc, .int .i64 xp] 36)) := (Fr.refl _ _).alloc _
  have b1 := heap_alloc_new w (.cells #[.int .i64 12, .string xt, .slice (some ⟨kb, ko, none⟩) 1 xc, .int .i64 xp] 36)
  have kd0 := f1.cell1 kc0 (by simp)
  have hgF : w.heap.size ∉ F := fun hm => by have := (h.fb _ hm).2; omega
  have hkF : kb ∉ F := fun hm => by have := h.hi _ hm; omega
  unfold ndV
  go_enter Tryz.func77, Tryz.ntmps77
  simp only [Nat.add_zero] at kd0
  have WA := h.fr f1 (by simp)
  have LA := hL.fr f1 (by simp)
  have TA := T.fr f1 (by simp)
  have CP := line_any H [.whole k0.toNat, .text ⟨#[59]⟩] [.iface 89 (.int .i64 k0), .iface 9 (.string ⟨#[59]⟩)] hok WA LA TA ⟨by simp [PVal, ek0], rfl, trivial⟩ hl2 (by simp) 2 rfl
  simp only [World.size_alloc] at CP
  go_wp2_with fail
  refine CP.mono ?_
  rintro e w2 ⟨rfl, bs', lg', F', k1, k2, k3⟩
  go_wp2
  go_end0
  exact ⟨rfl, bs', lg', F', k1.cast HE.out.symm, k2, (Tr.of0 f1).trans k3⟩
set_option maxRecDepth 100000 in
set_option maxHeartbeats 2000000 in
theorem stmt_13 (K : Cst L B a len) (H : Put L B wb a len cap most r) {n : Nat} {x : T5.Nd} (hx : L[n]? = some x) (hk : x.kind = 13) (hr : 3 * n ≤ r + 1) {w : World} {F : List Nat} {bs : List UInt8} {lg : Bool} {ab : Nat} (hab : ab + n ≤ 60001) (h : WS B wb F (.slice a len cap) most bs lg ab w) (hL : T5.NAt B w a L) (T : Tabs w) (hl : bs.length + (sN L ab n).length ≤ 1000000000000) :
    Calls Tryz.prog 77 #[.pointer (some ⟨wb, 0, none⟩), ndV x] w (PostW B wb F (.slice a len cap) most bs lg ab w (sN L ab n)) := by
  have hmany := K.shp.many hx (by simp [hk])
  have hn : n < L.length := (List.getElem?_eq_some_iff.1 hx).1
  have hfew := K.few
  have hln := K.ln
  have HE : Hid (sN L ab n = lineB L ab [.text ⟨#[109, 101, 114, 103, 101, 40]⟩, .row x.ks, .text ⟨#[41, 59]⟩]) := by unfold Hid; rw [sN_eq K.shp.kids (k := n) (by simpa using hx)]; simp [stmtX, hk, atK, lineB, txtL, txtP, tx, bodyB]
  have hl2 : bs.length + (lineB L ab [.text ⟨#[109, 101, 114, 103, 101, 40]⟩, .row x.ks, .text ⟨#[41, 59]⟩]).length ≤ 1000000000000 := by rw [← HE.out]; exact hl
  have hok : ∀ p ∈ ([.text ⟨#[109, 101, 114, 103, 101, 40]⟩, .row x.ks, .text ⟨#[41, 59]⟩] : List Part), Fits r p ∧ OkP L ab p := by
    intro p hp
    simp only [List.mem_cons, List.not_mem_nil, or_false] at hp
    rcases hp with rfl | rfl | rfl
    · exact ⟨trivial, trivial⟩
    · exact ⟨fun k hk => by have := K.shp.kids n x hx k hk; omega, K.kf n x hx, fun k hk => by have := K.shp.kids n x hx k hk; exact ⟨this.1, by omega, hmany k hk⟩⟩
    · exact ⟨trivial, trivial⟩
  obtain ⟨b, o, ha, hb, NC⟩ := hL n x hx
  have HKA : Hid (T5.KAt B w x.a x.ks) := NC.k
  have HKC : Hid (x.ks.length ≤ x.c) := NC.kc
  obtain ⟨xk, xt, xa, xc, xks, xp⟩ := x
  simp only at *
  subst hk
  have f1 : Fr [] w (w.alloc (.cells #[.int .i64 13, .string xt, .slice xa xks.length xc, .int .i64 xp] 36)) := (Fr.refl _ _).alloc _
  have b1 := heap_alloc_new w (.cells #[.int .i64 13, .string xt, .slice xa xks.length xc, .int .i64 xp] 36)
  have hgF : w.heap.size ∉ F := fun hm => by have := (h.fb _ hm).2; omega
  unfold ndV
  go_enter Tryz.func77, Tryz.ntmps77
  have WA := h.fr f1 (by simp)
  have LA := hL.fr f1 (by simp)
  have TA := T.fr f1 (by simp)
  have CP := line_any H [.text ⟨#[109, 101, 114, 103, 101, 40]⟩, .row xks, .text ⟨#[41, 59]⟩] [.iface 9 (.string ⟨#[109, 101, 114, 103, 101, 40]⟩), .iface 93 (.slice xa xks.length xc), .iface 9 (.string ⟨#[41, 59]⟩)] hok WA LA TA ⟨rfl, ⟨_, _, rfl, HKA.out.fr (f1) (by simp), HKC.out⟩, rfl, trivial⟩ hl2 (by simp) 3 rfl
  simp only [World.size_alloc] at CP
  go_wp2_with fail
  refine CP.mono ?_
  rintro e w2 ⟨rfl, bs', lg', F', k1, k2, k3⟩
  go_wp2
  go_end0
  exact ⟨rfl, bs', lg', F', k1.cast HE.out.symm, k2, (Tr.of0 f1).trans k3⟩
end
end Go.Proofs.YtnebhkglpggnlaaGreatDoor
namespace Go.Proofs.YtnebhkglpggnlaaGreatDoor
open Go.RowKit
set_option linter.unusedVariables false
set_option linter.unusedSimpArgs false

section
variable {L : List T5.Nd} {B wb : Nat} {a : Option Addr} {len cap most r : Nat}
set_option maxRecDepth 100000 in
set_option maxHeartbeats 2000000 in
theorem stmt_8 (K : Cst L B a len) (H : Put L B wb a len cap most r) {n : Nat} {x : T5.Nd} (hx : L[n]? = some x) (hk : x.kind = 8) (hr : 3 * n ≤ r + 1) {w : World} {F : List Nat} {bs : List UInt8} {lg : Bool} {ab : Nat} (hab : ab + n ≤ 60001) (h : WS B wb F (.slice a len cap) most bs lg ab w) (hL : T5.NAt B w a L) (T : Tabs w) (hl : bs.length + (sN L ab n).length ≤ 1000000000000) :
    Calls Tryz.prog 77 #[.pointer (some ⟨wb, 0, none⟩), ndV x] w (PostW B wb F (.slice a len cap) most bs lg ab w (sN L ab n)) := by
  obtain ⟨k0, k1, hks, hex0, hbk1⟩ := K.shp.whl hx hk
  obtain ⟨hk0a, hk0b⟩ := K.shp.kids n x hx k0 (by simp [hks])
  have ek0 : ((k0.toNat : Nat) : Int) = k0 := by omega
  obtain ⟨hk1a, hk1b⟩ := K.shp.kids n x hx k1 (by simp [hks])
  have ek1 : ((k1.toNat : Nat) : Int) = k1 := by omega
  have hn : n < L.length := (List.getElem?_eq_some_iff.1 hx).1
  have hfew := K.few
  have hln := K.ln
  have HE : Hid (sN L ab n = lineB L ab [.text ⟨#[119, 104, 105, 108, 101, 32]⟩, .whole k0.toNat, .text ⟨#[32, 123]⟩, .body k1.toNat, .text ⟨#[125]⟩]) := by unfold Hid; rw [sN_eq K.shp.kids (k := n) (by simpa using hx)]; simp [stmtX, hk, hks, atK, lineB, txtL, txtP, tx, bodyB, ek0, ek1]
  have hl2 : bs.length + (lineB L ab [.text ⟨#[119, 104, 105, 108, 101, 32]⟩, .whole k0.toNat, .text ⟨#[32, 123]⟩, .body k1.toNat, .text ⟨#[125]⟩]).length ≤ 1000000000000 := by rw [← HE.out]; exact hl
  have hok : ∀ p ∈ ([.text ⟨#[119, 104, 105, 108, 101, 32]⟩, .whole k0.toNat, .text ⟨#[32, 123]⟩, .body k1.toNat, .text ⟨#[125]⟩] : List Part), Fits r p ∧ OkP L ab p := by
    intro p hp
    simp only [List.mem_cons, List.not_mem_nil, or_false] at hp
    rcases hp with rfl | rfl | rfl | rfl | rfl
    · exact ⟨trivial, trivial⟩
    · exact ⟨by simp only [Fits]; omega, by omega, by rw [ek0]; exact hex0⟩
    · exact ⟨trivial, trivial⟩
    · exact ⟨by simp only [Fits]; omega, by omega, by rw [ek1]; exact hbk1, by omega⟩
    · exact ⟨trivial, trivial⟩
  obtain ⟨b, o, ha, hb, NC⟩ := hL n x hx
  obtain ⟨kb, ko, hxa, hkb, kc0⟩ := NC.k 0 k0 (by simp [hks])
  obtain ⟨kb', ko', hxa', hkb', kc1⟩ := NC.k 1 k1 (by simp [hks])
  rw [hxa] at hxa'
  cases hxa'
  obtain ⟨xk, xt, xa, xc, xks, xp⟩ := x
  simp only at *
  subst hk
  subst hks hxa
  have f1 : Fr [] w (w.alloc (.cells #[.int .i64 8, .string xt, .slice (some ⟨kb, ko, none⟩) 2 xc, .int .i64 xp] 36)) := (Fr.refl _ _).alloc _
  have b1 := heap_alloc_new w (.cells #[.int .i64 8, .string xt, .slice (some ⟨kb, ko, none⟩) 2 xc, .int .i64 xp] 36)
  have kd0 := f1.cell1 kc0 (by simp)
  have kd1 := f1.cell1 kc1 (by simp)
  have hgF : w.heap.size ∉ F := fun hm => by have := (h.fb _ hm).2; omega
  have hkF : kb ∉ F := fun hm => by have := h.hi _ hm; omega
  unfold ndV
  go_enter Tryz.func77, Tryz.ntmps77
  go_wp2
  generalize w.alloc (.cells #[.int .i64 8, .string xt, .slice (some ⟨kb, ko, none⟩) 2 xc, .int .i64 xp] 36) = w1 at *
  generalize w.heap.size = g at *
  have s0 : ∀ w', Fr F w1 w' → w'.cell? ⟨g, 0, none⟩ = _ := fun w' f => f.cell1 (at_cells b1 0 rfl) hgF
  have s1 : ∀ w', Fr F w1 w' → w'.cell? ⟨g, 1, none⟩ = _ := fun w' f => f.cell1 (at_cells b1 1 rfl) hgF
  have q0 : ∀ w', Fr F w1 w' → w'.cell? ⟨kb, ko + 0, none⟩ = _ := fun w' f => f.cell1 kd0 hkF
  have q1 : ∀ w', Fr F w1 w' → w'.cell? ⟨kb, ko + 1, none⟩ = _ := fun w' f => f.cell1 kd1 hkF
  simp only [Nat.add_zero] at *
  have fA : Fr F w1 w1 := Fr.refl _ _
  have WA := h.fr f1 (by simp)
  have LA := hL.fr f1 (by simp)
  have TA := T.fr f1 (by simp)
  go_region_held3 (fun w' => Fr F w1 w') (with_reducible (first | assumption | (refine Fr.drew ?_; assumption) | (refine Fr.alloc ?_ _; assumption) | (refine Fr.drew ?_; refine Fr.alloc ?_ _; assumption)))
    (first
      | (go_at_call 95; refine (lineD H [.text ⟨#[119, 104, 105, 108, 101, 32]⟩, .whole k0.toNat, .text ⟨#[32, 123]⟩, .body k1.toNat, .text ⟨#[125]⟩] [.iface 9 (.string ⟨#[119, 104, 105, 108, 101, 32]⟩), .iface 89 (.int .i64 k0), .iface 9 (.string ⟨#[32, 123]⟩), .iface 86 (.int .i64 k1), .iface 9 (.string ⟨#[125]⟩)] hok WA LA TA ⟨rfl, by simp [PVal, ek0], rfl, by simp [PVal, ek1], rfl, trivial⟩ hl2 (by simp) 5 rfl).mono ?_; rintro e w2 ⟨rfl, bs', lg', F', k1, k2, k3⟩; have fz : Fr F w1 w2 := k3.f))
  go_wp2
  go_end0
  exact ⟨rfl, bs', lg', F', k1.cast HE.out.symm, k2, (Tr.of0 f1).trans k3⟩
set_option maxRecDepth 100000 in
set_option maxHeartbeats 2000000 in
theorem stmt_7 (K : Cst L B a len) (H : Put L B wb a len cap most r) {n : Nat} {x : T5.Nd} (hx : L[n]? = some x) (hk : x.kind = 7) (hr : 3 * n ≤ r + 1) {w : World} {F : List Nat} {bs : List UInt8} {lg : Bool} {ab : Nat} (hab : ab + n ≤ 60001) (h : WS B wb F (.slice a len cap) most bs lg ab w) (hL : T5.NAt B w a L) (T : Tabs w) (hl : bs.length + (sN L ab n).length ≤ 1000000000000) :
    Calls Tryz.prog 77 #[.pointer (some ⟨wb, 0, none⟩), ndV x] w (PostW B wb F (.slice a len cap) most bs lg ab w (sN L ab n)) := by
  obtain ⟨k0, k1, k2, hks, hex0, hbk1, hbk2⟩ := K.shp.iff_ hx hk
  obtain ⟨hk0a, hk0b⟩ := K.shp.kids n x hx k0 (by simp [hks])
  have ek0 : ((k0.toNat : Nat) : Int) = k0 := by omega
  obtain ⟨hk1a, hk1b⟩ := K.shp.kids n x hx k1 (by simp [hks])
  have ek1 : ((k1.toNat : Nat) : Int) = k1 := by omega
  obtain ⟨hk2a, hk2b⟩ := K.shp.kids n x hx k2 (by simp [hks])
  have ek2 : ((k2.toNat : Nat) : Int) = k2 := by omega
  have hn : n < L.length := (List.getElem?_eq_some_iff.1 hx).1
  have hfew := K.few
  have hln := K.ln
  have HE : Hid (sN L ab n = lineB L ab [.text ⟨#[105, 102, 32]⟩, .whole k0.toNat, .text ⟨#[32, 123]⟩, .body k1.toNat, .other k2.toNat, .text ⟨#[125]⟩]) := by unfold Hid; rw [sN_eq K.shp.kids (k := n) (by simpa using hx)]; rcases hbk2 with e2 | e2 <;> simp [stmtX, hk, hks, atK, lineB, txtL, txtP, tx, bodyB, elseB, ek0, ek1, ek2, e2]
  have hl2 : bs.length + (lineB L ab [.text ⟨#[105, 102, 32]⟩, .whole k0.toNat, .text ⟨#[32, 123]⟩, .body k1.toNat, .other k2.toNat, .text ⟨#[125]⟩]).length ≤ 1000000000000 := by rw [← HE.out]; exact hl
  have hok : ∀ p ∈ ([.text ⟨#[105, 102, 32]⟩, .whole k0.toNat, .text ⟨#[32, 123]⟩, .body k1.toNat, .other k2.toNat, .text ⟨#[125]⟩] : List Part), Fits r p ∧ OkP L ab p := by
    intro p hp
    simp only [List.mem_cons, List.not_mem_nil, or_false] at hp
    rcases hp with rfl | rfl | rfl | rfl | rfl | rfl
    · exact ⟨trivial, trivial⟩
    · exact ⟨by simp only [Fits]; omega, by omega, by rw [ek0]; exact hex0⟩
    · exact ⟨trivial, trivial⟩
    · exact ⟨by simp only [Fits]; omega, by omega, by rw [ek1]; exact hbk1, by omega⟩
    · exact ⟨by simp only [Fits]; omega, by omega, by rw [ek2]; exact hbk2, by omega⟩
    · exact ⟨trivial, trivial⟩
  obtain ⟨b, o, ha, hb, NC⟩ := hL n x hx
  obtain ⟨kb, ko, hxa, hkb, kc0⟩ := NC.k 0 k0 (by simp [hks])
  obtain ⟨kb', ko', hxa', hkb', kc1⟩ := NC.k 1 k1 (by simp [hks])
  rw [hxa] at hxa'
  cases hxa'
  obtain ⟨kb', ko', hxa', hkb', kc2⟩ := NC.k 2 k2 (by simp [hks])
  rw [hxa] at hxa'
  cases hxa'
  obtain ⟨xk, xt, xa, xc, xks, xp⟩ := x
  simp only at *
  subst hk
  subst hks hxa
  have f1 : Fr [] w (w.alloc (.cells #[.int .i64 7, .string xt, .slice (some ⟨kb, ko, none⟩) 3 xc, .int .i64 xp] 36)) := (Fr.refl _ _).alloc _
  have b1 := heap_alloc_new w (.cells #[.int .i64 7, .string xt, .slice (some ⟨kb, ko, none⟩) 3 xc, .int .i64 xp] 36)
  have kd0 := f1.cell1 kc0 (by simp)
  have kd1 := f1.cell1 kc1 (by simp)
  have kd2 := f1.cell1 kc2 (by simp)
  have hgF : w.heap.size ∉ F := fun hm => by have := (h.fb _ hm).2; omega
  have hkF : kb ∉ F := fun hm => by have := h.hi _ hm; omega
  unfold ndV
  go_enter Tryz.func77, Tryz.ntmps77
  go_wp2
  generalize w.alloc (.cells #[.int .i64 7, .string xt, .slice (some ⟨kb, ko, none⟩) 3 xc, .int .i64 xp] 36) = w1 at *
  generalize w.heap.size = g at *
  have s0 : ∀ w', Fr F w1 w' → w'.cell? ⟨g, 0, none⟩ = _ := fun w' f => f.cell1 (at_cells b1 0 rfl) hgF
  have s1 : ∀ w', Fr F w1 w' → w'.cell? ⟨g, 1, none⟩ = _ := fun w' f => f.cell1 (at_cells b1 1 rfl) hgF
  have q0 : ∀ w', Fr F w1 w' → w'.cell? ⟨kb, ko + 0, none⟩ = _ := fun w' f => f.cell1 kd0 hkF
  have q1 : ∀ w', Fr F w1 w' → w'.cell? ⟨kb, ko + 1, none⟩ = _ := fun w' f => f.cell1 kd1 hkF
  have q2 : ∀ w', Fr F w1 w' → w'.cell? ⟨kb, ko + 2, none⟩ = _ := fun w' f => f.cell1 kd2 hkF
  simp only [Nat.add_zero] at *
  have fA : Fr F w1 w1 := Fr.refl _ _
  have WA := h.fr f1 (by simp)
  have LA := hL.fr f1 (by simp)
  have TA := T.fr f1 (by simp)
  go_region_held3 (fun w' => Fr F w1 w') (with_reducible (first | assumption | (refine Fr.drew ?_; assumption) | (refine Fr.alloc ?_ _; assumption) | (refine Fr.drew ?_; refine Fr.alloc ?_ _; assumption)))
    (first
      | (go_at_call 95; refine (lineD H [.text ⟨#[105, 102, 32]⟩, .whole k0.toNat, .text ⟨#[32, 123]⟩, .body k1.toNat, .other k2.toNat, .text ⟨#[125]⟩] [.iface 9 (.string ⟨#[105, 102, 32]⟩), .iface 89 (.int .i64 k0), .iface 9 (.string ⟨#[32, 123]⟩), .iface 86 (.int .i64 k1), .iface 87 (.int .i64 k2), .iface 9 (.string ⟨#[125]⟩)] hok WA LA TA ⟨rfl, by simp [PVal, ek0], rfl, by simp [PVal, ek1], by simp [PVal, ek2], rfl, trivial⟩ hl2 (by simp) 6 rfl).mono ?_; rintro e w2 ⟨rfl, bs', lg', F', k1, k2, k3⟩; have fz : Fr F w1 w2 := k3.f))
  go_wp2
  go_end0
  exact ⟨rfl, bs', lg', F', k1.cast HE.out.symm, k2, (Tr.of0 f1).trans k3⟩
end
end Go.Proofs.YtnebhkglpggnlaaGreatDoor
namespace Go.Proofs.YtnebhkglpggnlaaGreatDoor
open Go.RowKit
set_option linter.unusedVariables false
set_option linter.unusedSimpArgs false

section
variable {L : List T5.Nd} {B wb : Nat} {a : Option Addr} {len cap most r : Nat}
set_option maxRecDepth 100000 in
set_option maxHeartbeats 2000000 in
theorem stmt_9 (K : Cst L B a len) (H : Put L B wb a len cap most r) {n : Nat} {x : T5.Nd} (hx : L[n]? = some x) (hk : x.kind = 9) (hr : 3 * n ≤ r + 1) {w : World} {F : List Nat} {bs : List UInt8} {lg : Bool} {ab : Nat} (hab : ab + n ≤ 60001) (h : WS B wb F (.slice a len cap) most bs lg ab w) (hL : T5.NAt B w a L) (T : Tabs w) (hl : bs.length + (sN L ab n).length ≤ 1000000000000) :
    Calls Tryz.prog 77 #[.pointer (some ⟨wb, 0, none⟩), ndV x] w (PostW B wb F (.slice a len cap) most bs lg ab w (sN L ab n)) := by
  obtain ⟨k0, hks, hex0⟩ := K.shp.one hx (by simp [hk])
  obtain ⟨hk0a, hk0b⟩ := K.shp.kids n x hx k0 (by simp [hks])
  have ek0 : ((k0.toNat : Nat) : Int) = k0 := by omega
  have hn : n < L.length := (List.getElem?_eq_some_iff.1 hx).1
  have hfew := K.few
  have hln := K.ln
  have HE : Hid (sN L ab n = lineB L ab [.text ⟨(wordB 9).toArray⟩, .text ⟨#[32]⟩, .whole k0.toNat, .text ⟨#[59]⟩]) := by unfold Hid; rw [sN_eq K.shp.kids (k := n) (by simpa using hx)]; simp [stmtX, hk, hks, atK, lineB, txtL, txtP, tx, bodyB, ek0]
  have hl2 : bs.length + (lineB L ab [.text ⟨(wordB 9).toArray⟩, .text ⟨#[32]⟩, .whole k0.toNat, .text ⟨#[59]⟩]).length ≤ 1000000000000 := by rw [← HE.out]; exact hl
  have hok : ∀ p ∈ ([.text ⟨(wordB 9).toArray⟩, .text ⟨#[32]⟩, .whole k0.toNat, .text ⟨#[59]⟩] : List Part), Fits r p ∧ OkP L ab p := by
    intro p hp
    simp only [List.mem_cons, List.not_mem_nil, or_false] at hp
    rcases hp with rfl | rfl | rfl | rfl
    · exact ⟨trivial, trivial⟩
    · exact ⟨trivial, trivial⟩
    · exact ⟨by simp only [Fits]; omega, by omega, by rw [ek0]; exact hex0⟩
    · exact ⟨trivial, trivial⟩
  obtain ⟨b, o, ha, hb, NC⟩ := hL n x hx
  obtain ⟨kb, ko, hxa, hkb, kc0⟩ := NC.k 0 k0 (by simp [hks])
  obtain ⟨xk, xt, xa, xc, xks, xp⟩ := x
  simp only at *
  subst hk
  subst hks hxa
  have f1 : Fr [] w (w.alloc (.cells #[.int .i64 9, .string xt, .slice (some ⟨kb, ko, none⟩) 1 xc, .int .i64 xp] 36)) := (Fr.refl _ _).alloc _
  have b1 := heap_alloc_new w (.cells #[.int .i64 9, .string xt, .slice (some ⟨kb, ko, none⟩) 1 xc, .int .i64 xp] 36)
  have kd0 := f1.cell1 kc0 (by simp)
  have hgF : w.heap.size ∉ F := fun hm => by have := (h.fb _ hm).2; omega
  have hkF : kb ∉ F := fun hm => by have := h.hi _ hm; omega
  unfold ndV
  have CW := fun w' => word_any 9 w'
  go_enter Tryz.func77, Tryz.ntmps77
  go_wp2
  generalize w.alloc (.cells #[.int .i64 9, .string xt, .slice (some ⟨kb, ko, none⟩) 1 xc, .int .i64 xp] 36) = w1 at *
  generalize w.heap.size = g at *
  have s0 : ∀ w', Fr F w1 w' → w'.cell? ⟨g, 0, none⟩ = _ := fun w' f => f.cell1 (at_cells b1 0 rfl) hgF
  have s1 : ∀ w', Fr F w1 w' → w'.cell? ⟨g, 1, none⟩ = _ := fun w' f => f.cell1 (at_cells b1 1 rfl) hgF
  have q0 : ∀ w', Fr F w1 w' → w'.cell? ⟨kb, ko + 0, none⟩ = _ := fun w' f => f.cell1 kd0 hkF
  simp only [Nat.add_zero] at *
  have fA : Fr F w1 w1 := Fr.refl _ _
  have WA := h.fr f1 (by simp)
  have LA := hL.fr f1 (by simp)
  have TA := T.fr f1 (by simp)
  have fD : ∀ {S : List Nat} (w : World), Fr S w w.drew := fun w => (Fr.refl _ w).drew
  go_region_held3 (fun w' => Fr F w1 w') (with_reducible (first | assumption | (refine Fr.drew ?_; assumption) | (refine Fr.alloc ?_ _; assumption) | (refine Fr.drew ?_; refine Fr.alloc ?_ _; assumption)))
    (first
      | (go_at_call 96; refine (CW _).mono ?_; rintro e w9 ⟨rfl, rfl⟩)
      | (go_at_call 95; refine (lineD H [.text ⟨(wordB 9).toArray⟩, .text ⟨#[32]⟩, .whole k0.toNat, .text ⟨#[59]⟩] [.iface 9 (.string ⟨(wordB 9).toArray⟩), .iface 9 (.string ⟨#[32]⟩), .iface 89 (.int .i64 k0), .iface 9 (.string ⟨#[59]⟩)] hok WA LA TA ⟨rfl, rfl, by simp [PVal, ek0], rfl, trivial⟩ hl2 (by simp) 4 rfl).mono ?_; rintro e w2 ⟨rfl, bs', lg', F', k1, k2, k3⟩; have fz : Fr F w1 w2 := k3.f))
  go_wp2
  go_end0
  exact ⟨rfl, bs', lg', F', k1.cast HE.out.symm, k2, (Tr.of0 f1).trans k3⟩
set_option maxRecDepth 100000 in
set_option maxHeartbeats 2000000 in
theorem stmt_10 (K : Cst L B a len) (H : Put L B wb a len cap most r) {n : Nat} {x : T5.Nd} (hx : L[n]? = some x) (hk : x.kind = 10) (hr : 3 * n ≤ r + 1) {w : World} {F : List Nat} {bs : List UInt8} {lg : Bool} {ab : Nat} (hab : ab + n ≤ 60001) (h : WS B wb F (.slice a len cap) most bs lg ab w) (hL : T5.NAt B w a L) (T : Tabs w) (hl : bs.length + (sN L ab n).length ≤ 1000000000000) :
    Calls Tryz.prog 77 #[.pointer (some ⟨wb, 0, none⟩), ndV x] w (PostW B wb F (.slice a len cap) most bs lg ab w (sN L ab n)) := by
  obtain ⟨k0, hks, hex0⟩ := K.shp.one hx (by simp [hk])
  obtain ⟨hk0a, hk0b⟩ := K.shp.kids n x hx k0 (by simp [hks])
  have ek0 : ((k0.toNat : Nat) : Int) = k0 := by omega
  have hn : n < L.length := (List.getElem?_eq_some_iff.1 hx).1
  have hfew := K.few
  have hln := K.ln
  have HE : Hid (sN L ab n = lineB L ab [.text ⟨(wordB 10).toArray⟩, .text ⟨#[32]⟩, .whole k0.toNat, .text ⟨#[59]⟩]) := by unfold Hid; rw [sN_eq K.shp.kids (k := n) (by simpa using hx)]; simp [stmtX, hk, hks, atK, lineB, txtL, txtP, tx, bodyB, ek0]
  have hl2 : bs.length + (lineB L ab [.text ⟨(wordB 10).toArray⟩, .text ⟨#[32]⟩, .whole k0.toNat, .text ⟨#[59]⟩]).length ≤ 1000000000000 := by rw [← HE.out]; exact hl
  have hok : ∀ p ∈ ([.text ⟨(wordB 10).toArray⟩, .text ⟨#[32]⟩, .whole k0.toNat, .text ⟨#[59]⟩] : List Part), Fits r p ∧ OkP L ab p := by
    intro p hp
    simp only [List.mem_cons, List.not_mem_nil, or_false] at hp
    rcases hp with rfl | rfl | rfl | rfl
    · exact ⟨trivial, trivial⟩
    · exact ⟨trivial, trivial⟩
    · exact ⟨by simp only [Fits]; omega, by omega, by rw [ek0]; exact hex0⟩
    · exact ⟨trivial, trivial⟩
  obtain ⟨b, o, ha, hb, NC⟩ := hL n x hx
  obtain ⟨kb, ko, hxa, hkb, kc0⟩ := NC.k 0 k0 (by simp [hks])
  obtain ⟨xk, xt, xa, xc, xks, xp⟩ := x
  simp only at *
  subst hk
  subst hks hxa
  have f1 : Fr [] w (w.alloc (.cells #[.int .i64 10, .string xt, .slice (some ⟨kb, ko, none⟩) 1 xc, .int .i64 xp] 36)) := (Fr.refl _ _).alloc _
  have b1 := heap_alloc_new w (.cells #[.int .i64 10, .string xt, .slice (some ⟨kb, ko, none⟩) 1 xc, .int .i64 xp] 36)
  have kd0 := f1.cell1 kc0 (by simp)
  have hgF : w.heap.size ∉ F := fun hm => by have := (h.fb _ hm).2; omega
  have hkF : kb ∉ F := fun hm => by have := h.hi _ hm; omega
  unfold ndV
  have CW := fun w' => word_any 10 w'
  go_enter Tryz.func77, Tryz.ntmps77
  go_wp2
  generalize w.alloc (.cells #[.int .i64 10, .string xt, .slice (some ⟨kb, ko, none⟩) 1 xc, .int .i64 xp] 36) = w1 at *
  generalize w.heap.size = g at *
  have s0 : ∀ w', Fr F w1 w' → w'.cell? ⟨g, 0, none⟩ = _ := fun w' f => f.cell1 (at_cells b1 0 rfl) hgF
  have s1 : ∀ w', Fr F w1 w' → w'.cell? ⟨g, 1, none⟩ = _ := fun w' f => f.cell1 (at_cells b1 1 rfl) hgF
  have q0 : ∀ w', Fr F w1 w' → w'.cell? ⟨kb, ko + 0, none⟩ = _ := fun w' f => f.cell1 kd0 hkF
  simp only [Nat.add_zero] at *
  have fA : Fr F w1 w1 := Fr.refl _ _
  have WA := h.fr f1 (by simp)
  have LA := hL.fr f1 (by simp)
  have TA := T.fr f1 (by simp)
  have fD : ∀ {S : List Nat} (w : World), Fr S w w.drew := fun w => (Fr.refl _ w).drew
  go_region_held3 (fun w' => Fr F w1 w') (with_reducible (first | assumption | (refine Fr.drew ?_; assumption) | (refine Fr.alloc ?_ _; assumption) | (refine Fr.drew ?_; refine Fr.alloc ?_ _; assumption)))
    (first
      | (go_at_call 96; refine (CW _).mono ?_; rintro e w9 ⟨rfl, rfl⟩)
      | (go_at_call 95; refine (lineD H [.text ⟨(wordB 10).toArray⟩, .text ⟨#[32]⟩, .whole k0.toNat, .text ⟨#[59]⟩] [.iface 9 (.string ⟨(wordB 10).toArray⟩), .iface 9 (.string ⟨#[32]⟩), .iface 89 (.int .i64 k0), .iface 9 (.string ⟨#[59]⟩)] hok WA LA TA ⟨rfl, rfl, by simp [PVal, ek0], rfl, trivial⟩ hl2 (by simp) 4 rfl).mono ?_; rintro e w2 ⟨rfl, bs', lg', F', k1, k2, k3⟩; have fz : Fr F w1 w2 := k3.f))
  go_wp2
  go_end0
  exact ⟨rfl, bs', lg', F', k1.cast HE.out.symm, k2, (Tr.of0 f1).trans k3⟩
set_option maxRecDepth 100000 in
set_option maxHeartbeats 2000000 in
theorem stmt_11 (K : Cst L B a len) (H : Put L B wb a len cap most r) {n : Nat} {x : T5.Nd} (hx : L[n]? = some x) (hk : x.kind = 11) (hr : 3 * n ≤ r + 1) {w : World} {F : List Nat} {bs : List UInt8} {lg : Bool} {ab : Nat} (hab : ab + n ≤ 60001) (h : WS B wb F (.slice a len cap) most bs lg ab w) (hL : T5.NAt B w a L) (T : Tabs w) (hl : bs.length + (sN L ab n).length ≤ 1000000000000) :
    Calls Tryz.prog 77 #[.pointer (some ⟨wb, 0, none⟩), ndV x] w (PostW B wb F (.slice a len cap) most bs lg ab w (sN L ab n)) := by
  obtain ⟨k0, hks, hex0⟩ := K.shp.one hx (by simp [hk])
  obtain ⟨hk0a, hk0b⟩ := K.shp.kids n x hx k0 (by simp [hks])
  have ek0 : ((k0.toNat : Nat) : Int) = k0 := by omega
  have hn : n < L.length := (List.getElem?_eq_some_iff.1 hx).1
  have hfew := K.few
  have hln := K.ln
  have HE : Hid (sN L ab n = lineB L ab [.text ⟨(wordB 11).toArray⟩, .text ⟨#[32]⟩, .whole k0.toNat, .text ⟨#[59]⟩]) := by unfold Hid; rw [sN_eq K.shp.kids (k := n) (by simpa using hx)]; simp [stmtX, hk, hks, atK, lineB, txtL, txtP, tx, bodyB, ek0]
  have hl2 : bs.length + (lineB L ab [.text ⟨(wordB 11).toArray⟩, .text ⟨#[32]⟩, .whole k0.toNat, .text ⟨#[59]⟩]).length ≤ 1000000000000 := by rw [← HE.out]; exact hl
  have hok : ∀ p ∈ ([.text ⟨(wordB 11).toArray⟩, .text ⟨#[32]⟩, .whole k0.toNat, .text ⟨#[59]⟩] : List Part), Fits r p ∧ OkP L ab p := by
    intro p hp
    simp only [List.mem_cons, List.not_mem_nil, or_false] at hp
    rcases hp with rfl | rfl | rfl | rfl
    · exact ⟨trivial, trivial⟩
    · exact ⟨trivial, trivial⟩
    · exact ⟨by simp only [Fits]; omega, by omega, by rw [ek0]; exact hex0⟩
    · exact ⟨trivial, trivial⟩
  obtain ⟨b, o, ha, hb, NC⟩ := hL n x hx
  obtain ⟨kb, ko, hxa, hkb, kc0⟩ := NC.k 0 k0 (by simp [hks])
  obtain ⟨xk, xt, xa, xc, xks, xp⟩ := x
  simp only at *
  subst hk
  subst hks hxa
  have f1 : Fr [] w (w.alloc (.cells #[.int .i64 11, .string xt, .slice (some ⟨kb, ko, none⟩) 1 xc, .int .i64 xp] 36)) := (Fr.refl _ _).alloc _
  have b1 := heap_alloc_new w (.cells #[.int .i64 11, .string xt, .slice (some ⟨kb, ko, none⟩) 1 xc, .int .i64 xp] 36)
  have kd0 := f1.cell1 kc0 (by simp)
  have hgF : w.heap.size ∉ F := fun hm => by have := (h.fb _ hm).2; omega
  have hkF : kb ∉ F := fun hm => by have := h.hi _ hm; omega
  unfold ndV
  have CW := fun w' => word_any 11 w'
  go_enter Tryz.func77, Tryz.ntmps77
  go_wp2
  generalize w.alloc (.cells #[.int .i64 11, .string xt, .slice (some ⟨kb, ko, none⟩) 1 xc, .int .i64 xp] 36) = w1 at *
  generalize w.heap.size = g at *
  have s0 : ∀ w', Fr F w1 w' → w'.cell? ⟨g, 0, none⟩ = _ := fun w' f => f.cell1 (at_cells b1 0 rfl) hgF
  have s1 : ∀ w', Fr F w1 w' → w'.cell? ⟨g, 1, none⟩ = _ := fun w' f => f.cell1 (at_cells b1 1 rfl) hgF
  have q0 : ∀ w', Fr F w1 w' → w'.cell? ⟨kb, ko + 0, none⟩ = _ := fun w' f => f.cell1 kd0 hkF
  simp only [Nat.add_zero] at *
  have fA : Fr F w1 w1 := Fr.refl _ _
  have WA := h.fr f1 (by simp)
  have LA := hL.fr f1 (by simp)
  have TA := T.fr f1 (by simp)
  have fD : ∀ {S : List Nat} (w : World), Fr S w w.drew := fun w => (Fr.refl _ w).drew
  go_region_held3 (fun w' => Fr F w1 w') (with_reducible (first | assumption | (refine Fr.drew ?_; assumption) | (refine Fr.alloc ?_ _; assumption) | (refine Fr.drew ?_; refine Fr.alloc ?_ _; assumption)))
    (first
      | (go_at_call 96; refine (CW _).mono ?_; rintro e w9 ⟨rfl, rfl⟩)
      | (go_at_call 95; refine (lineD H [.text ⟨(wordB 11).toArray⟩, .text ⟨#[32]⟩, .whole k0.toNat, .text ⟨#[59]⟩] [.iface 9 (.string ⟨(wordB 11).toArray⟩), .iface 9 (.string ⟨#[32]⟩), .iface 89 (.int .i64 k0), .iface 9 (.string ⟨#[59]⟩)] hok WA LA TA ⟨rfl, rfl, by simp [PVal, ek0], rfl, trivial⟩ hl2 (by simp) 4 rfl).mono ?_; rintro e w2 ⟨rfl, bs', lg', F', k1, k2, k3⟩; have fz : Fr F w1 w2 := k3.f))
  go_wp2
  go_end0
  exact ⟨rfl, bs', lg', F', k1.cast HE.out.symm, k2, (Tr.of0 f1).trans k3⟩
end
end Go.Proofs.YtnebhkglpggnlaaGreatDoor
namespace Go.Proofs.YtnebhkglpggnlaaGreatDoor
open Go.RowKit
set_option linter.unusedVariables false
set_option linter.unusedSimpArgs false

section
variable {L : List T5.Nd} {B wb : Nat} {a : Option Addr} {len cap most r : Nat}
set_option maxRecDepth 100000 in
set_option maxHeartbeats 2000000 in
theorem decl_2 (K : Cst L B a len) (H : Put L B wb a len cap most r) {n : Nat} {x : T5.Nd} (hx : L[n]? = some x) (hk : x.kind = 2) (hr : 3 * n ≤ r + 1) {w : World} {F : List Nat} {bs : List UInt8} {lg : Bool} {ab : Nat} (hab0 : ab = 0) (h : WS B wb F (.slice a len cap) most bs lg ab w) (hL : T5.NAt B w a L) (T : Tabs w) (hl : bs.length + (dN L n).length ≤ 1000000000000) :
    Calls Tryz.prog 76 #[.pointer (some ⟨wb, 0, none⟩), ndV x] w (PostW B wb F (.slice a len cap) most bs lg ab w (dN L n)) := by
  have hmany := K.shp.many hx (by simp [hk])
  have hn : n < L.length := (List.getElem?_eq_some_iff.1 hx).1
  have hfew := K.few
  have hln := K.ln
  have HE : Hid (dN L n = lineB L ab [.text ⟨#[114, 101, 99, 32]⟩, .text x.text, .text ⟨#[32, 123]⟩, .row x.ks, .text ⟨#[125]⟩]) := by unfold Hid; simp [dN, hx, declX, hk, lineB, txtL, txtP, tx, ind, hab0]
  have hl2 : bs.length + (lineB L ab [.text ⟨#[114, 101, 99, 32]⟩, .text x.text, .text ⟨#[32, 123]⟩, .row x.ks, .text ⟨#[125]⟩]).length ≤ 1000000000000 := by rw [← HE.out]; exact hl
  have hok : ∀ p ∈ ([.text ⟨#[114, 101, 99, 32]⟩, .text x.text, .text ⟨#[32, 123]⟩, .row x.ks, .text ⟨#[125]⟩] : List Part), Fits r p ∧ OkP L ab p := by
    intro p hp
    simp only [List.mem_cons, List.not_mem_nil, or_false] at hp
    rcases hp with rfl | rfl | rfl | rfl | rfl
    · exact ⟨trivial, trivial⟩
    · exact ⟨trivial, trivial⟩
    · exact ⟨trivial, trivial⟩
    · exact ⟨fun k hk => by have := K.shp.kids n x hx k hk; omega, K.kf n x hx, fun k hk => by have := K.shp.kids n x hx k hk; exact ⟨this.1, by omega, hmany k hk⟩⟩
    · exact ⟨trivial, trivial⟩
  obtain ⟨b, o, ha, hb, NC⟩ := hL n x hx
  have HKA : Hid (T5.KAt B w x.a x.ks) := NC.k
  have HKC : Hid (x.ks.length ≤ x.c) := NC.kc
  obtain ⟨xk, xt, xa, xc, xks, xp⟩ := x
  simp only at *
  subst hk
  have f1 : Fr [] w (w.alloc (.cells #[.int .i64 2, .string xt, .slice xa xks.length xc, .int .i64 xp] 36)) := (Fr.refl _ _).alloc _
  have b1 := heap_alloc_new w (.cells #[.int .i64 2, .string xt, .slice xa xks.length xc, .int .i64 xp] 36)
  have hgF : w.heap.size ∉ F := fun hm => by have := (h.fb _ hm).2; omega
  unfold ndV
  go_enter Tryz.func76, Tryz.ntmps76
  have WA := h.fr f1 (by simp)
  have LA := hL.fr f1 (by simp)
  have TA := T.fr f1 (by simp)
  have CP := line_any H [.text ⟨#[114, 101, 99, 32]⟩, .text xt, .text ⟨#[32, 123]⟩, .row xks, .text ⟨#[125]⟩] [.iface 9 (.string ⟨#[114, 101, 99, 32]⟩), .iface 9 (.string xt), .iface 9 (.string ⟨#[32, 123]⟩), .iface 93 (.slice xa xks.length xc), .iface 9 (.string ⟨#[125]⟩)] hok WA LA TA ⟨rfl, rfl, rfl, ⟨_, _, rfl, HKA.out.fr (f1) (by simp), HKC.out⟩, rfl, trivial⟩ hl2 (by simp) 5 rfl
  simp only [World.size_alloc] at CP
  go_wp2_with fail
  refine CP.mono ?_
  rintro e w2 ⟨rfl, bs', lg', F', k1, k2, k3⟩
  go_wp2
  go_end0
  exact ⟨rfl, bs', lg', F', k1.cast HE.out.symm, k2, (Tr.of0 f1).trans k3⟩
end
end Go.Proofs.YtnebhkglpggnlaaGreatDoor
namespace Go.Proofs.YtnebhkglpggnlaaGreatDoor
open Go.RowKit
set_option linter.unusedVariables false
set_option linter.unusedSimpArgs false

section
variable {L : List T5.Nd} {B wb : Nat} {a : Option Addr} {len cap most r : Nat}
theorem KAt.pre {B : Nat} {w : World} {xa : Option Addr} {ps qs : List Int} (h : T5.KAt B w xa (ps ++ qs)) : T5.KAt B w xa ps := fun j k hk => h j k (by rw [List.getElem?_append_left (List.getElem?_eq_some_iff.1 hk).1]; exact hk)
set_option maxRecDepth 100000 in
set_option maxHeartbeats 2000000 in
theorem decl_3 (K : Cst L B a len) (H : Put L B wb a len cap most r) {n : Nat} {x : T5.Nd} (hx : L[n]? = some x) (hk : x.kind = 3) (hr : 3 * n ≤ r + 1) {w : World} {F : List Nat} {bs : List UInt8} {lg : Bool} {ab : Nat} (hab0 : ab = 0) (h : WS B wb F (.slice a len cap) most bs lg ab w) (hL : T5.NAt B w a L) (T : Tabs w) (hl : bs.length + (dN L n).length ≤ 1000000000000) :
    Calls Tryz.prog 76 #[.pointer (some ⟨wb, 0, none⟩), ndV x] w (PostW B wb F (.slice a len cap) most bs lg ab w (dN L n)) := by
  obtain ⟨ps, kl, hks, hps, hbk⟩ := K.shp.fn hx hk
  obtain ⟨hla, hlb⟩ := K.shp.kids n x hx kl (by simp [hks])
  have ekl : ((kl.toNat : Nat) : Int) = kl := by omega
  have hn : n < L.length := (List.getElem?_eq_some_iff.1 hx).1
  have hfew := K.few
  have hln := K.ln
  have hpk : ∀ k ∈ ps, 0 ≤ k ∧ k < n := fun k hk => K.shp.kids n x hx k (by simp [hks, hk])
  have HE : Hid (dN L n = lineB L ab [.text ⟨#[102, 110, 32]⟩, .text x.text, .text ⟨#[40]⟩, .row ps, .text ⟨#[41, 32, 123]⟩, .body kl.toNat, .text ⟨#[125]⟩]) := by unfold Hid; simp [dN, hx, declX, hk, hks, lineB, txtL, txtP, tx, bodyB, ind, hab0, atK, ekl]
  have hl2 : bs.length + (lineB L ab [.text ⟨#[102, 110, 32]⟩, .text x.text, .text ⟨#[40]⟩, .row ps, .text ⟨#[41, 32, 123]⟩, .body kl.toNat, .text ⟨#[125]⟩]).length ≤ 1000000000000 := by rw [← HE.out]; exact hl
  have hok : ∀ p ∈ ([.text ⟨#[102, 110, 32]⟩, .text x.text, .text ⟨#[40]⟩, .row ps, .text ⟨#[41, 32, 123]⟩, .body kl.toNat, .text ⟨#[125]⟩] : List Part), Fits r p ∧ OkP L ab p := by
    intro p hp
    simp only [List.mem_cons, List.not_mem_nil, or_false] at hp
    rcases hp with rfl | rfl | rfl | rfl | rfl | rfl | rfl
    · exact ⟨trivial, trivial⟩
    · exact ⟨trivial, trivial⟩
    · exact ⟨trivial, trivial⟩
    · exact ⟨fun k hk => by have := hpk k hk; omega, by have := K.kf n x hx; rw [hks] at this; simp at this; omega, fun k hk => by have := hpk k hk; exact ⟨this.1, by omega, by rw [hps k hk]; rfl⟩⟩
    · exact ⟨trivial, trivial⟩
    · exact ⟨by simp only [Fits]; omega, by omega, by rw [ekl]; exact hbk, by omega⟩
    · exact ⟨trivial, trivial⟩
  obtain ⟨b, o, ha, hb, NC⟩ := hL n x hx
  have hkl : x.ks.length = ps.length + 1 := by simp [hks]
  have hkc : x.ks.length ≤ x.c := NC.kc
  have hkf := K.kf n x hx
  have HKA : Hid (T5.KAt B w x.a ps) := KAt.pre (qs := [kl]) (by rw [← hks]; exact NC.k)
  obtain ⟨kb, ko, hxa, hkb, kc0⟩ := NC.k ps.length kl (by simp [hks])
  have e0 : ndV x = .agg #[.int .i64 3, .string x.text, .slice (some ⟨kb, ko, none⟩) (ps.length + 1) x.c, .int .i64 x.pl] := by unfold ndV; rw [hk, hxa, hkl]
  rw [e0]
  have HKC : Hid (ps.length ≤ x.c) := by unfold Hid; omega
  have hmc : (ps.length : Int) + 1 ≤ x.c := by omega
  have hmf : (ps.length : Int) + 1 ≤ 50000 := by omega
  obtain ⟨xk, xt, xa, xc, xks, xp⟩ := x
  simp only at *
  subst hxa
  clear hpk hps hks hkl hkc hkf e0 hx K ha
  generalize hm : ps.length = m at *
  have f1 : Fr [] w (w.alloc (.cells #[.int .i64 3, .string xt, .slice (some ⟨kb, ko, none⟩) (m + 1) xc, .int .i64 xp] 36)) := (Fr.refl _ _).alloc _
  have b1 := heap_alloc_new w (.cells #[.int .i64 3, .string xt, .slice (some ⟨kb, ko, none⟩) (m + 1) xc, .int .i64 xp] 36)
  have kd0 := f1.cell1 kc0 (by simp)
  have hi0 : (0 : Int) ≤ m := by omega
  have hi1 : (m : Int) ≤ xc := by omega
  have hi2 : (m : Int) < (m : Int) + 1 := by omega
  have hi3 : (m : Int) < ((m + 1 : Nat) : Int) := by omega
  have hi4 : m ≤ xc := by omega
  have hi5 : ¬ (m : Int) < 0 := by omega
  have hgF : w.heap.size ∉ F := fun hm => by have := (h.fb _ hm).2; omega
  have hkF : kb ∉ F := fun hm => by have := h.hi _ hm; omega
  have HM : Hid (ps.length = m) := hm
  clear hm
  have HAB : Hid (ab = 0) := hab0
  clear hab0
  go_enter Tryz.func76, Tryz.ntmps76
  go_wp2
  generalize w.alloc (.cells #[.int .i64 3, .string xt, .slice (some ⟨kb, ko, none⟩) (m + 1) xc, .int .i64 xp] 36) = w1 at *
  generalize w.heap.size = g at *
  have s0 : ∀ w', Fr F w1 w' → w'.cell? ⟨g, 0, none⟩ = _ := fun w' f => f.cell1 (at_cells b1 0 rfl) hgF
  have s1 : ∀ w', Fr F w1 w' → w'.cell? ⟨g, 1, none⟩ = _ := fun w' f => f.cell1 (at_cells b1 1 rfl) hgF
  have s2 : ∀ w', Fr F w1 w' → w'.cell? ⟨g, 2, none⟩ = _ := fun w' f => f.cell1 (at_cells b1 2 rfl) hgF
  have q0 : ∀ w', Fr F w1 w' → w'.cell? ⟨kb, ko + m, none⟩ = _ := fun w' f => f.cell1 kd0 hkF
  have fA : Fr F w1 w1 := Fr.refl _ _
  have WA := h.fr f1 (by simp)
  have LA := hL.fr f1 (by simp)
  have TA := T.fr f1 (by simp)
  go_region_held3 (fun w' => Fr F w1 w') (with_reducible (first | assumption | (refine Fr.drew ?_; assumption) | (refine Fr.alloc ?_ _; assumption) | (refine Fr.drew ?_; refine Fr.alloc ?_ _; assumption)))
    (first
      | (go_at_call 95; refine (lineD H [.text ⟨#[102, 110, 32]⟩, .text xt, .text ⟨#[40]⟩, .row ps, .text ⟨#[41, 32, 123]⟩, .body kl.toNat, .text ⟨#[125]⟩] [.iface 9 (.string ⟨#[102, 110, 32]⟩), .iface 9 (.string xt), .iface 9 (.string ⟨#[40]⟩), .iface 93 (.slice (some ⟨kb, ko, none⟩) m xc), .iface 9 (.string ⟨#[41, 32, 123]⟩), .iface 86 (.int .i64 kl), .iface 9 (.string ⟨#[125]⟩)] hok WA LA TA ⟨rfl, rfl, rfl, ⟨some ⟨kb, ko, none⟩, xc, by rw [HM.out], HKA.out.fr f1 (by simp), by rw [HM.out]; exact HKC.out⟩, rfl, by simp [PVal, ekl], rfl, trivial⟩ hl2 (by simp) 7 rfl).mono ?_; rintro e w2 ⟨rfl, bs', lg', F', k1, k2, k3⟩; have fz : Fr F w1 w2 := k3.f))
  go_wp2
  go_end0
  exact ⟨rfl, bs', lg', F', k1.cast HE.out.symm, k2, (Tr.of0 f1).trans k3⟩
end
end Go.Proofs.YtnebhkglpggnlaaGreatDoor
namespace Go.Proofs.YtnebhkglpggnlaaGreatDoor
open Go.RowKit
set_option linter.unusedVariables false
set_option linter.unusedSimpArgs false

section
variable {L : List T5.Nd} {B wb : Nat} {a : Option Addr} {len cap most r : Nat}
theorem WS.setAb {F : List Nat} {av : Value} {bs : List UInt8} {lg : Bool} {ab : Nat} {w : World} (h : WS B wb F av most bs lg ab w) {ab' : Nat} (h' : ab' ≤ 100000) : WS B wb F av most bs lg ab' (w.setCell ⟨wb, 5, none⟩ (.int .i64 (ab' : Nat))) := by
  obtain ⟨p, v, hb, hp, hown, hv⟩ := h.ex
  have f1 : Fr [wb] w (w.setCell ⟨wb, 5, none⟩ (.int .i64 (ab' : Nat))) := Fr.setCell (Fr.refl _ _) (.inl (by simp)) _
  exact ⟨⟨p, v, by simp [World.setCell, Array.getElem?_modify, hb], hp, own_fr hown f1 (fun k hk hm => (hv k hk).2 (by simpa using hm)), hv⟩, h.pf, fun j hj => ⟨(h.fb j hj).1, Nat.lt_of_lt_of_le (h.fb j hj).2 f1.size⟩, h.lo, h.bm, h.mm, h.bl, h'⟩
theorem WS.setTr {F : List Nat} {av : Value} {bs : List UInt8} {lg : Bool} {ab : Nat} {w : World} (h : WS B wb F av most bs lg ab w) (j : Nat) (u : Value) : Tr F w F (w.setCell ⟨wb, j, none⟩ u) := Tr.of (Fr.setCell (Fr.refl _ _) (.inl h.pf) _)
theorem WS.abc {F : List Nat} {av : Value} {bs : List UInt8} {lg : Bool} {ab : Nat} {w : World} (h : WS B wb F av most bs lg ab w) : w.cell? ⟨wb, 0, none⟩ = some av ∧ w.cell? ⟨wb, 5, none⟩ = some (.int .i64 (ab : Nat)) ∧ w.frozen? ⟨wb, 5, none⟩ = false := by
  obtain ⟨p, v, hb, hp, hown, hv⟩ := h.ex
  obtain ⟨c0, _, _, _, _, c5, cz⟩ := wr_cells hb
  exact ⟨c0, c5, cz 5⟩
theorem flat_next (f : Int → List UInt8) {ks : List Int} {q : Nat} {k : Int} (hk : ks[q]? = some k) : ((ks.take (q + 1)).map f).flatten = ((ks.take q).map f).flatten ++ f k := by
  rw [List.take_add_one, hk]
  simp
theorem flat_take_len (f : Int → List UInt8) (ks : List Int) (q : Nat) : (((ks.take q).map f).flatten).length ≤ ((ks.map f).flatten).length := by
  rw [flat_lenS, flat_lenS]
  exact take_sum _ _ _
/-- A node of the list, as it lies. -/
theorem NAt.cells {w : World} (hL : T5.NAt B w a L) {i : Nat} {x : T5.Nd} (hx : L[i]? = some x) : ∃ b o, a = some ⟨b, o, none⟩ ∧ b < B ∧ w.cell? ⟨b, o + i * 4, none⟩ = some (.int .i64 x.kind) ∧ w.cell? ⟨b, o + i * 4 + 1, none⟩ = some (.string x.text) ∧ w.cell? ⟨b, o + i * 4 + 2, none⟩ = some (.slice x.a x.ks.length x.c) ∧ w.cell? ⟨b, o + i * 4 + 3, none⟩ = some (.int .i64 x.pl) := by
  obtain ⟨b, o, e, hb, NC⟩ := hL i x hx
  exact ⟨b, o, e, hb, NC.c0, NC.c1, NC.c2, NC.c3⟩
/-- What is said of statements. -/
def StmtC (L : List T5.Nd) (B wb : Nat) (a : Option Addr) (len cap most fn : Nat) (ab : Nat) (x : T5.Nd) (t : List UInt8) : Prop := ∀ (w : World) (F : List Nat) (bs : List UInt8) (lg : Bool), WS B wb F (.slice a len cap) most bs lg ab w → T5.NAt B w a L → Tabs w → bs.length + t.length ≤ 1000000000000 →
  Calls Tryz.prog fn #[.pointer (some ⟨wb, 0, none⟩), ndV x] w (PostW B wb F (.slice a len cap) most bs lg ab w t)
set_option maxRecDepth 100000 in
set_option maxHeartbeats 2000000 in
theorem decls_any (K : Cst L B a len) {n : Nat} {x : T5.Nd} (hx : L[n]? = some x) (hD : ∀ k ∈ x.ks, ∀ y, L[k.toNat]? = some y → StmtC L B wb a len cap most 76 0 y (dN L k)) {w : World} {F : List Nat} {bs : List UInt8} {lg : Bool} (h : WS B wb F (.slice a len cap) most bs lg 0 w) (hL : T5.NAt B w a L) (T : Tabs w) (hl : bs.length + (pN L n).length ≤ 1000000000000) :
    Calls Tryz.prog 51 #[.pointer (some ⟨wb, 0, none⟩), .slice x.a x.ks.length x.c] w (PostW B wb F (.slice a len cap) most bs lg 0 w (pN L n)) := by
  have HP : Hid (pN L n = (x.ks.map (dN L)).flatten) := by unfold Hid pN; simp [hx]
  obtain ⟨b0, o0, e0, hb0, NC⟩ := hL n x hx
  have HKA : Hid (T5.KAt B w x.a x.ks) := NC.k
  have hkcI : (x.ks.length : Int) ≤ x.c := by have := NC.kc; omega
  have hknI : (x.ks.length : Int) ≤ 50000 := by have := K.kf n x hx; omega
  have HK : Hid (∀ k ∈ x.ks, 0 ≤ k ∧ k < n) := fun k hk => K.shp.kids n x hx k hk
  have HD : Hid (∀ k ∈ x.ks, ∀ y, L[k.toNat]? = some y → StmtC L B wb a len cap most 76 0 y (dN L k)) := hD
  have hn : n < L.length := (List.getElem?_eq_some_iff.1 hx).1
  have HLEN : Hid (L.length = len ∧ len ≤ 50000) := ⟨K.ln, K.few⟩
  rw [HP.out] at hl
  have HBM := h.bm
  have hlm : (len : Int) ≤ 50000 := by have := K.few; omega
  clear NC hD e0 hx K
  generalize x.ks = ks at *
  generalize x.a = xa at *
  generalize x.c = xc at *
  have HLN : Hid (bs.length + ((ks.map (dN L)).flatten).length ≤ 1000000000000) := hl
  clear hl
  go_enter Tryz.func51, Tryz.ntmps51
  go_wp2
  go_loopw [8] (fun iv wr => ∃ (q : Nat) (bs1 : List UInt8) (lg1 : Bool) (F1 : List Nat), q ≤ ks.length ∧ iv = .int .i64 (q : Nat) ∧ Adds most bs lg (((ks.take q).map (dN L)).flatten) bs1 lg1 ∧ WS B wb F1 (.slice a len cap) most bs1 lg1 0 wr ∧ Tr F w F1 wr) (fun iv _ => ks.length - (intOf iv).toNat)
  case atStart => exact ⟨0, bs, lg, F, Nat.zero_le _, rfl, by simpa using Adds.nil HBM, h, Tr.refl _ _⟩
  case round =>
    obtain ⟨q, bs1, lg1, F1, hq, rfl, A1, W1, T1⟩ := hrel
    have L1 := hL.fr T1.f h.hi
    have TT1 := h.tabs T T1.f
    by_cases hlt : q < ks.length
    · obtain ⟨k, hk⟩ : ∃ k, ks[q]? = some k := ⟨_, List.getElem?_eq_getElem hlt⟩
      obtain ⟨kb, ko, rfl, hkb, kc0⟩ := HKA.out q k hk
      have kc := T1.f.cell1 kc0 (fun hm => by have := h.hi _ hm; simp at this; omega)
      obtain ⟨hk0, hk1⟩ := HK.out k (List.mem_of_getElem? hk)
      have hLl := HLEN.out
      obtain ⟨y, hy⟩ : ∃ y, L[k.toNat]? = some y := ⟨_, List.getElem?_eq_getElem (by omega)⟩
      have CS := HD.out k (List.mem_of_getElem? hk) y hy wr F1 bs1 lg1 W1 L1 TT1 (by
        have e1 := flat_take_len (dN L) ks (q + 1)
        rw [flat_next (dN L) hk, List.length_append] at e1
        have := A1.1
        have := HLN.out
        omega)
      obtain ⟨b, o, rfl, hb, c0, c1, c2, c3⟩ := NAt.cells L1 hy
      obtain ⟨w0, _, _⟩ := W1.abc
      have HJ : Hid (((ks.take (q + 1)).map (dN L)).flatten = ((ks.take q).map (dN L)).flatten ++ dN L k) := flat_next (dN L) hk
      have hltI : (q : Int) < ks.length := by omega
      have HX : Hid (q < ks.length) := hlt
      have hkl : (k : Int) < len := by omega
      unfold ndV at CS
      clear kc0 hlt hk hy
      go_wp2_with fail
      refine CS.mono ?_
      rintro e w2 ⟨rfl, bs2, lg2, F2, j1, j2, j3⟩
      clear CS
      go_wp2
      go_roundw
      case rel => exact ⟨q + 1, bs2, lg2, F2, HX.out, by go_num, by rw [HJ.out]; exact A1.trans j1, j2, T1.trans j3⟩
      case measure => have := HX.out; simp [intOf]; omega
    · have hqe : q = ks.length := by omega
      have hlt' : ¬ ((q : Int) < ks.length) := by omega
      have HF : Hid (((ks.take q).map (dN L)).flatten = pN L n) := by unfold Hid; rw [hqe, List.take_length, HP.out]
      clear hqe
      go_wp2
      go_end0
      exact ⟨rfl, bs1, lg1, F1, A1.cast HF.out, W1, T1⟩
set_option maxRecDepth 100000 in
set_option maxHeartbeats 2000000 in
theorem body_any (K : Cst L B a len) (H : Put L B wb a len cap most r) {n : Nat} {x : T5.Nd} (hx : L[n]? = some x) {ab : Nat} (hab : ab + n ≤ 60000) (hD : ∀ k ∈ x.ks, ∀ y, L[k.toNat]? = some y → StmtC L B wb a len cap most 77 (ab + 1) y (sN L (ab + 1) k)) {w : World} {F : List Nat} {bs : List UInt8} {lg : Bool} (h : WS B wb F (.slice a len cap) most bs lg ab w) (hL : T5.NAt B w a L) (T : Tabs w) (hl : bs.length + (bodyB L ab n).length ≤ 1000000000000) :
    Calls Tryz.prog 52 #[.pointer (some ⟨wb, 0, none⟩), .slice x.a x.ks.length x.c] w (PostW B wb F (.slice a len cap) most bs lg ab w (bodyB L ab n)) := by
  have HP : Hid (bodyB L ab n = [10] ++ ((x.ks.map (sN L (ab + 1))).flatten ++ ind ab)) := by unfold Hid bodyB bN; simp [hx]
  obtain ⟨b0, o0, e0, hb0, NC⟩ := hL n x hx
  have HKA : Hid (T5.KAt B w x.a x.ks) := NC.k
  have hkcI : (x.ks.length : Int) ≤ x.c := by have := NC.kc; omega
  have hknI : (x.ks.length : Int) ≤ 50000 := by have := K.kf n x hx; omega
  have HK : Hid (∀ k ∈ x.ks, 0 ≤ k ∧ k < n) := fun k hk => K.shp.kids n x hx k hk
  have HD : Hid (∀ k ∈ x.ks, ∀ y, L[k.toNat]? = some y → StmtC L B wb a len cap most 77 (ab + 1) y (sN L (ab + 1) k)) := hD
  have hn : n < L.length := (List.getElem?_eq_some_iff.1 hx).1
  have HLEN : Hid (L.length = len ∧ len ≤ 50000) := ⟨K.ln, K.few⟩
  rw [HP.out] at hl
  have hlm : (len : Int) ≤ 50000 := by have := K.few; omega
  clear NC hD e0 hx K
  generalize x.ks = ks at *
  generalize x.a = xa at *
  generalize x.c = xc at *
  have HLN : Hid (bs.length + (1 + (((ks.map (sN L (ab + 1))).flatten).length + (ind ab).length)) ≤ 1000000000000) := by simp only [List.length_append, List.length_cons, List.length_nil] at hl; unfold Hid; omega
  clear hl
  have et : txtL L ab [.text ⟨#[10]⟩] = [10] := by simp [txtL, txtP]
  have CQ := putA H [.text ⟨#[10]⟩] [.iface 9 (.string ⟨#[10]⟩)] (by simp [Fits, OkP]) h hL T ⟨rfl, trivial⟩ (by rw [et]; have := HLN.out; simp only [List.length_cons, List.length_nil]; omega) (by simp) 1 rfl
  rw [et] at CQ
  go_enter Tryz.func52, Tryz.ntmps52
  go_wp2_with fail
  refine CQ.mono ?_
  rintro e w1 ⟨rfl, bs0, lg0, F0, A0, W0, T0⟩
  obtain ⟨_, c5, z5⟩ := W0.abc
  have W0' := W0.setAb (ab' := ab + 1) (by omega)
  have T0' := T0.trans (W0.setTr 5 (.int .i64 ((ab + 1 : Nat) : Int)))
  have habI : (ab : Int) ≤ 60000 := by omega
  have eab : ((ab + 1 : Nat) : Int) = (ab : Int) + 1 := by omega
  rw [eab] at W0' T0'
  clear CQ
  go_wp2
  generalize w1.setCell ⟨wb, 5, none⟩ (.int .i64 ((ab : Int) + 1)) = w2 at *
  go_loopw [19] (fun iv wr => ∃ (q : Nat) (bs1 : List UInt8) (lg1 : Bool) (F1 : List Nat), q ≤ ks.length ∧ iv = .int .i64 (q : Nat) ∧ Adds most bs lg ([10] ++ ((ks.take q).map (sN L (ab + 1))).flatten) bs1 lg1 ∧ WS B wb F1 (.slice a len cap) most bs1 lg1 (ab + 1) wr ∧ Tr F w F1 wr) (fun iv _ => ks.length - (intOf iv).toNat)
  case atStart => exact ⟨0, bs0, lg0, F0, Nat.zero_le _, rfl, by simpa using A0, W0', T0'⟩
  case round =>
    obtain ⟨q, bs1, lg1, F1, hq, rfl, A1, W1, T1⟩ := hrel
    have L1 := hL.fr T1.f h.hi
    have TT1 := h.tabs T T1.f
    have HQL := flat_take_len (sN L (ab + 1)) ks q
    by_cases hlt : q < ks.length
    · obtain ⟨k, hk⟩ : ∃ k, ks[q]? = some k := ⟨_, List.getElem?_eq_getElem hlt⟩
      obtain ⟨kb, ko, rfl, hkb, kc0⟩ := HKA.out q k hk
      have kc := T1.f.cell1 kc0 (fun hm => by have := h.hi _ hm; simp at this; omega)
      obtain ⟨hk0, hk1⟩ := HK.out k (List.mem_of_getElem? hk)
      have hLl := HLEN.out
      obtain ⟨y, hy⟩ : ∃ y, L[k.toNat]? = some y := ⟨_, List.getElem?_eq_getElem (by omega)⟩
      have CS := HD.out k (List.mem_of_getElem? hk) y hy wr F1 bs1 lg1 W1 L1 TT1 (by
        have e1 := flat_take_len (sN L (ab + 1)) ks (q + 1)
        rw [flat_next (sN L (ab + 1)) hk, List.length_append] at e1
        have e2 := A1.1
        have e3 := HLN.out
        simp only [List.length_append, List.length_cons, List.length_nil] at e2
        omega)
      obtain ⟨b, o, rfl, hb, c0, c1, c2, c3⟩ := NAt.cells L1 hy
      obtain ⟨w0, _, _⟩ := W1.abc
      have HJ : Hid (((ks.take (q + 1)).map (sN L (ab + 1))).flatten = ((ks.take q).map (sN L (ab + 1))).flatten ++ sN L (ab + 1) k) := flat_next (sN L (ab + 1)) hk
      have hltI : (q : Int) < ks.length := by omega
      have HX : Hid (q < ks.length) := hlt
      have hkl : (k : Int) < len := by omega
      unfold ndV at CS
      clear kc0 hlt hk hy HQL
      go_wp2_with fail
      refine CS.mono ?_
      rintro e w2 ⟨rfl, bs2, lg2, F2, j1, j2, j3⟩
      clear CS
      go_wp2
      go_roundw
      case rel => exact ⟨q + 1, bs2, lg2, F2, HX.out, by go_num, by rw [HJ.out, ← List.append_assoc]; exact A1.trans j1, j2, T1.trans j3⟩
      case measure => have := HX.out; simp [intOf]; omega
    · have hqe : q = ks.length := by omega
      have hlt' : ¬ ((q : Int) < ks.length) := by omega
      obtain ⟨_, d5, y5⟩ := W1.abc
      have W2 := W1.setAb (ab' := ab) (by omega)
      have T2 := T1.trans (W1.setTr 5 (.int .i64 (ab : Nat)))
      have e2 : ((ab + 1 : Nat) : Int) = (ab : Int) + 1 := by omega
      rw [e2] at d5
      have HLQ : Hid (bs1.length + (ind ab).length ≤ 1000000000000) := by
        have e2 := A1.1
        have e3 := HLN.out
        simp only [List.length_append, List.length_cons, List.length_nil] at e2
        unfold Hid
        omega
      have HF : Hid ([10] ++ ((ks.take q).map (sN L (ab + 1))).flatten ++ ind ab = bodyB L ab n) := by unfold Hid; rw [hqe, List.take_length, HP.out, List.append_assoc]
      have CM := moveIn_any H W2 (hL.fr T2.f h.hi) (h.tabs T T2.f) HLQ.out
      clear hqe HQL
      go_wp2_with fail
      refine CM.mono ?_
      rintro e w3 ⟨rfl, bs3, lg3, F3, i1, i2, i3⟩
      go_wp2
      go_end0
      exact ⟨rfl, bs3, lg3, F3, (A1.trans i1).cast HF.out, i2, T2.trans i3⟩
end
end Go.Proofs.YtnebhkglpggnlaaGreatDoor
namespace Go.Proofs.YtnebhkglpggnlaaGreatDoor
open Go.RowKit
set_option linter.unusedVariables false
set_option linter.unusedSimpArgs false

section
variable {L : List T5.Nd} {B wb : Nat} {a : Option Addr} {len cap most r : Nat}
theorem lispN_eq (hK : Kids L) {n : Nat} {x : T5.Nd} (hx : L[n]? = some x) : lispN L n = headB x ++ ((x.ks.map (fun j => 32 :: lispN L j.toNat)).flatten ++ [41]) := by
  have e : x.ks.map (fun j => 32 :: lispF L n j) = x.ks.map (fun j => 32 :: lispN L j.toNat) := List.map_congr_left (fun j hj => by
    obtain ⟨k0, k1⟩ := hK n x hx j hj
    unfold lispN
    rw [show ((j.toNat : Nat) : Int) = j by omega, lispF_same hK n (j.toNat + 1) j (by omega) (by omega)])
  have e1 : lispN L n = headB x ++ (x.ks.map (fun j => 32 :: lispF L n j)).flatten ++ [41] := by unfold lispN; simp only [lispF, Int.toNat_natCast, hx]
  rw [e1, e, List.append_assoc]
set_option maxRecDepth 100000 in
set_option maxHeartbeats 2000000 in
theorem other_any (K : Cst L B a len) (H : Put L B wb a len cap most r) {n : Nat} {x : T5.Nd} (hx : L[n]? = some x) (hk : x.kind = 4 ∨ x.kind = 14) {ab : Nat} (hab : ab + n ≤ 60000) (hr : 3 * n + 1 ≤ r) {w : World} {F : List Nat} {bs : List UInt8} {lg : Bool} (h : WS B wb F (.slice a len cap) most bs lg ab w) (hL : T5.NAt B w a L) (T : Tabs w) (hl : bs.length + (txtP L ab (.other n)).length ≤ 1000000000000) :
    Calls Tryz.prog 53 #[.pointer (some ⟨wb, 0, none⟩), .int .i64 (n : Nat)] w (PostW B wb F (.slice a len cap) most bs lg ab w (txtP L ab (.other n))) := by
  have hn : n < L.length := (List.getElem?_eq_some_iff.1 hx).1
  have hkd : T5.kd L n = x.kind := by unfold T5.kd; simp [hx]
  have hln := K.ln
  have hnI : (n : Int) < len := by omega
  have hlm : (len : Int) ≤ 50000 := by have := K.few; omega
  obtain ⟨b, o, rfl, hb, c0, _, _, _⟩ := NAt.cells hL hx
  obtain ⟨w0, _, _⟩ := h.abc
  rcases hk with hk | hk
  · have HT : Hid (txtP L ab (.other n) = txtL L ab [.text ⟨#[125, 32, 101, 108, 115, 101, 32, 123]⟩, .body n]) := by unfold Hid; simp [txtP, txtL, hkd, hk]
    have CP := putA H [.text ⟨#[125, 32, 101, 108, 115, 101, 32, 123]⟩, .body n] [.iface 9 (.string ⟨#[125, 32, 101, 108, 115, 101, 32, 123]⟩), .iface 86 (.int .i64 (n : Nat))] (by intro p hp; simp at hp; rcases hp with rfl | rfl; exact ⟨trivial, trivial⟩; exact ⟨hr, hn, by rw [hkd, hk], hab⟩) h hL T ⟨rfl, rfl, trivial⟩ (by rw [← HT.out]; exact hl) (by simp) 2 rfl
    rw [hk] at c0
    clear hk hkd
    go_enter Tryz.func53, Tryz.ntmps53
    go_wp2_with fail
    refine CP.mono ?_
    rintro e w2 ⟨rfl, bs', lg', F', k1, k2, k3⟩
    go_wp2
    go_end0
    exact ⟨rfl, bs', lg', F', k1.cast HT.out.symm, k2, k3⟩
  · have HT : Hid (txtP L ab (.other n) = []) := by unfold Hid; simp [txtP, hkd, hk]
    rw [hk] at c0
    clear hk hkd
    go_enter Tryz.func53, Tryz.ntmps53
    go_wp2
    go_end0
    exact ⟨rfl, bs, lg, F, (Adds.nil h.bm).cast HT.out.symm, h, Tr.refl _ _⟩
set_option maxRecDepth 100000 in
set_option maxHeartbeats 4000000 in
theorem brk_any (K : Cst L B a len) (H : Put L B wb a len cap most r) {n : Nat} {x : T5.Nd} (hx : L[n]? = some x) (hr : 3 * n ≤ r + 1) {ab : Nat} {w : World} {F : List Nat} {bs : List UInt8} {lg : Bool} (h : WS B wb F (.slice a len cap) most bs lg ab w) (hL : T5.NAt B w a L) (T : Tabs w) (hl : bs.length + (lispN L n).length ≤ 1000000000000) :
    Calls Tryz.prog 56 #[.pointer (some ⟨wb, 0, none⟩), ndV x] w (PostW B wb F (.slice a len cap) most bs lg ab w (lispN L n)) := by
  have HP : Hid (lispN L n = headB x ++ ((x.ks.map (fun j => 32 :: lispN L j.toNat)).flatten ++ [41])) := lispN_eq K.shp.kids hx
  obtain ⟨b0, o0, e0, hb0, NC⟩ := hL n x hx
  have HKA : Hid (T5.KAt B w x.a x.ks) := NC.k
  have hkcI : (x.ks.length : Int) ≤ x.c := by have := NC.kc; omega
  have hknI : (x.ks.length : Int) ≤ 50000 := by have := K.kf n x hx; omega
  have HK : Hid (∀ k ∈ x.ks, 0 ≤ k ∧ k < n) := fun k hk => K.shp.kids n x hx k hk
  have hn : n < L.length := (List.getElem?_eq_some_iff.1 hx).1
  have HLEN : Hid (L.length = len ∧ len ≤ 50000) := ⟨K.ln, K.few⟩
  have hpl0 := K.shp.pl n x hx
  have hpl1 := K.rg n x hx
  obtain ⟨hkd0, hkd1⟩ := K.shp.kd n x hx
  rw [HP.out] at hl
  unfold ndV
  clear NC e0 hx K
  obtain ⟨xk, xt, xa, xc, ks, xp⟩ := x
  simp only at *
  have HLN : Hid (bs.length + ((headB ⟨xk, xt, xa, xc, ks, xp⟩).length + (((ks.map (fun j => 32 :: lispN L j.toNat)).flatten).length + 1)) ≤ 1000000000000) := by simp only [List.length_append, List.length_cons, List.length_nil] at hl; unfold Hid; omega
  clear hl
  have HH : Hid (headB ⟨xk, xt, xa, xc, ks, xp⟩ = (40 :: Lib.itoa xk) ++ ((if xt.data.toList = [] then [] else 32 :: xt.data.toList) ++ (if xp = 0 then [] else 32 :: 64 :: Lib.itoa xp))) := by unfold Hid headB; simp
  have f1 : Fr [] w (w.alloc (.cells #[.int .i64 xk, .string xt, .slice xa ks.length xc, .int .i64 xp] 36)) := (Fr.refl _ _).alloc _
  have b1 := heap_alloc_new w (.cells #[.int .i64 xk, .string xt, .slice xa ks.length xc, .int .i64 xp] 36)
  have hgF : w.heap.size ∉ F := fun hm => by have := (h.fb _ hm).2; omega
  have hglt : w.heap.size < (w.alloc (.cells #[.int .i64 xk, .string xt, .slice xa ks.length xc, .int .i64 xp] 36)).heap.size := by simp
  have hbl := HLN.out
  rw [HH.out] at hbl
  simp only [List.length_append, List.length_cons] at hbl
  have et : txtL L ab [.text ⟨#[40]⟩, .num xk] = 40 :: Lib.itoa xk := by simp [txtL, txtP]
  have CQ := putA H [.text ⟨#[40]⟩, .num xk] [.iface 9 (.string ⟨#[40]⟩), .iface 3 (.int .i64 xk)] (by intro p hp; simp at hp; rcases hp with rfl | rfl; exact ⟨trivial, trivial⟩; exact ⟨trivial, by omega, by omega⟩) (h.fr f1 (by simp)) (hL.fr f1 (by simp)) (T.fr f1 (by simp)) ⟨rfl, rfl, trivial⟩ (by rw [et]; simp only [List.length_cons]; omega) (by simp) 2 rfl
  rw [et] at CQ
  simp only [World.size_alloc] at CQ
  have hi1 := itoa_len xk (by omega) (by omega)
  have hi2 := itoa_len xp (by omega) (by omega)
  go_enter Tryz.func56, Tryz.ntmps56
  go_wp2_with fail
  refine CQ.mono ?_
  rintro e w1 ⟨rfl, bs1, lg1, F1, A1, W1, T1a⟩
  have hgF1 := Tr.notin T1a hgF hglt
  have hu1 := (T1a.f.block _ (Array.getElem?_eq_some_iff.1 b1).1 hgF).trans b1
  have T1 := (Tr.of0 f1).trans T1a
  have hg1 : w.heap.size < w1.heap.size := (Array.getElem?_eq_some_iff.1 hu1).1
  clear CQ b1 f1 hglt et T1a
  generalize headB ⟨xk, xt, xa, xc, ks, xp⟩ = hdB at *
  generalize w.heap.size = g at *
  have hxtE : xt.data.toList.length = xt.size := (Lib.size_eq xt).symm
  by_cases ht : xt.data.toList = []
  · have htE : xt = ⟨#[]⟩ := ba_of (l := []) ht
    subst htE
    by_cases hp0 : xp = 0
    · subst hp0
      have u1 := at_cells hu1 1 rfl
      have u3 := at_cells hu1 3 rfl
      have HB : Hid (hdB = 40 :: Lib.itoa xk) := by unfold Hid; rw [HH.out]; simp
      have AH := A1.cast HB.out.symm
      have u2 := at_cells hu1 2 rfl
      clear hbl hi1 hi2 hxtE ht
      go_wp2
      go_loopw [36] (fun iv wr => ∃ (q : Nat) (bs4 : List UInt8) (lg4 : Bool) (F4 : List Nat), q ≤ ks.length ∧ iv = .int .i64 (q : Nat) ∧ Adds most bs lg (hdB ++ ((ks.take q).map (fun j => 32 :: lispN L j.toNat)).flatten) bs4 lg4 ∧ WS B wb F4 (.slice a len cap) most bs4 lg4 ab wr ∧ Tr F w F4 wr) (fun iv _ => ks.length - (intOf iv).toNat)
      case atStart => exact ⟨0, bs1, lg1, F1, Nat.zero_le _, rfl, by simpa using AH, W1, T1⟩
      case round =>
        obtain ⟨q, bs4, lg4, F4, hq, rfl, A4, W4, T4⟩ := hrel
        have L4 := hL.fr T4.f h.hi
        have TT4 := h.tabs T T4.f
        have HQL := flat_take_len (fun j => 32 :: lispN L j.toNat) ks q
        have ha4 := A4.1
        have hln4 := HLN.out
        simp only [List.length_append] at ha4
        by_cases hlt : q < ks.length
        · obtain ⟨k, hk⟩ : ∃ k, ks[q]? = some k := ⟨_, List.getElem?_eq_getElem hlt⟩
          obtain ⟨kb, ko, rfl, hkb, kc0⟩ := HKA.out q k hk
          have kc := T4.f.cell1 kc0 (fun hm => by have := h.hi _ hm; simp at this; omega)
          obtain ⟨hk0, hk1⟩ := HK.out k (List.mem_of_getElem? hk)
          have hLl := HLEN.out
          have ek : ((k.toNat : Nat) : Int) = k := by omega
          have etk : txtL L ab [.text ⟨#[32]⟩, .brk k.toNat] = 32 :: lispN L k.toNat := by simp [txtL, txtP]
          have CP := putA H [.text ⟨#[32]⟩, .brk k.toNat] [.iface 9 (.string ⟨#[32]⟩), .iface 42 (.int .i64 k)] (by intro p hp; simp at hp; rcases hp with rfl | rfl; exact ⟨trivial, trivial⟩; exact ⟨by simp only [Fits]; omega, by simp only [OkP]; omega⟩) W4 L4 TT4 ⟨rfl, by simp [PVal, ek], trivial⟩ (by
            rw [etk]
            have e1 := flat_take_len (fun j => 32 :: lispN L j.toNat) ks (q + 1)
            rw [flat_next (fun j => 32 :: lispN L j.toNat) hk, List.length_append] at e1
            omega) (by simp) 2 rfl
          rw [etk] at CP
          have HJ : Hid (((ks.take (q + 1)).map (fun j => 32 :: lispN L j.toNat)).flatten = ((ks.take q).map (fun j => 32 :: lispN L j.toNat)).flatten ++ (32 :: lispN L k.toNat)) := flat_next (fun j => 32 :: lispN L j.toNat) hk
          have hltI : (q : Int) < ks.length := by omega
          have HX : Hid (q < ks.length) := hlt
          clear kc0 hlt hk HQL ha4 hln4 etk
          go_wp2_with fail
          refine CP.mono ?_
          rintro e w5 ⟨rfl, bs5, lg5, F5, j1, j2, j3⟩
          clear CP
          go_wp2
          go_roundw
          case rel => exact ⟨q + 1, bs5, lg5, F5, HX.out, by go_num, by rw [HJ.out, ← List.append_assoc]; exact A4.trans j1, j2, T4.trans j3⟩
          case measure => have := HX.out; simp [intOf]; omega
        · have hqe : q = ks.length := by omega
          have hlt' : ¬ ((q : Int) < ks.length) := by omega
          have etk : txtL L ab [.text ⟨#[41]⟩] = [41] := by simp [txtL, txtP]
          have CP := putA H [.text ⟨#[41]⟩] [.iface 9 (.string ⟨#[41]⟩)] (by simp [Fits, OkP]) W4 L4 TT4 ⟨rfl, trivial⟩ (by rw [etk]; simp only [List.length_cons, List.length_nil]; omega) (by simp) 1 rfl
          rw [etk] at CP
          have HF : Hid (hdB ++ ((ks.take q).map (fun j => 32 :: lispN L j.toNat)).flatten ++ [41] = lispN L n) := by unfold Hid; rw [hqe, List.take_length, HP.out, List.append_assoc]
          clear hqe HQL ha4 hln4 etk
          go_wp2_with fail
          refine CP.mono ?_
          rintro e w5 ⟨rfl, bs5, lg5, F5, j1, j2, j3⟩
          go_wp2
          go_end0
          exact ⟨rfl, bs5, lg5, F5, (A4.trans j1).cast HF.out, j2, T4.trans j3⟩
    · have hpb : (xp != 0) = true := by simpa using hp0
      have HP0 : Hid (¬ xp = 0) := hp0
      have u1 := at_cells hu1 1 rfl
      have u3 := at_cells hu1 3 rfl
      clear hp0
      have et2 : txtL L ab [.text ⟨#[32, 64]⟩, .num xp] = 32 :: 64 :: Lib.itoa xp := by simp [txtL, txtP]
      have CP2 := putA H [.text ⟨#[32, 64]⟩, .num xp] [.iface 9 (.string ⟨#[32, 64]⟩), .iface 3 (.int .i64 xp)] (by intro p hp; simp at hp; rcases hp with rfl | rfl; exact ⟨trivial, trivial⟩; exact ⟨trivial, by omega, by omega⟩) W1 (hL.fr T1.f h.hi) (h.tabs T T1.f) ⟨rfl, rfl, trivial⟩ (by rw [et2]; have := A1.1; rw [if_neg HP0.out] at hbl; simp only [List.length_cons] at *; omega) (by simp) 2 rfl
      rw [et2] at CP2
      have u12 := at_cells hu1 1 rfl
      have u32 := at_cells hu1 3 rfl
      have u02 := at_cells hu1 0 rfl
      go_wp2_with fail
      refine CP2.mono ?_
      rintro e w2 ⟨rfl, bs2, lg2, F2, A2, W2, T2⟩
      have hgF2 := Tr.notin T2 hgF1 (Array.getElem?_eq_some_iff.1 hu1).1
      have hu2 := (T2.f.block _ (Array.getElem?_eq_some_iff.1 hu1).1 hgF1).trans hu1
      have T2 := T1.trans T2
      clear CP2 et2 u02 u12 u32
      have HB : Hid (hdB = (40 :: Lib.itoa xk) ++ (32 :: 64 :: Lib.itoa xp)) := by unfold Hid; rw [HH.out]; rw [if_neg HP0.out]; simp
      have AH := (A1.trans A2).cast HB.out.symm
      have u2 := at_cells hu2 2 rfl
      clear hbl hi1 hi2 hxtE ht hpb u1 u3
      go_wp2
      go_loopw [36] (fun iv wr => ∃ (q : Nat) (bs4 : List UInt8) (lg4 : Bool) (F4 : List Nat), q ≤ ks.length ∧ iv = .int .i64 (q : Nat) ∧ Adds most bs lg (hdB ++ ((ks.take q).map (fun j => 32 :: lispN L j.toNat)).flatten) bs4 lg4 ∧ WS B wb F4 (.slice a len cap) most bs4 lg4 ab wr ∧ Tr F w F4 wr) (fun iv _ => ks.length - (intOf iv).toNat)
      case atStart => exact ⟨0, bs2, lg2, F2, Nat.zero_le _, rfl, by simpa using AH, W2, T2⟩
      case round =>
        obtain ⟨q, bs4, lg4, F4, hq, rfl, A4, W4, T4⟩ := hrel
        have L4 := hL.fr T4.f h.hi
        have TT4 := h.tabs T T4.f
        have HQL := flat_take_len (fun j => 32 :: lispN L j.toNat) ks q
        have ha4 := A4.1
        have hln4 := HLN.out
        simp only [List.length_append] at ha4
        by_cases hlt : q < ks.length
        · obtain ⟨k, hk⟩ : ∃ k, ks[q]? = some k := ⟨_, List.getElem?_eq_getElem hlt⟩
          obtain ⟨kb, ko, rfl, hkb, kc0⟩ := HKA.out q k hk
          have kc := T4.f.cell1 kc0 (fun hm => by have := h.hi _ hm; simp at this; omega)
          obtain ⟨hk0, hk1⟩ := HK.out k (List.mem_of_getElem? hk)
          have hLl := HLEN.out
          have ek : ((k.toNat : Nat) : Int) = k := by omega
          have etk : txtL L ab [.text ⟨#[32]⟩, .brk k.toNat] = 32 :: lispN L k.toNat := by simp [txtL, txtP]
          have CP := putA H [.text ⟨#[32]⟩, .brk k.toNat] [.iface 9 (.string ⟨#[32]⟩), .iface 42 (.int .i64 k)] (by intro p hp; simp at hp; rcases hp with rfl | rfl; exact ⟨trivial, trivial⟩; exact ⟨by simp only [Fits]; omega, by simp only [OkP]; omega⟩) W4 L4 TT4 ⟨rfl, by simp [PVal, ek], trivial⟩ (by
            rw [etk]
            have e1 := flat_take_len (fun j => 32 :: lispN L j.toNat) ks (q + 1)
            rw [flat_next (fun j => 32 :: lispN L j.toNat) hk, List.length_append] at e1
            omega) (by simp) 2 rfl
          rw [etk] at CP
          have HJ : Hid (((ks.take (q + 1)).map (fun j => 32 :: lispN L j.toNat)).flatten = ((ks.take q).map (fun j => 32 :: lispN L j.toNat)).flatten ++ (32 :: lispN L k.toNat)) := flat_next (fun j => 32 :: lispN L j.toNat) hk
          have hltI : (q : Int) < ks.length := by omega
          have HX : Hid (q < ks.length) := hlt
          clear kc0 hlt hk HQL ha4 hln4 etk
          go_wp2_with fail
          refine CP.mono ?_
          rintro e w5 ⟨rfl, bs5, lg5, F5, j1, j2, j3⟩
          clear CP
          go_wp2
          go_roundw
          case rel => exact ⟨q + 1, bs5, lg5, F5, HX.out, by go_num, by rw [HJ.out, ← List.append_assoc]; exact A4.trans j1, j2, T4.trans j3⟩
          case measure => have := HX.out; simp [intOf]; omega
        · have hqe : q = ks.length := by omega
          have hlt' : ¬ ((q : Int) < ks.length) := by omega
          have etk : txtL L ab [.text ⟨#[41]⟩] = [41] := by simp [txtL, txtP]
          have CP := putA H [.text ⟨#[41]⟩] [.iface 9 (.string ⟨#[41]⟩)] (by simp [Fits, OkP]) W4 L4 TT4 ⟨rfl, trivial⟩ (by rw [etk]; simp only [List.length_cons, List.length_nil]; omega) (by simp) 1 rfl
          rw [etk] at CP
          have HF : Hid (hdB ++ ((ks.take q).map (fun j => 32 :: lispN L j.toNat)).flatten ++ [41] = lispN L n) := by unfold Hid; rw [hqe, List.take_length, HP.out, List.append_assoc]
          clear hqe HQL ha4 hln4 etk
          go_wp2_with fail
          refine CP.mono ?_
          rintro e w5 ⟨rfl, bs5, lg5, F5, j1, j2, j3⟩
          go_wp2
          go_end0
          exact ⟨rfl, bs5, lg5, F5, (A4.trans j1).cast HF.out, j2, T4.trans j3⟩
  · have HT0 : Hid (¬ xt.data.toList = []) := ht
    have htb : xt.toList.isEmpty = false := by rw [Lib.toList_data]; simpa using ht
    rw [if_neg ht] at hbl
    clear ht
    have et2 : txtL L ab [.text ⟨#[32]⟩, .text xt] = 32 :: xt.data.toList := by simp [txtL, txtP]
    have CP2 := putA H [.text ⟨#[32]⟩, .text xt] [.iface 9 (.string ⟨#[32]⟩), .iface 9 (.string xt)] (by intro p hp; simp at hp; rcases hp with rfl | rfl; exact ⟨trivial, trivial⟩; exact ⟨trivial, trivial⟩) W1 (hL.fr T1.f h.hi) (h.tabs T T1.f) ⟨rfl, rfl, trivial⟩ (by rw [et2]; have := A1.1; simp only [List.length_cons] at *; omega) (by simp) 2 rfl
    rw [et2] at CP2
    have u12 := at_cells hu1 1 rfl
    have u32 := at_cells hu1 3 rfl
    have u02 := at_cells hu1 0 rfl
    go_wp2_with fail
    refine CP2.mono ?_
    rintro e w2 ⟨rfl, bs2, lg2, F2, A2, W2, T2⟩
    have hgF2 := Tr.notin T2 hgF1 (Array.getElem?_eq_some_iff.1 hu1).1
    have hu2 := (T2.f.block _ (Array.getElem?_eq_some_iff.1 hu1).1 hgF1).trans hu1
    have T2 := T1.trans T2
    clear CP2 et2 u02 u12 u32
    by_cases hp0 : xp = 0
    · subst hp0
      have u3 := at_cells hu2 3 rfl
      have HB : Hid (hdB = (40 :: Lib.itoa xk) ++ (32 :: xt.data.toList)) := by unfold Hid; rw [HH.out]; rw [if_neg HT0.out]; simp
      have AH := (A1.trans A2).cast HB.out.symm
      have u2 := at_cells hu2 2 rfl
      clear hbl hi1 hi2 hxtE htb
      go_wp2
      go_loopw [36] (fun iv wr => ∃ (q : Nat) (bs4 : List UInt8) (lg4 : Bool) (F4 : List Nat), q ≤ ks.length ∧ iv = .int .i64 (q : Nat) ∧ Adds most bs lg (hdB ++ ((ks.take q).map (fun j => 32 :: lispN L j.toNat)).flatten) bs4 lg4 ∧ WS B wb F4 (.slice a len cap) most bs4 lg4 ab wr ∧ Tr F w F4 wr) (fun iv _ => ks.length - (intOf iv).toNat)
      case atStart => exact ⟨0, bs2, lg2, F2, Nat.zero_le _, rfl, by simpa using AH, W2, T2⟩
      case round =>
        obtain ⟨q, bs4, lg4, F4, hq, rfl, A4, W4, T4⟩ := hrel
        have L4 := hL.fr T4.f h.hi
        have TT4 := h.tabs T T4.f
        have HQL := flat_take_len (fun j => 32 :: lispN L j.toNat) ks q
        have ha4 := A4.1
        have hln4 := HLN.out
        simp only [List.length_append] at ha4
        by_cases hlt : q < ks.length
        · obtain ⟨k, hk⟩ : ∃ k, ks[q]? = some k := ⟨_, List.getElem?_eq_getElem hlt⟩
          obtain ⟨kb, ko, rfl, hkb, kc0⟩ := HKA.out q k hk
          have kc := T4.f.cell1 kc0 (fun hm => by have := h.hi _ hm; simp at this; omega)
          obtain ⟨hk0, hk1⟩ := HK.out k (List.mem_of_getElem? hk)
          have hLl := HLEN.out
          have ek : ((k.toNat : Nat) : Int) = k := by omega
          have etk : txtL L ab [.text ⟨#[32]⟩, .brk k.toNat] = 32 :: lispN L k.toNat := by simp [txtL, txtP]
          have CP := putA H [.text ⟨#[32]⟩, .brk k.toNat] [.iface 9 (.string ⟨#[32]⟩), .iface 42 (.int .i64 k)] (by intro p hp; simp at hp; rcases hp with rfl | rfl; exact ⟨trivial, trivial⟩; exact ⟨by simp only [Fits]; omega, by simp only [OkP]; omega⟩) W4 L4 TT4 ⟨rfl, by simp [PVal, ek], trivial⟩ (by
            rw [etk]
            have e1 := flat_take_len (fun j => 32 :: lispN L j.toNat) ks (q + 1)
            rw [flat_next (fun j => 32 :: lispN L j.toNat) hk, List.length_append] at e1
            omega) (by simp) 2 rfl
          rw [etk] at CP
          have HJ : Hid (((ks.take (q + 1)).map (fun j => 32 :: lispN L j.toNat)).flatten = ((ks.take q).map (fun j => 32 :: lispN L j.toNat)).flatten ++ (32 :: lispN L k.toNat)) := flat_next (fun j => 32 :: lispN L j.toNat) hk
          have hltI : (q : Int) < ks.length := by omega
          have HX : Hid (q < ks.length) := hlt
          clear kc0 hlt hk HQL ha4 hln4 etk
          go_wp2_with fail
          refine CP.mono ?_
          rintro e w5 ⟨rfl, bs5, lg5, F5, j1, j2, j3⟩
          clear CP
          go_wp2
          go_roundw
          case rel => exact ⟨q + 1, bs5, lg5, F5, HX.out, by go_num, by rw [HJ.out, ← List.append_assoc]; exact A4.trans j1, j2, T4.trans j3⟩
          case measure => have := HX.out; simp [intOf]; omega
        · have hqe : q = ks.length := by omega
          have hlt' : ¬ ((q : Int) < ks.length) := by omega
          have etk : txtL L ab [.text ⟨#[41]⟩] = [41] := by simp [txtL, txtP]
          have CP := putA H [.text ⟨#[41]⟩] [.iface 9 (.string ⟨#[41]⟩)] (by simp [Fits, OkP]) W4 L4 TT4 ⟨rfl, trivial⟩ (by rw [etk]; simp only [List.length_cons, List.length_nil]; omega) (by simp) 1 rfl
          rw [etk] at CP
          have HF : Hid (hdB ++ ((ks.take q).map (fun j => 32 :: lispN L j.toNat)).flatten ++ [41] = lispN L n) := by unfold Hid; rw [hqe, List.take_length, HP.out, List.append_assoc]
          clear hqe HQL ha4 hln4 etk
          go_wp2_with fail
          refine CP.mono ?_
          rintro e w5 ⟨rfl, bs5, lg5, F5, j1, j2, j3⟩
          go_wp2
          go_end0
          exact ⟨rfl, bs5, lg5, F5, (A4.trans j1).cast HF.out, j2, T4.trans j3⟩
    · have hpb : (xp != 0) = true := by simpa using hp0
      have HP0 : Hid (¬ xp = 0) := hp0
      rw [if_neg hp0] at hbl
      clear hp0
      have et3 : txtL L ab [.text ⟨#[32, 64]⟩, .num xp] = 32 :: 64 :: Lib.itoa xp := by simp [txtL, txtP]
      have CP3 := putA H [.text ⟨#[32, 64]⟩, .num xp] [.iface 9 (.string ⟨#[32, 64]⟩), .iface 3 (.int .i64 xp)] (by intro p hp; simp at hp; rcases hp with rfl | rfl; exact ⟨trivial, trivial⟩; exact ⟨trivial, by omega, by omega⟩) W2 (hL.fr T2.f h.hi) (h.tabs T T2.f) ⟨rfl, rfl, trivial⟩ (by rw [et3]; have := A1.1; have := A2.1; simp only [List.length_cons] at *; omega) (by simp) 2 rfl
      rw [et3] at CP3
      have u13 := at_cells hu2 1 rfl
      have u33 := at_cells hu2 3 rfl
      have u03 := at_cells hu2 0 rfl
      go_wp2_with fail
      refine CP3.mono ?_
      rintro e w3 ⟨rfl, bs3, lg3, F3, A3, W3, T3⟩
      have hgF3 := Tr.notin T3 hgF2 (Array.getElem?_eq_some_iff.1 hu2).1
      have hu3 := (T3.f.block _ (Array.getElem?_eq_some_iff.1 hu2).1 hgF2).trans hu2
      have T3 := T2.trans T3
      clear CP3 et3 u03 u13 u33
      have HB : Hid (hdB = (40 :: Lib.itoa xk) ++ ((32 :: xt.data.toList) ++ (32 :: 64 :: Lib.itoa xp))) := by unfold Hid; rw [HH.out]; rw [if_neg HT0.out, if_neg HP0.out]
      have AH := (A1.trans (A2.trans A3)).cast HB.out.symm
      have u2 := at_cells hu3 2 rfl
      clear hbl hi1 hi2 hxtE htb hpb
      go_wp2
      go_loopw [36] (fun iv wr => ∃ (q : Nat) (bs4 : List UInt8) (lg4 : Bool) (F4 : List Nat), q ≤ ks.length ∧ iv = .int .i64 (q : Nat) ∧ Adds most bs lg (hdB ++ ((ks.take q).map (fun j => 32 :: lispN L j.toNat)).flatten) bs4 lg4 ∧ WS B wb F4 (.slice a len cap) most bs4 lg4 ab wr ∧ Tr F w F4 wr) (fun iv _ => ks.length - (intOf iv).toNat)
      case atStart => exact ⟨0, bs3, lg3, F3, Nat.zero_le _, rfl, by simpa using AH, W3, T3⟩
      case round =>
        obtain ⟨q, bs4, lg4, F4, hq, rfl, A4, W4, T4⟩ := hrel
        have L4 := hL.fr T4.f h.hi
        have TT4 := h.tabs T T4.f
        have HQL := flat_take_len (fun j => 32 :: lispN L j.toNat) ks q
        have ha4 := A4.1
        have hln4 := HLN.out
        simp only [List.length_append] at ha4
        by_cases hlt : q < ks.length
        · obtain ⟨k, hk⟩ : ∃ k, ks[q]? = some k := ⟨_, List.getElem?_eq_getElem hlt⟩
          obtain ⟨kb, ko, rfl, hkb, kc0⟩ := HKA.out q k hk
          have kc := T4.f.cell1 kc0 (fun hm => by have := h.hi _ hm; simp at this; omega)
          obtain ⟨hk0, hk1⟩ := HK.out k (List.mem_of_getElem? hk)
          have hLl := HLEN.out
          have ek : ((k.toNat : Nat) : Int) = k := by omega
          have etk : txtL L ab [.text ⟨#[32]⟩, .brk k.toNat] = 32 :: lispN L k.toNat := by simp [txtL, txtP]
          have CP := putA H [.text ⟨#[32]⟩, .brk k.toNat] [.iface 9 (.string ⟨#[32]⟩), .iface 42 (.int .i64 k)] (by intro p hp; simp at hp; rcases hp with rfl | rfl; exact ⟨trivial, trivial⟩; exact ⟨by simp only [Fits]; omega, by simp only [OkP]; omega⟩) W4 L4 TT4 ⟨rfl, by simp [PVal, ek], trivial⟩ (by
            rw [etk]
            have e1 := flat_take_len (fun j => 32 :: lispN L j.toNat) ks (q + 1)
            rw [flat_next (fun j => 32 :: lispN L j.toNat) hk, List.length_append] at e1
            omega) (by simp) 2 rfl
          rw [etk] at CP
          have HJ : Hid (((ks.take (q + 1)).map (fun j => 32 :: lispN L j.toNat)).flatten = ((ks.take q).map (fun j => 32 :: lispN L j.toNat)).flatten ++ (32 :: lispN L k.toNat)) := flat_next (fun j => 32 :: lispN L j.toNat) hk
          have hltI : (q : Int) < ks.length := by omega
          have HX : Hid (q < ks.length) := hlt
          clear kc0 hlt hk HQL ha4 hln4 etk
          go_wp2_with fail
          refine CP.mono ?_
          rintro e w5 ⟨rfl, bs5, lg5, F5, j1, j2, j3⟩
          clear CP
          go_wp2
          go_roundw
          case rel => exact ⟨q + 1, bs5, lg5, F5, HX.out, by go_num, by rw [HJ.out, ← List.append_assoc]; exact A4.trans j1, j2, T4.trans j3⟩
          case measure => have := HX.out; simp [intOf]; omega
        · have hqe : q = ks.length := by omega
          have hlt' : ¬ ((q : Int) < ks.length) := by omega
          have etk : txtL L ab [.text ⟨#[41]⟩] = [41] := by simp [txtL, txtP]
          have CP := putA H [.text ⟨#[41]⟩] [.iface 9 (.string ⟨#[41]⟩)] (by simp [Fits, OkP]) W4 L4 TT4 ⟨rfl, trivial⟩ (by rw [etk]; simp only [List.length_cons, List.length_nil]; omega) (by simp) 1 rfl
          rw [etk] at CP
          have HF : Hid (hdB ++ ((ks.take q).map (fun j => 32 :: lispN L j.toNat)).flatten ++ [41] = lispN L n) := by unfold Hid; rw [hqe, List.take_length, HP.out, List.append_assoc]
          clear hqe HQL ha4 hln4 etk
          go_wp2_with fail
          refine CP.mono ?_
          rintro e w5 ⟨rfl, bs5, lg5, F5, j1, j2, j3⟩
          go_wp2
          go_end0
          exact ⟨rfl, bs5, lg5, F5, (A4.trans j1).cast HF.out, j2, T4.trans j3⟩
end
end Go.Proofs.YtnebhkglpggnlaaGreatDoor
namespace Go.Proofs.YtnebhkglpggnlaaGreatDoor
open Go.RowKit
set_option linter.unusedVariables false
set_option linter.unusedSimpArgs false

section
variable {L : List T5.Nd} {B wb : Nat} {a : Option Addr} {len cap most r : Nat} {w : World} {F : List Nat} {bs : List UInt8} {lg : Bool} {ab : Nat}
theorem map_take_len (f : Int → List UInt8) (ks : List Int) (q : Nat) : (joinC ((ks.take q).map f)).length ≤ (joinC (ks.map f)).length := by
  induction ks generalizing q with
  | nil => simp
  | cons k r ih =>
    cases q with
    | zero => simp [joinC]
    | succ q =>
      simp only [List.take_succ_cons, List.map_cons, joinC, List.length_append]
      have h : (((r.take q).map f).map (fun s => (44 : UInt8) :: 32 :: s)).flatten.length ≤ ((r.map f).map (fun s => (44 : UInt8) :: 32 :: s)).flatten.length := by
        rw [flat_lenC, flat_lenC]
        have h1 := take_sum (fun k => (f k).length) r q
        have h2 : (r.take q).length ≤ r.length := by simp; omega
        have h3 := Nat.mul_le_mul_right 2 h2
        omega
      omega
theorem join_next (f : Int → List UInt8) {ks : List Int} {q : Nat} {k : Int} (hk : ks[q]? = some k) : joinC ((ks.take (q + 1)).map f) = joinC ((ks.take q).map f) ++ ((if q = 0 then [] else [44, 32]) ++ f k) := by
  rw [List.take_add_one, hk]
  simp only [Option.toList_some, List.map_append, List.map_cons, List.map_nil, joinC_snoc]
  have hlt := (List.getElem?_eq_some_iff.1 hk).1
  by_cases e : q = 0
  · subst e; simp
  · have : (ks.take q).map f ≠ [] := by simp; exact ⟨e, fun h => by rw [h] at hlt; simp at hlt⟩
    rw [if_neg this, if_neg e]
set_option maxRecDepth 100000 in
set_option maxHeartbeats 2000000 in
theorem row_any (ks : List Int) (H0 : ks ≠ [] → Put L B wb a len cap most r) (hks : ∀ k ∈ ks, 3 * k.toNat + 1 ≤ r ∧ 0 ≤ k ∧ k.toNat < L.length ∧ T5.isEx (T5.kd L k) = true) {xa : Option Addr} {xc : Nat} (hka : T5.KAt B w xa ks) (hkc : ks.length ≤ xc) (hkn : ks.length ≤ 100000) (h : WS B wb F (.slice a len cap) most bs lg ab w) (hL : T5.NAt B w a L) (T : Tabs w) (hl : bs.length + (joinC (ks.map (eN L))).length ≤ 1000000000000) :
    Calls Tryz.prog 55 #[.pointer (some ⟨wb, 0, none⟩), .slice xa ks.length xc] w (PostW B wb F (.slice a len cap) most bs lg ab w (joinC (ks.map (eN L)))) := by
  have HKS : Hid (∀ k ∈ ks, 3 * k.toNat + 1 ≤ r ∧ 0 ≤ k ∧ k.toNat < L.length ∧ T5.isEx (T5.kd L k) = true) := hks
  have HKA : Hid (T5.KAt B w xa ks) := hka
  have HLN : Hid (bs.length + (joinC (ks.map (eN L))).length ≤ 1000000000000) := hl
  have hBw : B ≤ w.heap.size := by have := h.fb wb h.pf; omega
  have hknI : (ks.length : Int) ≤ 100000 := by omega
  have hkcI : (ks.length : Int) ≤ xc := by omega
  have HBM := h.bm
  clear hks hka hl
  go_enter Tryz.func55, Tryz.ntmps55
  go_wp2
  go_loopw [8] (fun iv wr => ∃ (q : Nat) (bs1 : List UInt8) (lg1 : Bool) (F1 : List Nat), q ≤ ks.length ∧ iv = .int .i64 (q : Nat) ∧ Adds most bs lg (joinC ((ks.take q).map (eN L))) bs1 lg1 ∧ WS B wb F1 (.slice a len cap) most bs1 lg1 ab wr ∧ Tr F w F1 wr) (fun iv _ => ks.length - (intOf iv).toNat)
  case atStart => exact ⟨0, bs, lg, F, Nat.zero_le _, rfl, by simpa [joinC] using Adds.nil HBM, h, Tr.refl _ _⟩
  case round =>
    obtain ⟨q, bs1, lg1, F1, hq, rfl, A1, W1, T1⟩ := hrel
    have hA1 := A1.1
    have HTK := map_take_len (eN L) ks q
    have L1 := hL.fr T1.f h.hi
    have TT1 := h.tabs T T1.f
    by_cases hlt : q < ks.length
    · have H := H0 (fun e => by rw [e] at hlt; simp at hlt)
      obtain ⟨k, hk⟩ : ∃ k, ks[q]? = some k := ⟨_, List.getElem?_eq_getElem hlt⟩
      obtain ⟨kb, ko, rfl, hkb, kc0⟩ := HKA.out q k hk
      have kc := T1.f.cell1 kc0 (fun hm => by have := h.hi _ hm; simp at this; omega)
      obtain ⟨hr1, hk0, hk1, hk2⟩ := HKS.out k (List.mem_of_getElem? hk)
      have HJ : Hid (joinC ((ks.take (q + 1)).map (eN L)) = joinC ((ks.take q).map (eN L)) ++ ((if q = 0 then [] else [44, 32]) ++ eN L k)) := join_next (eN L) hk
      have HTK2 := map_take_len (eN L) ks (q + 1)
      have hlen2 : Hid (bs.length + ((joinC ((ks.take q).map (eN L))).length + ((if q = 0 then [] else [44, 32] : List UInt8).length + (eN L k).length)) ≤ 1000000000000) := by
        have e1 := HLN.out
        rw [HJ.out] at HTK2
        simp only [List.length_append] at HTK2
        unfold Hid
        omega
      have ek : ((k.toNat : Nat) : Int) = k := by omega
      have hltI : (q : Int) < ks.length := by omega
      have HX : Hid (q < ks.length) := hlt
      clear kc0 HTK HTK2 hlt hk hA1
      by_cases hq0 : q = 0
      · subst hq0
        simp only [Nat.add_zero] at kc
        have et : txtL L ab [.whole k.toNat] = eN L k := by simp [txtL, txtP, ek]
        have CP := putA H [.whole k.toNat] [.iface 89 (.int .i64 k)] (by intro p hp; simp at hp; subst hp; exact ⟨hr1, hk1, by rw [ek]; exact hk2⟩) W1 L1 TT1 ⟨by simp [PVal, ek], trivial⟩ (by rw [et]; have := hlen2.out; have := A1.1; simp at *; omega) (by simp) 1 rfl
        rw [et] at CP
        go_wp2_with fail
        refine CP.mono ?_
        rintro e w2 ⟨rfl, bs2, lg2, F2, j1, j2, j3⟩
        clear CP
        go_wp2
        go_roundw
        case rel => exact ⟨1, bs2, lg2, F2, HX.out, rfl, by rw [HJ.out]; simpa using A1.trans j1, j2, T1.trans j3⟩
        case measure => have := HX.out; simp [intOf]; omega
      · have hq1 : (0 : Int) < q := by omega
        have HQ0 : Hid (¬ q = 0) := hq0
        have hlen3 : bs.length + ((joinC ((ks.take q).map (eN L))).length + (2 + (eN L k).length)) ≤ 1000000000000 := by have := hlen2.out; rw [if_neg hq0] at this; simpa using this
        have et0 : txtL L ab [.text ⟨#[44, 32]⟩] = [44, 32] := by simp [txtL, txtP]
        have CC := putA H [.text ⟨#[44, 32]⟩] [.iface 9 (.string ⟨#[44, 32]⟩)] (by simp [Fits, OkP]) W1 L1 TT1 ⟨rfl, trivial⟩ (by rw [et0]; have := A1.1; simp; omega) (by simp) 1 rfl
        rw [et0] at CC
        clear hq0
        go_wp2_with fail
        refine CC.mono ?_
        rintro e w2 ⟨rfl, bs2, lg2, F2, j1, j2, j3⟩
        have T2 := T1.trans j3
        have et : txtL L ab [.whole k.toNat] = eN L k := by simp [txtL, txtP, ek]
        have CP := putA H [.whole k.toNat] [.iface 89 (.int .i64 k)] (by intro p hp; simp at hp; subst hp; exact ⟨hr1, hk1, by rw [ek]; exact hk2⟩) j2 (hL.fr T2.f h.hi) (h.tabs T T2.f) ⟨by simp [PVal, ek], trivial⟩ (by rw [et]; have := A1.1; have := j1.1; simp at *; omega) (by simp) 1 rfl
        rw [et] at CP
        clear CC
        go_wp2_with fail
        refine CP.mono ?_
        rintro e w3 ⟨rfl, bs3, lg3, F3, i1, i2, i3⟩
        clear CP
        go_wp2
        go_roundw
        case rel => exact ⟨q + 1, bs3, lg3, F3, HX.out, by go_num, by rw [HJ.out, if_neg HQ0.out]; exact A1.trans (j1.trans i1), i2, T2.trans i3⟩
        case measure => have := HX.out; simp [intOf]; omega
    · have hqe : q = ks.length := by omega
      have hlt' : ¬ ((q : Int) < ks.length) := by omega
      have HF : Hid (joinC ((ks.take q).map (eN L)) = joinC (ks.map (eN L))) := by unfold Hid; rw [hqe, List.take_length]
      clear hqe HTK
      go_wp2
      go_end0
      exact ⟨rfl, bs1, lg1, F1, A1.cast HF.out, W1, T1⟩
end
end Go.Proofs.YtnebhkglpggnlaaGreatDoor
namespace Go.Proofs.YtnebhkglpggnlaaGreatDoor
open Go.RowKit
set_option linter.unusedVariables false
set_option linter.unusedSimpArgs false

section
variable {L : List T5.Nd} {B wb : Nat} {a : Option Addr} {len cap most r : Nat}
theorem expr_all (K : Cst L B a len) (H : Put L B wb a len cap most r) {n : Nat} {x : T5.Nd} (hx : L[n]? = some x) (hex : T5.isEx x.kind = true) (hr : 3 * n ≤ r + 1) : NodeC L B wb a len cap most 80 x (fun _ => eN L n) := by
  intro w F bs lg ab h hL T hl
  have hk : 15 ≤ x.kind ∧ x.kind ≤ 30 := by simpa [T5.isEx] using hex
  have hc : x.kind = 15 ∨ x.kind = 16 ∨ x.kind = 17 ∨ x.kind = 18 ∨ x.kind = 19 ∨ x.kind = 20 ∨ x.kind = 21 ∨ x.kind = 22 ∨ x.kind = 23 ∨ x.kind = 24 ∨ x.kind = 25 ∨ x.kind = 26 ∨ x.kind = 27 ∨ x.kind = 28 ∨ x.kind = 29 ∨ x.kind = 30 := by omega
  rcases hc with hk | hk | hk | hk | hk | hk | hk | hk | hk | hk | hk | hk | hk | hk | hk | hk
  · exact expr_15 K H hx hk hr h hL T hl
  · exact expr_16 K H hx hk hr h hL T hl
  · exact expr_17 K H hx hk hr h hL T hl
  · exact expr_18 K H hx hk hr h hL T hl
  · exact expr_19 K H hx hk hr h hL T hl
  · exact expr_20 K H hx hk hr h hL T hl
  · exact expr_21 K H hx hk hr h hL T hl
  · exact expr_22 K H hx hk hr h hL T hl
  · exact expr_23 K H hx hk hr h hL T hl
  · exact expr_24 K H hx hk hr h hL T hl
  · exact expr_25 K H hx hk hr h hL T hl
  · exact expr_26 K H hx hk hr h hL T hl
  · exact expr_27 K H hx hk hr h hL T hl
  · exact expr_28 K H hx hk hr h hL T hl
  · exact expr_29 K H hx hk hr h hL T hl
  · exact expr_30 K H hx hk hr h hL T hl
theorem stmt_all (K : Cst L B a len) (H : Put L B wb a len cap most r) {n : Nat} {x : T5.Nd} (hx : L[n]? = some x) (hex : T5.isSt x.kind = true) (hr : 3 * n ≤ r + 1) {ab : Nat} (hab : ab + n ≤ 60001) : StmtC L B wb a len cap most 77 ab x (sN L ab n) := by
  intro w F bs lg h hL T hl
  have hk : 5 ≤ x.kind ∧ x.kind ≤ 13 := by simpa [T5.isSt] using hex
  have hc : x.kind = 5 ∨ x.kind = 6 ∨ x.kind = 7 ∨ x.kind = 8 ∨ x.kind = 9 ∨ x.kind = 10 ∨ x.kind = 11 ∨ x.kind = 12 ∨ x.kind = 13 := by omega
  rcases hc with hk | hk | hk | hk | hk | hk | hk | hk | hk
  · exact stmt_5 K H hx hk hr hab h hL T hl
  · exact stmt_6 K H hx hk hr hab h hL T hl
  · exact stmt_7 K H hx hk hr hab h hL T hl
  · exact stmt_8 K H hx hk hr hab h hL T hl
  · exact stmt_9 K H hx hk hr hab h hL T hl
  · exact stmt_10 K H hx hk hr hab h hL T hl
  · exact stmt_11 K H hx hk hr hab h hL T hl
  · exact stmt_12 K H hx hk hr hab h hL T hl
  · exact stmt_13 K H hx hk hr hab h hL T hl
theorem decl_all (K : Cst L B a len) (H : Put L B wb a len cap most r) {n : Nat} {x : T5.Nd} (hx : L[n]? = some x) (hex : x.kind = 2 ∨ x.kind = 3) (hr : 3 * n ≤ r + 1) : StmtC L B wb a len cap most 76 0 x (dN L n) := by
  intro w F bs lg h hL T hl
  rcases hex with hk | hk
  · exact decl_2 K H hx hk hr rfl h hL T hl
  · exact decl_3 K H hx hk hr rfl h hL T hl
theorem txt_next {ps : List Part} {q : Nat} {p : Part} {ab : Nat} (hp : ps[q]? = some p) : txtL L ab (ps.take (q + 1)) = txtL L ab (ps.take q) ++ txtP L ab p := by
  unfold txtL
  rw [List.take_add_one, hp]
  simp
theorem txt_take_len (ps : List Part) (ab q : Nat) : (txtL L ab (ps.take q)).length ≤ (txtL L ab ps).length := by
  unfold txtL
  conv => rhs; rw [← List.take_append_drop q ps]
  simp only [List.map_append, List.flatten_append, List.length_append]
  omega
theorem as_9_9 (v : Value) (w : World) : (Instr.typeAssert (.iface 9 v) 20 9 true).run Tryz.prog w = .ok (.tuple #[v, .bool true]) w := by kernel_rfl
theorem as_3_9 (v : Value) (w : World) : (Instr.typeAssert (.iface 3 v) 20 9 true).run Tryz.prog w = .ok (.tuple #[.string ⟨#[]⟩, .bool false]) w := by kernel_rfl
theorem as_3_3 (v : Value) (w : World) : (Instr.typeAssert (.iface 3 v) 20 3 true).run Tryz.prog w = .ok (.tuple #[v, .bool true]) w := by kernel_rfl
theorem as_38_9 (v : Value) (w : World) : (Instr.typeAssert (.iface 38 v) 20 9 true).run Tryz.prog w = .ok (.tuple #[.string ⟨#[]⟩, .bool false]) w := by kernel_rfl
theorem as_38_3 (v : Value) (w : World) : (Instr.typeAssert (.iface 38 v) 20 3 true).run Tryz.prog w = .ok (.tuple #[.int .i64 0, .bool false]) w := by kernel_rfl
theorem as_38_38 (v : Value) (w : World) : (Instr.typeAssert (.iface 38 v) 20 38 true).run Tryz.prog w = .ok (.tuple #[v, .bool true]) w := by kernel_rfl
theorem as_86_9 (v : Value) (w : World) : (Instr.typeAssert (.iface 86 v) 20 9 true).run Tryz.prog w = .ok (.tuple #[.string ⟨#[]⟩, .bool false]) w := by kernel_rfl
theorem as_86_3 (v : Value) (w : World) : (Instr.typeAssert (.iface 86 v) 20 3 true).run Tryz.prog w = .ok (.tuple #[.int .i64 0, .bool false]) w := by kernel_rfl
theorem as_86_38 (v : Value) (w : World) : (Instr.typeAssert (.iface 86 v) 20 38 true).run Tryz.prog w = .ok (.tuple #[.int .i64 0, .bool false]) w := by kernel_rfl
theorem as_86_86 (v : Value) (w : World) : (Instr.typeAssert (.iface 86 v) 20 86 true).run Tryz.prog w = .ok (.tuple #[v, .bool true]) w := by kernel_rfl
theorem as_87_9 (v : Value) (w : World) : (Instr.typeAssert (.iface 87 v) 20 9 true).run Tryz.prog w = .ok (.tuple #[.string ⟨#[]⟩, .bool false]) w := by kernel_rfl
theorem as_87_3 (v : Value) (w : World) : (Instr.typeAssert (.iface 87 v) 20 3 true).run Tryz.prog w = .ok (.tuple #[.int .i64 0, .bool false]) w := by kernel_rfl
theorem as_87_38 (v : Value) (w : World) : (Instr.typeAssert (.iface 87 v) 20 38 true).run Tryz.prog w = .ok (.tuple #[.int .i64 0, .bool false]) w := by kernel_rfl
theorem as_87_86 (v : Value) (w : World) : (Instr.typeAssert (.iface 87 v) 20 86 true).run Tryz.prog w = .ok (.tuple #[.int .i64 0, .bool false]) w := by kernel_rfl
theorem as_87_87 (v : Value) (w : World) : (Instr.typeAssert (.iface 87 v) 20 87 true).run Tryz.prog w = .ok (.tuple #[v, .bool true]) w := by kernel_rfl
theorem as_89_9 (v : Value) (w : World) : (Instr.typeAssert (.iface 89 v) 20 9 true).run Tryz.prog w = .ok (.tuple #[.string ⟨#[]⟩, .bool false]) w := by kernel_rfl
theorem as_89_3 (v : Value) (w : World) : (Instr.typeAssert (.iface 89 v) 20 3 true).run Tryz.prog w = .ok (.tuple #[.int .i64 0, .bool false]) w := by kernel_rfl
theorem as_89_38 (v : Value) (w : World) : (Instr.typeAssert (.iface 89 v) 20 38 true).run Tryz.prog w = .ok (.tuple #[.int .i64 0, .bool false]) w := by kernel_rfl
theorem as_89_86 (v : Value) (w : World) : (Instr.typeAssert (.iface 89 v) 20 86 true).run Tryz.prog w = .ok (.tuple #[.int .i64 0, .bool false]) w := by kernel_rfl
theorem as_89_87 (v : Value) (w : World) : (Instr.typeAssert (.iface 89 v) 20 87 true).run Tryz.prog w = .ok (.tuple #[.int .i64 0, .bool false]) w := by kernel_rfl
theorem as_89_89 (v : Value) (w : World) : (Instr.typeAssert (.iface 89 v) 20 89 true).run Tryz.prog w = .ok (.tuple #[v, .bool true]) w := by kernel_rfl
theorem as_92_9 (v : Value) (w : World) : (Instr.typeAssert (.iface 92 v) 20 9 true).run Tryz.prog w = .ok (.tuple #[.string ⟨#[]⟩, .bool false]) w := by kernel_rfl
theorem as_92_3 (v : Value) (w : World) : (Instr.typeAssert (.iface 92 v) 20 3 true).run Tryz.prog w = .ok (.tuple #[.int .i64 0, .bool false]) w := by kernel_rfl
theorem as_92_38 (v : Value) (w : World) : (Instr.typeAssert (.iface 92 v) 20 38 true).run Tryz.prog w = .ok (.tuple #[.int .i64 0, .bool false]) w := by kernel_rfl
theorem as_92_86 (v : Value) (w : World) : (Instr.typeAssert (.iface 92 v) 20 86 true).run Tryz.prog w = .ok (.tuple #[.int .i64 0, .bool false]) w := by kernel_rfl
theorem as_92_87 (v : Value) (w : World) : (Instr.typeAssert (.iface 92 v) 20 87 true).run Tryz.prog w = .ok (.tuple #[.int .i64 0, .bool false]) w := by kernel_rfl
theorem as_92_89 (v : Value) (w : World) : (Instr.typeAssert (.iface 92 v) 20 89 true).run Tryz.prog w = .ok (.tuple #[.int .i64 0, .bool false]) w := by kernel_rfl
theorem as_92_92 (v : Value) (w : World) : (Instr.typeAssert (.iface 92 v) 20 92 true).run Tryz.prog w = .ok (.tuple #[v, .bool true]) w := by kernel_rfl
theorem as_93_9 (v : Value) (w : World) : (Instr.typeAssert (.iface 93 v) 20 9 true).run Tryz.prog w = .ok (.tuple #[.string ⟨#[]⟩, .bool false]) w := by kernel_rfl
theorem as_93_3 (v : Value) (w : World) : (Instr.typeAssert (.iface 93 v) 20 3 true).run Tryz.prog w = .ok (.tuple #[.int .i64 0, .bool false]) w := by kernel_rfl
theorem as_93_38 (v : Value) (w : World) : (Instr.typeAssert (.iface 93 v) 20 38 true).run Tryz.prog w = .ok (.tuple #[.int .i64 0, .bool false]) w := by kernel_rfl
theorem as_93_86 (v : Value) (w : World) : (Instr.typeAssert (.iface 93 v) 20 86 true).run Tryz.prog w = .ok (.tuple #[.int .i64 0, .bool false]) w := by kernel_rfl
theorem as_93_87 (v : Value) (w : World) : (Instr.typeAssert (.iface 93 v) 20 87 true).run Tryz.prog w = .ok (.tuple #[.int .i64 0, .bool false]) w := by kernel_rfl
theorem as_93_89 (v : Value) (w : World) : (Instr.typeAssert (.iface 93 v) 20 89 true).run Tryz.prog w = .ok (.tuple #[.int .i64 0, .bool false]) w := by kernel_rfl
theorem as_93_92 (v : Value) (w : World) : (Instr.typeAssert (.iface 93 v) 20 92 true).run Tryz.prog w = .ok (.tuple #[.agg #[.int .i64 0, .int .i64 0], .bool false]) w := by kernel_rfl
theorem as_93_93 (v : Value) (w : World) : (Instr.typeAssert (.iface 93 v) 20 93 true).run Tryz.prog w = .ok (.tuple #[v, .bool true]) w := by kernel_rfl
theorem as_42_9 (v : Value) (w : World) : (Instr.typeAssert (.iface 42 v) 20 9 true).run Tryz.prog w = .ok (.tuple #[.string ⟨#[]⟩, .bool false]) w := by kernel_rfl
theorem as_42_3 (v : Value) (w : World) : (Instr.typeAssert (.iface 42 v) 20 3 true).run Tryz.prog w = .ok (.tuple #[.int .i64 0, .bool false]) w := by kernel_rfl
theorem as_42_38 (v : Value) (w : World) : (Instr.typeAssert (.iface 42 v) 20 38 true).run Tryz.prog w = .ok (.tuple #[.int .i64 0, .bool false]) w := by kernel_rfl
theorem as_42_86 (v : Value) (w : World) : (Instr.typeAssert (.iface 42 v) 20 86 true).run Tryz.prog w = .ok (.tuple #[.int .i64 0, .bool false]) w := by kernel_rfl
theorem as_42_87 (v : Value) (w : World) : (Instr.typeAssert (.iface 42 v) 20 87 true).run Tryz.prog w = .ok (.tuple #[.int .i64 0, .bool false]) w := by kernel_rfl
theorem as_42_89 (v : Value) (w : World) : (Instr.typeAssert (.iface 42 v) 20 89 true).run Tryz.prog w = .ok (.tuple #[.int .i64 0, .bool false]) w := by kernel_rfl
theorem as_42_92 (v : Value) (w : World) : (Instr.typeAssert (.iface 42 v) 20 92 true).run Tryz.prog w = .ok (.tuple #[.agg #[.int .i64 0, .int .i64 0], .bool false]) w := by kernel_rfl
theorem as_42_93 (v : Value) (w : World) : (Instr.typeAssert (.iface 42 v) 20 93 true).run Tryz.prog w = .ok (.tuple #[.slice none 0 0, .bool false]) w := by kernel_rfl
theorem as_42_42 (v : Value) (w : World) : (Instr.typeAssert (.iface 42 v) 20 42 true).run Tryz.prog w = .ok (.tuple #[v, .bool true]) w := by kernel_rfl
end
end Go.Proofs.YtnebhkglpggnlaaGreatDoor
namespace Go.Proofs.YtnebhkglpggnlaaGreatDoor
open Go.RowKit
set_option linter.unusedVariables false
set_option linter.unusedSimpArgs false

section
variable {L : List T5.Nd} {B wb : Nat} {a : Option Addr} {len cap most r : Nat}
theorem lk (K : Cst L B a len) {n : Nat} (h : n < L.length) : ∃ x, L[n]? = some x := ⟨_, List.getElem?_eq_getElem h⟩
set_option maxRecDepth 100000 in
set_option maxHeartbeats 4000000 in
theorem put_step (K : Cst L B a len) (HP : r ≠ 0 → Put L B wb a len cap most (r - 1)) : Put L B wb a len cap most r := by
  intro ps w F bs lg ab g hok h hL T pr hgF hl hn
  have HOK : Hid (∀ p ∈ ps, Fits r p ∧ OkP L ab p) := hok
  have HPR : Hid (PR B w g ps) := pr
  have HLN : Hid (bs.length + (txtL L ab ps).length ≤ 1000000000000) := hl
  have hg : g < w.heap.size := by obtain ⟨vs, h1, _⟩ := pr; exact (Array.getElem?_eq_some_iff.1 h1).1
  have hnI : (ps.length : Int) ≤ 100 := by omega
  have HBM := h.bm
  have hlm : (len : Int) ≤ 50000 := by have := K.few; omega
  have HLEN : Hid (L.length = len) := K.ln
  clear hok pr hl
  go_enter Tryz.func26, Tryz.ntmps26
  go_wp2
  go_loopw [17] (fun iv wr => ∃ (q : Nat) (bs1 : List UInt8) (lg1 : Bool) (F1 : List Nat), q ≤ ps.length ∧ iv = .int .i64 (q : Nat) ∧ Adds most bs lg (txtL L ab (ps.take q)) bs1 lg1 ∧ WS B wb F1 (.slice a len cap) most bs1 lg1 ab wr ∧ Tr F w F1 wr) (fun iv _ => ps.length - (intOf iv).toNat)
  case atStart => exact ⟨0, bs, lg, F, Nat.zero_le _, rfl, by simpa [txtL] using Adds.nil HBM, h, Tr.refl _ _⟩
  case round =>
    obtain ⟨q, bs1, lg1, F1, hq, rfl, A1, W1, T1⟩ := hrel
    have L1 := hL.fr T1.f h.hi
    have TT1 := h.tabs T T1.f
    by_cases hlt : q < ps.length
    · obtain ⟨p, hp⟩ : ∃ p, ps[q]? = some p := ⟨_, List.getElem?_eq_getElem hlt⟩
      have HJ : Hid (txtL L ab (ps.take (q + 1)) = txtL L ab (ps.take q) ++ txtP L ab p) := txt_next hp
      have hl1 : bs1.length + (txtP L ab p).length ≤ 1000000000000 := by
        have e1 := txt_take_len (L := L) ps ab (q + 1)
        rw [txt_next hp, List.length_append] at e1
        have := A1.1
        have := HLN.out
        omega
      have pr1 : PR B wr g ps := HPR.out.fr T1.f h.hi hgF
      obtain ⟨v, hc, hv⟩ := pr1.cell hp
      obtain ⟨hfit, hokp⟩ := HOK.out p (List.mem_of_getElem? hp)
      obtain ⟨c0, _, _⟩ := W1.abc
      have hltI : (q : Int) < ps.length := by omega
      have HX : Hid (q < ps.length) := hlt
      clear hp hlt pr1
      cases p with
      | text s =>
        simp only [PVal] at hv
        subst hv
        have ha9 := as_9_9 (.string s) wr
        have C := add_any W1 s (by rw [Lib.size_eq]; exact hl1)
        clear HOK HPR HLN hfit hokp hl1
        go_wp2_with fail
        refine C.mono ?_
        rintro e w2 ⟨rfl, bs2, lg2, F2, j1, j2, j3⟩
        clear C
        go_wp2
        go_roundw
        case rel => exact ⟨q + 1, bs2, lg2, F2, HX.out, by go_num, by rw [HJ.out]; exact A1.trans j1, j2, T1.trans j3⟩
        case measure => have := HX.out; simp [intOf]; omega
      | num m =>
        simp only [PVal] at hv
        subst hv
        have ha9 := as_3_9 (.int .i64 m) wr
        have ha3 := as_3_3 (.int .i64 m) wr
        have CI := itoa_any m hokp.1 hokp.2 wr TT1
        have HL1 : Hid (bs1.length + (Lib.itoa m).length ≤ 1000000000000) := hl1
        clear HOK HPR HLN hfit hokp hl1
        go_wp2_with fail
        refine CI.mono ?_
        rintro e wi ⟨rfl, fi⟩
        have C := add_any (W1.fr fi (by simp)) ⟨(Lib.itoa m).toArray⟩ (by rw [Lib.size_eq]; exact HL1.out)
        clear CI
        go_wp2_with fail
        refine C.mono ?_
        rintro e w2 ⟨rfl, bs2, lg2, F2, j1, j2, j3⟩
        clear C
        go_wp2
        go_roundw
        case rel => exact ⟨q + 1, bs2, lg2, F2, HX.out, by go_num, by rw [HJ.out]; exact A1.trans j1, j2, T1.trans ((Tr.of0 fi).trans j3)⟩
        case measure => have := HX.out; simp [intOf]; omega
      | decls m =>
        simp only [PVal] at hv
        subst hv
        have ha9 := as_38_9 (.int .i64 (m : Nat)) wr
        have ha3 := as_38_3 (.int .i64 (m : Nat)) wr
        have ha38 := as_38_38 (.int .i64 (m : Nat)) wr
        obtain ⟨x, hx⟩ := lk K hokp.1
        have hkd : T5.kd L m = x.kind := by unfold T5.kd; simp [hx]
        obtain ⟨b, o, rfl, hb, d0, d1, d2, d3⟩ := NAt.cells L1 hx
        have hmI : (m : Int) < len := by have := HLEN.out; have := (List.getElem?_eq_some_iff.1 hx).1; omega
        have hr0 : 3 * m + 1 ≤ r := hfit
        obtain ⟨_, hk1, hz⟩ := hokp
        subst hz
        have H := HP (by omega)
        have C := decls_any K hx (fun k hk y hy => by
          have h1 := K.shp.kids m x hx k hk
          have h2 := K.shp.prg hx (by rw [← hkd]; exact hk1) k hk
          have h3 : T5.kd L k = y.kind := by unfold T5.kd; simp [hy]
          have h4 := decl_all K H (n := k.toNat) hy (by rw [← h3]; exact h2) (by omega)
          rw [show ((k.toNat : Nat) : Int) = k by omega] at h4
          exact h4) W1 L1 TT1 hl1
        clear HOK HPR HLN hfit hl1 hkd hk1
        go_wp2_with fail
        refine C.mono ?_
        rintro e w2 ⟨rfl, bs2, lg2, F2, j1, j2, j3⟩
        clear C
        go_wp2
        go_roundw
        case rel => exact ⟨q + 1, bs2, lg2, F2, HX.out, by go_num, by rw [HJ.out]; exact A1.trans j1, j2, T1.trans j3⟩
        case measure => have := HX.out; simp [intOf]; omega
      | body m =>
        simp only [PVal] at hv
        subst hv
        have ha9 := as_86_9 (.int .i64 (m : Nat)) wr
        have ha3 := as_86_3 (.int .i64 (m : Nat)) wr
        have ha38 := as_86_38 (.int .i64 (m : Nat)) wr
        have ha86 := as_86_86 (.int .i64 (m : Nat)) wr
        obtain ⟨x, hx⟩ := lk K hokp.1
        have hkd : T5.kd L m = x.kind := by unfold T5.kd; simp [hx]
        obtain ⟨b, o, rfl, hb, d0, d1, d2, d3⟩ := NAt.cells L1 hx
        have hmI : (m : Int) < len := by have := HLEN.out; have := (List.getElem?_eq_some_iff.1 hx).1; omega
        have hr0 : 3 * m + 1 ≤ r := hfit
        obtain ⟨_, hk1, hz⟩ := hokp
        have H := HP (by omega)
        have C := body_any K H hx hz (fun k hk y hy => by
          have h1 := K.shp.kids m x hx k hk
          have h2 := K.shp.blk hx (by rw [← hkd]; exact hk1) k hk
          have h3 : T5.kd L k = y.kind := by unfold T5.kd; simp [hy]
          have h4 := stmt_all K H (n := k.toNat) hy (by rw [← h3]; exact h2) (by omega) (ab := ab + 1) (by omega)
          rw [show ((k.toNat : Nat) : Int) = k by omega] at h4
          exact h4) W1 L1 TT1 hl1
        clear HOK HPR HLN hfit hl1 hkd hz hk1
        go_wp2_with fail
        refine C.mono ?_
        rintro e w2 ⟨rfl, bs2, lg2, F2, j1, j2, j3⟩
        clear C
        go_wp2
        go_roundw
        case rel => exact ⟨q + 1, bs2, lg2, F2, HX.out, by go_num, by rw [HJ.out]; exact A1.trans j1, j2, T1.trans j3⟩
        case measure => have := HX.out; simp [intOf]; omega
      | other m =>
        simp only [PVal] at hv
        subst hv
        have ha9 := as_87_9 (.int .i64 (m : Nat)) wr
        have ha3 := as_87_3 (.int .i64 (m : Nat)) wr
        have ha38 := as_87_38 (.int .i64 (m : Nat)) wr
        have ha86 := as_87_86 (.int .i64 (m : Nat)) wr
        have ha87 := as_87_87 (.int .i64 (m : Nat)) wr
        obtain ⟨x, hx⟩ := lk K hokp.1
        have hkd : T5.kd L m = x.kind := by unfold T5.kd; simp [hx]
        have hr0 : 3 * m + 2 ≤ r := hfit
        obtain ⟨_, hk1, hz⟩ := hokp
        have H := HP (by omega)
        have C := other_any K H hx (by rw [← hkd]; exact hk1) hz (by omega) W1 L1 TT1 hl1
        clear HOK HPR HLN hfit hl1 hkd hz hk1 hx
        go_wp2_with fail
        refine C.mono ?_
        rintro e w2 ⟨rfl, bs2, lg2, F2, j1, j2, j3⟩
        clear C
        go_wp2
        go_roundw
        case rel => exact ⟨q + 1, bs2, lg2, F2, HX.out, by go_num, by rw [HJ.out]; exact A1.trans j1, j2, T1.trans j3⟩
        case measure => have := HX.out; simp [intOf]; omega
      | whole m =>
        simp only [PVal] at hv
        subst hv
        have ha9 := as_89_9 (.int .i64 (m : Nat)) wr
        have ha3 := as_89_3 (.int .i64 (m : Nat)) wr
        have ha38 := as_89_38 (.int .i64 (m : Nat)) wr
        have ha86 := as_89_86 (.int .i64 (m : Nat)) wr
        have ha87 := as_89_87 (.int .i64 (m : Nat)) wr
        have ha89 := as_89_89 (.int .i64 (m : Nat)) wr
        obtain ⟨x, hx⟩ := lk K hokp.1
        have hkd : T5.kd L m = x.kind := by unfold T5.kd; simp [hx]
        have hr0 : 3 * m + 1 ≤ r := hfit
        obtain ⟨_, hk1⟩ := hokp
        have H := HP (by omega)
        have hh : hN L m 0 = eN L m := by unfold hN heldB; rw [if_neg (by omega)]
        have C := side_any K H (t := 0) hx (by rw [← hkd]; exact hk1) (by omega) (fun h => by omega) (expr_all K H hx (by rw [← hkd]; exact hk1) (by omega)) W1 L1 TT1 (by rw [hh]; exact hl1)
        rw [hh] at C
        simp only [Int.natCast_zero] at C
        clear HOK HPR HLN hfit hl1 hkd hk1 hx hh
        go_wp2_with fail
        refine C.mono ?_
        rintro e w2 ⟨rfl, bs2, lg2, F2, j1, j2, j3⟩
        clear C
        go_wp2
        go_roundw
        case rel => exact ⟨q + 1, bs2, lg2, F2, HX.out, by go_num, by rw [HJ.out]; exact A1.trans j1, j2, T1.trans j3⟩
        case measure => have := HX.out; simp [intOf]; omega
      | side m t =>
        simp only [PVal] at hv
        subst hv
        have ha9 := as_92_9 (.agg #[.int .i64 (m : Nat), .int .i64 (t : Nat)]) wr
        have ha3 := as_92_3 (.agg #[.int .i64 (m : Nat), .int .i64 (t : Nat)]) wr
        have ha38 := as_92_38 (.agg #[.int .i64 (m : Nat), .int .i64 (t : Nat)]) wr
        have ha86 := as_92_86 (.agg #[.int .i64 (m : Nat), .int .i64 (t : Nat)]) wr
        have ha87 := as_92_87 (.agg #[.int .i64 (m : Nat), .int .i64 (t : Nat)]) wr
        have ha89 := as_92_89 (.agg #[.int .i64 (m : Nat), .int .i64 (t : Nat)]) wr
        have ha92 := as_92_92 (.agg #[.int .i64 (m : Nat), .int .i64 (t : Nat)]) wr
        obtain ⟨x, hx⟩ := lk K hokp.1
        have hkd : T5.kd L m = x.kind := by unfold T5.kd; simp [hx]
        have hr0 : 3 * m + 2 ≤ r := hfit
        obtain ⟨_, hk1, hz⟩ := hokp
        have H := HP (by omega)
        have f1 : Fr [] wr (wr.alloc (.cells #[.int .i64 (m : Nat), .int .i64 (t : Nat)] 92)) := (Fr.refl _ _).alloc _
        have C := side_any K H hx (by rw [← hkd]; exact hk1) hz (fun h => by omega) (expr_all K H hx (by rw [← hkd]; exact hk1) (by omega)) (W1.fr f1 (by simp)) (L1.fr f1 (by simp)) (TT1.fr f1 (by simp)) hl1
        clear HOK HPR HLN hfit hl1 hkd hk1 hx hz
        go_wp2_with fail
        refine C.mono ?_
        rintro e w2 ⟨rfl, bs2, lg2, F2, j1, j2, j3⟩
        clear C
        go_wp2
        go_roundw
        case rel => exact ⟨q + 1, bs2, lg2, F2, HX.out, by go_num, by rw [HJ.out]; exact A1.trans j1, j2, T1.trans ((Tr.of0 f1).trans j3)⟩
        case measure => have := HX.out; simp [intOf]; omega
      | row ks =>
        obtain ⟨ka, kcap, hv, hka, hkc⟩ := hv
        subst hv
        have ha9 := as_93_9 (.slice ka ks.length kcap) wr
        have ha3 := as_93_3 (.slice ka ks.length kcap) wr
        have ha38 := as_93_38 (.slice ka ks.length kcap) wr
        have ha86 := as_93_86 (.slice ka ks.length kcap) wr
        have ha87 := as_93_87 (.slice ka ks.length kcap) wr
        have ha89 := as_93_89 (.slice ka ks.length kcap) wr
        have ha92 := as_93_92 (.slice ka ks.length kcap) wr
        have ha93 := as_93_93 (.slice ka ks.length kcap) wr
        have HFI : Hid (∀ k ∈ ks, 3 * k.toNat + 2 ≤ r) := hfit
        have C : Calls Tryz.prog 55 #[.pointer (some ⟨wb, 0, none⟩), .slice ka ks.length kcap] wr (PostW B wb F1 (.slice a len cap) most bs1 lg1 ab wr (txtP L ab (.row ks))) := by
          exact row_any ks (fun hne => HP (fun e => by
            cases ks with
            | nil => exact hne rfl
            | cons k rr => have := HFI.out k (by simp); omega)) (fun k hk => ⟨by have := HFI.out k hk; omega, (hokp.2 k hk).1, (hokp.2 k hk).2.1, (hokp.2 k hk).2.2⟩) hka hkc (by have := hokp.1; omega) W1 L1 TT1 hl1
        clear HOK HPR HLN hfit hl1 hokp
        go_wp2_with fail
        refine C.mono ?_
        rintro e w2 ⟨rfl, bs2, lg2, F2, j1, j2, j3⟩
        clear C
        go_wp2
        go_roundw
        case rel => exact ⟨q + 1, bs2, lg2, F2, HX.out, by go_num, by rw [HJ.out]; exact A1.trans j1, j2, T1.trans j3⟩
        case measure => have := HX.out; simp [intOf]; omega
      | brk m =>
        simp only [PVal] at hv
        subst hv
        have ha9 := as_42_9 (.int .i64 (m : Nat)) wr
        have ha3 := as_42_3 (.int .i64 (m : Nat)) wr
        have ha38 := as_42_38 (.int .i64 (m : Nat)) wr
        have ha86 := as_42_86 (.int .i64 (m : Nat)) wr
        have ha87 := as_42_87 (.int .i64 (m : Nat)) wr
        have ha89 := as_42_89 (.int .i64 (m : Nat)) wr
        have ha92 := as_42_92 (.int .i64 (m : Nat)) wr
        have ha93 := as_42_93 (.int .i64 (m : Nat)) wr
        have ha42 := as_42_42 (.int .i64 (m : Nat)) wr
        obtain ⟨x, hx⟩ := lk K hokp
        have hkd : T5.kd L m = x.kind := by unfold T5.kd; simp [hx]
        obtain ⟨b, o, rfl, hb, d0, d1, d2, d3⟩ := NAt.cells L1 hx
        have hmI : (m : Int) < len := by have := HLEN.out; have := (List.getElem?_eq_some_iff.1 hx).1; omega
        have hr0 : 3 * m + 1 ≤ r := hfit
        have H := HP (by omega)
        have C := brk_any K H hx (by omega) W1 L1 TT1 hl1
        unfold ndV at C
        clear HOK HPR HLN hfit hl1 hkd hx
        go_wp2_with fail
        refine C.mono ?_
        rintro e w2 ⟨rfl, bs2, lg2, F2, j1, j2, j3⟩
        clear C
        go_wp2
        go_roundw
        case rel => exact ⟨q + 1, bs2, lg2, F2, HX.out, by go_num, by rw [HJ.out]; exact A1.trans j1, j2, T1.trans j3⟩
        case measure => have := HX.out; simp [intOf]; omega
    · have hqe : q = ps.length := by omega
      have hlt' : ¬ ((q : Int) < ps.length) := by omega
      have HF : Hid (txtL L ab (ps.take q) = txtL L ab ps) := by unfold Hid; rw [hqe, List.take_length]
      clear hqe
      go_wp2
      go_end0
      exact ⟨rfl, bs1, lg1, F1, A1.cast HF.out, W1, T1⟩
theorem put_all (K : Cst L B a len) : ∀ r, Put L B wb a len cap most r
  | 0 => put_step K (fun h => absurd rfl h)
  | r + 1 => put_step K (fun _ => by simpa using put_all K r)
end
end Go.Proofs.YtnebhkglpggnlaaGreatDoor
namespace Go.Proofs.YtnebhkglpggnlaaGreatDoor
open Go.RowKit
set_option linter.unusedVariables false
set_option linter.unusedSimpArgs false

theorem Fr.freeze {F : List Nat} {w w' : World} (h : Fr F w w') {g : Nat} (hg : g ∈ F ∨ w.heap.size ≤ g) (n : Nat) : Fr F w (w'.freeze ⟨g, 0, none⟩ n) := by
  unfold World.freeze
  split
  · exact h
  · refine ⟨h.os, h.tape, h.output, by simpa using h.size, fun k hk hS => ?_⟩
    have hne : g ≠ k := fun e => by
      subst e
      rcases hg with hg | hg
      · exact hS hg
      · omega
    rw [Array.getElem?_modify, if_neg hne]
    exact h.block k hk hS
theorem cellsU : Tryz.prog.cellsOf 5 = 1 := by kernel_rfl
set_option maxRecDepth 100000 in
set_option maxHeartbeats 2000000 in
theorem bstr_any {B wb : Nat} {F : List Nat} {av : Value} {most : Nat} {bs : List UInt8} {lg : Bool} {ab : Nat} {w : World} (h : WS B wb F av most bs lg ab w) :
    Calls Tryz.prog 27 #[.pointer (some ⟨wb, 1, none⟩)] w fun e w' => e = .returned (.string ⟨bs.toArray⟩) ∧ Fr F w w' := by
  obtain ⟨p, v, hbk, hp, hown, hv⟩ := h.ex
  have hBw : B ≤ w.heap.size := by have := h.fb wb h.pf; omega
  obtain ⟨_, _, c2, _, _, _, _⟩ := wr_cells hbk
  have hUS0 : ∀ (W : World) (q : Option Addr), (Builtin.unsafeString_ #[95, 3] 9 #[.pointer q, .int .i64 0]).run Tryz.prog W = .ok (.string .empty) W := fun W q => Lib.run_unsafeString_none W _ _ _ q
  have fd : Fr F w w.drew := (Fr.refl _ _).drew
  rcases hown.2 with ⟨rfl, h0⟩ | ⟨g, cp, cur, rfl, hbg, hg, hnc, hcm, hcs, htake⟩
  · have hb0 : bs = [] := List.eq_nil_of_length_eq_zero h0
    subst hb0
    have c1 : w.drew.cell? ⟨wb, 2, none⟩ = some (.slice none 0 0) := c2
    have hSD : (Builtin.unsafeSliceData_ #[60] 95 #[.slice none 0 0]).run Tryz.prog w.drew = .ok (.pointer none) w.drew := rfl
    go_enter Tryz.func27, Tryz.ntmps27
    go_wp2
    go_region
    all_goals (go_wp2; go_ret; exact ⟨rfl, fd⟩)
  · obtain ⟨hgF, hgw⟩ := hv g rfl
    by_cases hb0 : bs = []
    · subst hb0
      simp only [List.length_nil] at c2 hbk
      by_cases hc0 : cp = 0
      · subst hc0
        have c1 : w.drew.cell? ⟨wb, 2, none⟩ = some (.slice (some ⟨g, 0, none⟩) 0 0) := c2
        have hSD : (Builtin.unsafeSliceData_ #[60] 95 #[.slice (some ⟨g, 0, none⟩) 0 0]).run Tryz.prog w.drew = .ok (.pointer (some ⟨w.drew.heap.size, 0, none⟩)) (w.drew.alloc (.view ⟨g, 0, none⟩ 5)) :=
          Lib.run_unsafeSliceData_zero w.drew _ _ 5 Tryz.underlying95 ⟨g, 0, none⟩ 0 (5, cur.size) (by have hg' : w.drew.heap[g]? = some (.cells cur 5 (0, 0)) := hg; simp [World.shape?, hg'])
        have fv : Fr F w (w.alloc (.view ⟨g, 0, none⟩ 5)) := (Fr.refl _ _).alloc _
        have c3 : (w.alloc (.view ⟨g, 0, none⟩ 5)).drew.cell? ⟨wb, 2, none⟩ = some (.slice (some ⟨g, 0, none⟩) 0 0) := ((Fr.refl [] w).alloc _).drew.cell1 c2 (by simp)
        have c4 : (w.alloc (.view ⟨g, 0, none⟩ 5)).cell? ⟨wb, 2, none⟩ = some (.slice (some ⟨g, 0, none⟩) 0 0) := ((Fr.refl [] w).alloc _).cell1 c2 (by simp)
        go_enter Tryz.func27, Tryz.ntmps27
        go_wp2
        go_region
        all_goals (go_wp2; go_ret; exact ⟨rfl, fv.drew⟩)
      · have c1 : w.drew.cell? ⟨wb, 2, none⟩ = some (.slice (some ⟨g, 0, none⟩) 0 cp) := c2
        have hSD : (Builtin.unsafeSliceData_ #[60] 95 #[.slice (some ⟨g, 0, none⟩) 0 cp]).run Tryz.prog w.drew = .ok (.pointer (some ⟨g, 0, none⟩)) w.drew := Lib.run_unsafeSliceData_row _ _ _ _ _ _ hc0
        clear hc0
        go_enter Tryz.func27, Tryz.ntmps27
        go_wp2
        go_region
        all_goals (go_wp2; go_ret; exact ⟨rfl, fd⟩)
    · have hl0 : bs.length ≠ 0 := by simpa using hb0
      have c1 : w.drew.cell? ⟨wb, 2, none⟩ = some (.slice (some ⟨g, 0, none⟩) bs.length cp) := c2
      have hSD : (Builtin.unsafeSliceData_ #[60] 95 #[.slice (some ⟨g, 0, none⟩) bs.length cp]).run Tryz.prog w.drew = .ok (.pointer (some ⟨g, 0, none⟩)) w.drew := Lib.run_unsafeSliceData_row _ _ _ _ _ _ (by omega)
      have hUS : (Builtin.unsafeString_ #[95, 3] 9 #[.pointer (some ⟨g, 0, none⟩), .int .i64 bs.length]).run Tryz.prog w.drew = .ok (.string ⟨bs.toArray⟩) (w.drew.freeze ⟨g, 0, none⟩ bs.length) := by
        refine Lib.run_unsafeString_row w.drew 95 3 9 5 Tryz.underlying95 cellsU g cur.size (by have hg' : w.drew.heap[g]? = some (.cells cur 5 (0, 0)) := hg; simp [World.shape?, hg']) bs hb0 (by omega) (by unfold maxLen at hcm; omega) ?_
        intro j x hx
        have := hown.cells (g := g) rfl j (.int .u8 x.toNat) (by simp [Lib.byteCells, hx])
        exact this
      have ff : Fr F w (w.drew.freeze ⟨g, 0, none⟩ bs.length) := fd.freeze (.inl hgF) _
      clear hUS0 hl0
      go_enter Tryz.func27, Tryz.ntmps27
      go_wp2
      go_region
      all_goals (go_wp2; go_ret; exact ⟨rfl, ff⟩)
end Go.Proofs.YtnebhkglpggnlaaGreatDoor
namespace Go.Proofs.YtnebhkglpggnlaaGreatDoor
open Go.RowKit
set_option linter.unusedVariables false
set_option linter.unusedSimpArgs false

theorem KAt.mono {B B' : Nat} {w : World} {a : Option Addr} {ks : List Int} (h : T5.KAt B w a ks) (hB : B ≤ B') : T5.KAt B' w a ks := fun j k hk => by
  obtain ⟨b, o, e, hb, hc⟩ := h j k hk
  exact ⟨b, o, e, by omega, hc⟩
theorem NAt.mono {B B' : Nat} {w : World} {a : Option Addr} {L : List T5.Nd} (h : T5.NAt B w a L) (hB : B ≤ B') : T5.NAt B' w a L := fun i x hx => by
  obtain ⟨b, o, e, hb, hc⟩ := h i x hx
  exact ⟨b, o, e, by omega, ⟨hc.c0, hc.c1, hc.c2, hc.c3, KAt.mono hc.k hB, hc.t, hc.kl, hc.kc, hc.kn⟩⟩
theorem cst_of {L : List T5.Nd} {T : List Bool} (h : T5.nodesL L L.length = .ok T) (hl : L.length ≤ 50000) (hp : ∀ x ∈ L, x.pl ≤ 9223372036854775807) (B : Nat) (a : Option Addr) : Cst L B a L.length :=
  ⟨shp_of h, rfl, hl, fun i x hx => Nat.le_trans (kids_few h hx) hl, fun i x hx => hp x (List.mem_of_getElem? hx)⟩
theorem Fr.thenNew {F : List Nat} {w w1 w2 : World} (h : Fr [] w w1) (k : Fr F w1 w2) (hF : ∀ j ∈ F, w.heap.size ≤ j) : Fr [] w w2 :=
  ⟨k.os.trans h.os, k.tape.trans h.tape, k.output.trans h.output, Nat.le_trans h.size k.size, fun j hj _ => by
    rw [k.block j (Nat.lt_of_lt_of_le hj h.size) (fun hm => by have := hF j hm; omega)]
    exact h.block j hj (by simp)⟩
/-- What is answered where t is what there is to write. -/
def shO (L : List T5.Nd) (most : Nat) (t : List UInt8) : List UInt8 × Nat := if (T5.checkL L).2 = 0 then (if t.length ≤ most then (t, 0) else ([], 2)) else ([], (T5.checkL L).2)
set_option maxRecDepth 100000 in
set_option maxHeartbeats 2000000 in
theorem shown_any (B : Nat) (L : List T5.Nd) (w : World) (a : Option Addr) (len cap : Nat) (hlen : L.length = len) (hL : T5.NAt B w a L) (hm : len ≤ 2600000000000) (hB : B ≤ w.heap.size) (TT : Tabs w) (hp : ∀ x ∈ L, x.pl ≤ 9223372036854775807) (tt : TypeId) (u : Value) (most : Nat) (hmo : most ≤ 9223372036854775807) (t : List UInt8)
    (hv : (T5.checkL L).2 = 0 → ∃ p r, (∀ B' w', PVal B' w' p (.iface tt u)) ∧ Fits r p ∧ OkP L 0 p ∧ txtP L 0 p = t ∧ t.length ≤ 1000000000000) :
    Calls Tryz.prog 14 #[.slice a len cap, .iface tt u, .int .i64 (most : Nat)] w fun e w' => e = .returned (.tuple #[.string ⟨(shO L most t).1.toArray⟩, .int .i64 ((shO L most t).2 : Nat)]) ∧ Fr [] w w' := by
  have CC := T5.check_any B L w a len cap hlen hL hm hB TT
  unfold T5.cOut at CC
  rcases hc : T5.checkL L with ⟨pp, c⟩
  rw [hc] at CC
  by_cases h0 : c = 0
  · subst h0
    obtain ⟨Tm, hT, hn0, hl5, _, _⟩ := T5.check_zero hc
    obtain ⟨p, r, hpv, hfit, hok, htx, htl⟩ := hv (by rw [hc])
    have HO : Hid (shO L most t = if t.length ≤ most then (t, 0) else ([], 2)) := by unfold Hid shO; rw [hc]; rfl
    subst hlen
    clear hc hn0 hv
    go_enter Tryz.func14, Tryz.ntmps14
    go_wp2_with fail
    refine CC.mono ?_
    rintro e w1 ⟨rfl, f1⟩
    have K := cst_of hT hl5 hp w1.heap.size a
    have hB1 : B ≤ w1.heap.size := Nat.le_trans hB f1.size
    have f2 : Fr [] w1 (w1.alloc (.cells #[.slice a L.length cap, .pointer none, .slice none 0 0, .int .i64 (most : Nat), .bool false, .int .i64 0] 64)) := (Fr.refl _ _).alloc _
    have W2 : WS w1.heap.size w1.heap.size [w1.heap.size] (.slice a L.length cap) most [] false 0 (w1.alloc (.cells #[.slice a L.length cap, .pointer none, .slice none 0 0, .int .i64 (most : Nat), .bool false, .int .i64 0] 64)) := by
      have hT6 := (TT.fr f1 (by simp)).len
      exact ⟨⟨_, _, heap_alloc_new w1 _, .inl rfl, World.ownsRow_nil _ _ _ _, fun k hk => by simp [Value.ownBlock] at hk⟩, by simp, fun j hj => by simp at hj; subst hj; simp, hT6, by simp, hmo, by simp, by simp⟩
    have hL2 := NAt.mono ((hL.fr f1 (by simp)).fr f2 (by simp)) hB1
    have T2 := (TT.fr f1 (by simp)).fr f2 (by simp)
    have etx : txtL L 0 [p] = t := by unfold txtL; simp [htx]
    have CP := putA (put_all K r) [p] [.iface tt u] (by intro q hq; simp at hq; subst hq; exact ⟨hfit, hok⟩) W2 hL2 T2 ⟨hpv _ _, trivial⟩ (by rw [etx]; simpa using htl) (by simp) 1 rfl
    rw [etx] at CP
    simp only [World.size_alloc] at CP
    clear CC hok hfit htx hpv hT
    go_wp2_with fail
    refine CP.mono ?_
    rintro e w3 ⟨rfl, bs', lg', F', k1, k2, k3⟩
    have k3' := (Tr.of0 f2).trans k3
    have fw : Fr [] w w3 := f1.trans (k3'.f.sub (fun k hk => .inr (by simp at hk; omega)))
    have hF' : ∀ k ∈ F', w1.heap.size ≤ k := fun k hk => by rcases k3'.s k hk with e | e; simp at e; omega; exact e
    obtain ⟨p1, v1, hb1, _⟩ := k2.ex
    obtain ⟨_, _, _, _, c4, _, _⟩ := wr_cells hb1
    clear hb1
    clear CP
    by_cases hle : t.length ≤ most
    · obtain ⟨e1, e2⟩ := k1.2.2.1 ⟨rfl, by simpa using hle⟩
      simp only [List.nil_append] at e1
      subst e1 e2
      have HO2 : Hid (shO L most bs' = (bs', 0)) := by unfold Hid; rw [HO.out, if_pos hle]
      have CB := bstr_any k2
      clear HO hle k1
      go_wp2_with fail
      refine CB.mono ?_
      rintro e w4 ⟨rfl, f4⟩
      go_wp2
      refine bodyPost_ret (results_tmp2 rfl _ _ _) rfl ⟨?_, ?_⟩
      · rw [HO2.out]; rfl
      · exact fw.thenNew f4 (fun k hk => Nat.le_trans f1.size (hF' k hk))
    · have e1 := k1.2.2.2 (fun ⟨_, e⟩ => hle (by simpa using e))
      subst e1
      have HO2 : Hid (shO L most t = ([], 2)) := by unfold Hid; rw [HO.out, if_neg hle]
      clear HO hle k1
      go_wp2
      refine bodyPost_ret (results_tmp2 rfl _ _ _) rfl ⟨?_, fw⟩
      rw [HO2.out]; rfl
  · have HO : Hid (shO L most t = ([], c)) := by unfold Hid shO; rw [hc]; simp only; rw [if_neg h0]
    have hc0 : ¬ ((c : Nat) : Int) = 0 := by omega
    clear hc h0 hv
    go_enter Tryz.func14, Tryz.ntmps14
    go_wp2_with fail
    refine CC.mono ?_
    rintro e w1 ⟨rfl, f1⟩
    go_wp2
    refine bodyPost_ret (results_tmp2 rfl _ _ _) rfl ⟨?_, f1⟩
    rw [HO.out]
    rfl
/-- What a tree is shown as. -/
def progO (L : List T5.Nd) : List UInt8 × Nat := shO L 800000 (pN L ((L.length - 1 : Nat) : Int))
theorem shown_len {L : List T5.Nd} {T : List Bool} (h : T5.nodesL L L.length = .ok T) (hl : L.length ≤ 50000) (hn : L.length ≠ 0) (ht : ∀ x ∈ L, x.text.size ≤ 200020) : (pN L ((L.length - 1 : Nat) : Int)).length ≤ 100000000000 :=
  Nat.le_trans (pN_len (kids_of h) (A := 50001) (by simp only [Int.toNat_natCast]; omega)) (sz_le h hl ht (by omega))
set_option maxRecDepth 100000 in
set_option maxHeartbeats 2000000 in
theorem showP_any (B : Nat) (L : List T5.Nd) (w : World) (a : Option Addr) (len cap : Nat) (hlen : L.length = len) (hL : T5.NAt B w a L) (hm : len ≤ 2600000000000) (hB : B ≤ w.heap.size) (TT : Tabs w) (hp : ∀ x ∈ L, x.pl ≤ 9223372036854775807) (ht : (T5.checkL L).2 = 0 → ∀ x ∈ L, x.text.size ≤ 200020) :
    Calls Tryz.prog 8 #[.slice a len cap] w fun e w' => e = .returned (.tuple #[.string ⟨(progO L).1.toArray⟩, .int .i64 ((progO L).2 : Nat)]) ∧ Fr [] w w' := by
  have C := shown_any B L w a len cap hlen hL hm hB TT hp 38 (.int .i64 ((len : Int) - 1)) 800000 (by decide) (pN L ((L.length - 1 : Nat) : Int)) (fun h0 => by
    rcases hc : T5.checkL L with ⟨pp, c⟩
    rw [hc] at h0
    simp only at h0
    subst h0
    obtain ⟨Tm, hT, hn0, hl5, hk1, _⟩ := T5.check_zero hc
    have hlen' := shown_len hT hl5 hn0 (ht (by rw [hc]))
    exact ⟨.decls (L.length - 1), 3 * (L.length - 1) + 1, fun B' w' => by simp only [PVal]; rw [show ((L.length - 1 : Nat) : Int) = (len : Int) - 1 by omega], Nat.le_refl _, ⟨by omega, hk1, rfl⟩, rfl, by omega⟩)
  have HO : Hid (shO L 800000 (pN L ((L.length - 1 : Nat) : Int)) = progO L) := rfl
  have hlm : (len : Int) ≤ 2600000000000 := by omega
  rw [HO.out] at C
  generalize progO L = pr at *
  obtain ⟨s, c⟩ := pr
  simp only at *
  clear hL ht hp
  go_enter Tryz.func8, Tryz.ntmps8
  go_wp2_with fail
  refine C.mono ?_
  rintro e w1 ⟨rfl, f1⟩
  go_wp2
  refine bodyPost_ret (results_tmp2 rfl _ _ _) rfl ⟨rfl, f1⟩
set_option maxRecDepth 100000 in
set_option maxHeartbeats 2000000 in
theorem showL_any (B : Nat) (L : List T5.Nd) (w : World) (a : Option Addr) (len cap : Nat) (hlen : L.length = len) (hL : T5.NAt B w a L) (hm : len ≤ 2600000000000) (hB : B ≤ w.heap.size) (TT : Tabs w) (hp : ∀ x ∈ L, x.pl ≤ 9223372036854775807) (ht : (T5.checkL L).2 = 0 → ∀ x ∈ L, x.text.size ≤ 200020) :
    Calls Tryz.prog 10 #[.slice a len cap] w fun e w' => e = .returned (.tuple #[.string ⟨(lispO L).1.toArray⟩, .int .i64 ((lispO L).2 : Nat)]) ∧ Fr [] w w' := by
  have hlt : (T5.checkL L).2 = 0 → (lispN L (L.length - 1)).length ≤ 1000000000000 := fun h0 => by
    rcases hc : T5.checkL L with ⟨pp, c⟩
    rw [hc] at h0
    simp only at h0
    subst h0
    obtain ⟨Tm, hT, hn0, hl5, hk1, _⟩ := T5.check_zero hc
    exact lisp_bound hT (cost_le hT hl5 (ht (by rw [hc])) hp) (by omega) (by omega)
  have C := shown_any B L w a len cap hlen hL hm hB TT hp 42 (.int .i64 ((len : Int) - 1)) 9223372036854775807 (by decide) (lispN L (L.length - 1)) (fun h0 => by
    have h1 := hlt h0
    rcases hc : T5.checkL L with ⟨pp, c⟩
    rw [hc] at h0
    simp only at h0
    subst h0
    obtain ⟨Tm, hT, hn0, hl5, hk1, _⟩ := T5.check_zero hc
    exact ⟨.brk (L.length - 1), 3 * (L.length - 1) + 1, fun B' w' => by simp only [PVal]; rw [show ((L.length - 1 : Nat) : Int) = (len : Int) - 1 by omega], Nat.le_refl _, by simp only [OkP]; omega, rfl, h1⟩)
  have HO : Hid (shO L 9223372036854775807 (lispN L (L.length - 1)) = lispO L) := by
    unfold Hid shO lispO
    rcases hc : T5.checkL L with ⟨pp, c⟩
    simp only
    by_cases h0 : c = 0
    · subst h0
      have h1 := hlt (by rw [hc])
      obtain ⟨Tm, hT, hn0, hl5, hk1, _⟩ := T5.check_zero hc
      rw [if_pos rfl, if_pos (by omega), if_pos rfl]
      unfold lispN
      rw [show L.length - 1 + 1 = L.length by omega]
    · rw [if_neg h0, if_neg h0]
  have hlm : (len : Int) ≤ 2600000000000 := by omega
  rw [HO.out] at C
  generalize lispO L = pr at *
  obtain ⟨s, c⟩ := pr
  simp only at *
  clear hL ht hp hlt
  go_enter Tryz.func10, Tryz.ntmps10
  go_wp2_with fail
  refine C.mono ?_
  rintro e w1 ⟨rfl, f1⟩
  go_wp2
  refine bodyPost_ret (results_tmp2 rfl _ _ _) rfl ⟨rfl, f1⟩
end Go.Proofs.YtnebhkglpggnlaaGreatDoor
namespace Go.Proofs.YtnebhkglpggnlaaGreatDoor
open Go.RowKit
set_option linter.unusedVariables false
set_option linter.unusedSimpArgs false

/-! What is shown hangs on no node's room. -/
theorem at_bare (L : List T5.Nd) (i : Nat) : (L.map bare5)[i]? = (L[i]?).map bare5 := by simp
theorem tg_bare (L : List T5.Nd) (k : Int) : tg (L.map bare5) k = tg L k := by
  unfold tg
  rw [at_bare]
  cases L[k.toNat]? <;> rfl
theorem exprF_bare (L : List T5.Nd) : ∀ (f : Nat) (k : Int), exprF (L.map bare5) f k = exprF L f k
  | 0, _ => rfl
  | f + 1, k => by
    simp only [exprF, at_bare]
    cases L[k.toNat]? with
    | none => rfl
    | some x =>
      simp only [Option.map_some]
      have e : ∀ j, exprF (L.map bare5) f j = exprF L f j := exprF_bare L f
      show exprX x (exprF (L.map bare5) f) (fun j t => heldB (tg (L.map bare5) j) t (exprF (L.map bare5) f j)) = _
      exact exprX_congr (fun j _ => e j) (fun j _ t => by rw [e j, tg_bare])
theorem eN_bare (L : List T5.Nd) : eN (L.map bare5) = eN L := funext fun k => exprF_bare L _ k
theorem elseB_congr {L : List T5.Nd} {ab : Nat} {b b' : Int → List UInt8} {k : Int} (h : b k = b' k) : elseB L ab b k = elseB L ab b' k := by unfold elseB; rw [h]
theorem elseB_bare (L : List T5.Nd) (ab : Nat) (b : Int → List UInt8) (k : Int) : elseB (L.map bare5) ab b k = elseB L ab b k := by unfold elseB; rw [kd_bare]
theorem stmtF_bare (L : List T5.Nd) : ∀ (f ab : Nat) (k : Int), stmtF (L.map bare5) f ab k = stmtF L f ab k
  | 0, _, _ => rfl
  | f + 1, ab, k => by
    simp only [stmtF, at_bare]
    cases L[k.toNat]? with
    | none => rfl
    | some x =>
      simp only [Option.map_some]
      have e : ∀ j : Int, (match (L[j.toNat]?).map bare5 with | none => [] | some y => (y.ks.map (stmtF (L.map bare5) f (ab + 1))).flatten) = (match L[j.toNat]? with | none => [] | some y => (y.ks.map (stmtF L f (ab + 1))).flatten : List UInt8) := fun j => by
        cases L[j.toNat]? with
        | none => rfl
        | some y =>
          simp only [Option.map_some, bare5]
          rw [List.map_congr_left (fun i _ => stmtF_bare L f (ab + 1) i)]
      rw [eN_bare]
      show stmtX x ab (eN L) _ _ = _
      exact stmtX_congr (fun j _ => e j) (fun j _ => (elseB_bare L ab _ j).trans (elseB_congr (e j)))
theorem sN_bare (L : List T5.Nd) (ab : Nat) : sN (L.map bare5) ab = sN L ab := funext fun k => stmtF_bare L _ ab k
theorem bN_bare (L : List T5.Nd) (ab : Nat) (k : Int) : bN (L.map bare5) ab k = bN L ab k := by
  unfold bN
  rw [at_bare, sN_bare]
  cases L[k.toNat]? <;> rfl
theorem dN_bare (L : List T5.Nd) (k : Int) : dN (L.map bare5) k = dN L k := by
  unfold dN
  rw [at_bare]
  cases L[k.toNat]? with
  | none => rfl
  | some x =>
    simp only [Option.map_some, declX, bare5, tx]
    rw [eN_bare]
    have : atK x.ks (x.ks.length - 1) (bN (L.map bare5) 1) = atK x.ks (x.ks.length - 1) (bN L 1) := atK_congr (fun j _ => bN_bare L 1 j)
    rw [this]
theorem pN_bare (L : List T5.Nd) (k : Int) : pN (L.map bare5) k = pN L k := by
  unfold pN
  rw [at_bare]
  cases L[k.toNat]? with
  | none => rfl
  | some x =>
    simp only [Option.map_some, bare5]
    rw [List.map_congr_left (fun j _ => dN_bare L j)]
theorem progO_bare (L : List T5.Nd) : progO (L.map bare5) = progO L := by
  unfold progO shO
  simp only [checkL_bare, pN_bare, List.length_map]
/-- What was read, as it lies. -/
theorem rd5_of {s : ByteArray} (hs : s.size ≤ 200000) {w w' : World} {e : Ending} (h : PrgOut s w w' e) {ms : List PN} (hp : prgL s = .ok ms) : ∃ (a : Option Addr) (n c : Nat) (L : List T5.Nd), e = .returned (.tuple #[.slice a n c, .int .i64 0, .int .i64 0]) ∧ L.length = n ∧ T5.NAt w'.heap.size w' a L ∧ n ≤ 50000 ∧ (∀ x ∈ L, x.text.size ≤ 200020) ∧ (∀ x ∈ L, x.pl ≤ 9223372036854775807) ∧ L.map bare5 = ms.map nx5 := by
  unfold PrgOut at h
  rw [hp] at h
  obtain ⟨nv, L, F', rfl, hL, hown, hob, hkr, hF⟩ := h
  obtain ⟨a, c, rfl, -⟩ := own_slice hown
  obtain ⟨h1, h2⟩ := prgL_len hs hp
  have hl : L.length = ms.length := by rw [← hL]; simp
  have hx : ∀ m ∈ L, LenOK 200020 m.x := fun m hm => h1 m.x (by rw [← hL]; exact List.mem_map_of_mem hm)
  refine ⟨a, L.length, c, L.map nd5, rfl, by simp, nodes5 hown hkr (fun j hj => (hF j hj).2) (fun m hm => (hx m hm).1), by omega, ?_, ?_, ?_⟩
  · intro x hx'
    obtain ⟨m, hm, rfl⟩ := List.mem_map.1 hx'
    have := (hx m hm).1
    rw [Lib.size_eq]
    simpa [nd5] using this
  · intro x hx'
    obtain ⟨m, hm, rfl⟩ := List.mem_map.1 hx'
    have := (hx m hm).2
    simp only [nd5]
    omega
  · rw [← hL]
    simp [nd5, nx5, bare5, Function.comp_def]
def exS : ByteArray := ⟨#[102, 110, 32, 102, 40, 120, 41, 123, 114, 101, 116, 117, 114, 110, 32, 40, 120, 41, 45, 40, 49, 45, 50, 41, 59, 125]⟩
def exT : List UInt8 := [102, 110, 32, 102, 40, 120, 41, 32, 123, 10, 32, 32, 32, 32, 114, 101, 116, 117, 114, 110, 32, 120, 32, 45, 32, 40, 49, 32, 45, 32, 50, 41, 59, 10, 125, 10]
def exOK : Bool := match prgL exS with | .error _ => false | .ok ms => decide (progO (ms.map nx5) = (exT, 0)) && decide ((lispO (ms.map nx5)).2 = 0) && decide (10 < (lispO (ms.map nx5)).1.length ∧ (lispO (ms.map nx5)).1.length < 1000)
set_option maxRecDepth 100000 in
theorem exOK_true : exOK = true := by decide +kernel
theorem ex_all : ∃ ms, prgL exS = .ok ms ∧ progO (ms.map nx5) = (exT, 0) ∧ (lispO (ms.map nx5)).2 = 0 ∧ 10 < (lispO (ms.map nx5)).1.length ∧ (lispO (ms.map nx5)).1.length < 1000 := by
  have h := exOK_true
  unfold exOK at h
  split at h
  · cases h
  · rename_i ms hm
    simp only [Bool.and_eq_true, decide_eq_true_eq] at h
    exact ⟨ms, hm, h.1.1, h.1.2, h.2⟩
set_option maxRecDepth 100000 in
set_option maxHeartbeats 2000000 in
theorem awake7_any (w : World) (TT : Tabs w) :
    Calls Tryz.prog 6 #[] w fun e w' => e = .returned (.bool true) ∧ Fr [] w w' := by
  obtain ⟨ms, hm, h1, h2, h3, h4⟩ := ex_all
  have CR := prgR_any exS w (by decide) TT.len
  unfold exS at CR
  go_enter Tryz.func6, Tryz.ntmps6
  go_wp2_with fail
  refine CR.mono ?_
  rintro e w1 ⟨hp, f1⟩
  obtain ⟨a, n, c, L, rfl, hn, hL, hn5, ht, hpl, hb⟩ := rd5_of (s := exS) (by decide) hp hm
  have e1 : progO L = (exT, 0) := by rw [← progO_bare, hb, h1]
  have e2 : lispO L = lispO (ms.map nx5) := by rw [← lispO_bare, hb]
  have T1 := TT.fr f1 (by simp)
  have C1 := showP_any w1.heap.size L w1 a n c hn hL (by omega) (Nat.le_refl _) T1 hpl (fun _ => ht)
  have C2 := fun w2 (f2 : Fr [] w1 w2) => showL_any w1.heap.size L w2 a n c hn (hL.fr f2 (by simp)) (by omega) f2.size (T1.fr f2 (by simp)) hpl (fun _ => ht)
  rw [e1] at C1
  simp only [e2, h2] at C2
  generalize (lispO (ms.map nx5)).1 = S at *
  have hS3 : (10 : Int) < S.length := by omega
  clear CR hp hL ht hpl hb e1 e2 h1 h2 hm h3 hn
  unfold exT at C1
  go_wp2_with fail
  refine C1.mono ?_
  rintro e w2 ⟨rfl, f2⟩
  have C3 := C2 w2 f2
  clear C1 C2
  go_wp2_with fail
  refine C3.mono ?_
  rintro e w3 ⟨rfl, f3⟩
  have HF : Fr [] w w3 := (f1.trans f2).trans f3
  go_wp2
  go_ret
  exact ⟨rfl, HF⟩
end Go.Proofs.YtnebhkglpggnlaaGreatDoor
namespace Go.Proofs.YtnebhkglpggnlaaGreatDoor
open Go.RowKit
set_option linter.unusedVariables false
set_option linter.unusedSimpArgs false

/-- How many they count as. -/
def fewN (L : List T5.Nd) : Nat → Nat
  | 0 => 0
  | n + 1 => fewN L n + match L[n]? with | some x => x.ks.length + x.text.size / 20 | none => 0
set_option maxRecDepth 100000 in
theorem fewN_le (L : List T5.Nd) (h : ∀ x ∈ L, x.ks.length * 8 ≤ 140737488355328 ∧ x.text.size ≤ 140737488355328) : ∀ n, fewN L n ≤ n * 25000000000000
  | 0 => by simp [fewN]
  | n + 1 => by
    have h1 := fewN_le L h n
    have h2 : (match L[n]? with | some x => x.ks.length + x.text.size / 20 | none => 0) ≤ 25000000000000 := by
      split
      · rename_i x hx
        obtain ⟨h4, h5⟩ := h x (List.mem_of_getElem? hx)
        have h6 : x.text.size / 20 ≤ 7036874417767 := by omega
        have h7 : x.ks.length ≤ 17592186044416 := by omega
        exact Nat.le_trans (Nat.add_le_add h7 h6) (by decide)
      · exact Nat.zero_le _
    have h3 : fewN L (n + 1) = fewN L n + (match L[n]? with | some x => x.ks.length + x.text.size / 20 | none => 0) := rfl
    rw [h3, Nat.add_mul, Nat.one_mul]
    exact Nat.add_le_add h1 h2
theorem fewN_at (L : List T5.Nd) : ∀ n i x, i < n → L[i]? = some x → x.text.size / 20 ≤ fewN L n
  | 0, i, x, h, _ => by omega
  | n + 1, i, x, h, hx => by
    simp only [fewN]
    by_cases e : i = n
    · subst e
      rw [hx]
      simp only
      omega
    · have := fewN_at L n i x (by omega) hx
      omega
set_option maxRecDepth 100000 in
set_option maxHeartbeats 2000000 in
theorem few7_any (B : Nat) (L : List T5.Nd) (w : World) (a : Option Addr) (len cap : Nat) (hlen : L.length = len) (hL : T5.NAt B w a L) (hm : len ≤ 2600000000000) (hB : B ≤ w.heap.size) (hz : ∀ x ∈ L, x.ks.length * 8 ≤ 140737488355328 ∧ x.text.size ≤ 140737488355328) :
    Calls Tryz.prog 7 #[.slice a len cap] w fun e w' => (∃ v, e = .returned (.bool v) ∧ (v = true → (T5.checkL L).2 = 0 → ∀ x ∈ L, x.text.size ≤ 200020)) ∧ Fr [] w w' := by
  by_cases hbig : 50000 < len
  · have HV : Hid ((T5.checkL L).2 ≠ 0) := by unfold Hid; rw [T5.check_long (by omega)]; decide
    have HL : Hid (L.length = len) := hlen
    clear hlen hbig
    go_enter Tryz.func7, Tryz.ntmps7
    go_wp2
    go_loopw [3, 10] (fun s i wr => ∃ (p : Nat) (z : Int), p ≤ len ∧ i = .int .i64 p ∧ s = .int .i64 z ∧ Fr [] w wr) (fun _ i _ => len - (intOf i).toNat)
    case atStart => exact ⟨0, len, Nat.zero_le _, rfl, rfl, Fr.refl _ _⟩
    case round =>
      obtain ⟨p, z, hp, rfl, rfl, fw⟩ := hrel
      by_cases hlt : p < len
      · have hx : L[p]? = some (L[p]'(by rw [HL.out]; exact hlt)) := List.getElem?_eq_getElem _
        generalize L[p]'(by rw [HL.out]; exact hlt) = x at hx
        obtain ⟨b, o, rfl, hb, c⟩ := (hL.fr fw (by simp)) p x hx
        obtain ⟨p0, p1, p2, p3, _, t, k, _, _⟩ := c
        unfold maxLen at t k
        clear hL hx hz
        go_wp2
        go_roundw
        case rel => exact ⟨p + 1, _, hlt, by go_num, rfl, fw.alloc _⟩
        case measure => simp [intOf]; omega
      · go_wp2
        go_ret
        exact ⟨⟨_, rfl, fun _ h => absurd h HV.out⟩, fw⟩
  · have HL : Hid (L.length = len) := hlen
    have HF : Hid (∀ n, fewN L n ≤ n * 25000000000000) := fewN_le L hz
    have HZ : Hid (∀ x ∈ L, x.ks.length * 8 ≤ 140737488355328 ∧ x.text.size ≤ 140737488355328) := hz
    have hl5 : len ≤ 50000 := by omega
    clear hlen hbig hz
    go_enter Tryz.func7, Tryz.ntmps7
    go_wp2
    go_loopw [3, 10] (fun s i wr => ∃ (p : Nat), p ≤ len ∧ i = .int .i64 p ∧ s = .int .i64 ((len + fewN L p : Nat) : Int) ∧ Fr [] w wr) (fun _ i _ => len - (intOf i).toNat)
    case atStart => exact ⟨0, Nat.zero_le _, rfl, by simp [fewN], Fr.refl _ _⟩
    case round =>
      obtain ⟨p, hp, rfl, rfl, fw⟩ := hrel
      by_cases hlt : p < len
      · have hx : L[p]? = some (L[p]'(by rw [HL.out]; exact hlt)) := List.getElem?_eq_getElem _
        generalize L[p]'(by rw [HL.out]; exact hlt) = x at hx
        obtain ⟨b, o, rfl, hb, c⟩ := (hL.fr fw (by simp)) p x hx
        obtain ⟨p0, p1, p2, p3, _, _, _, _, _⟩ := c
        obtain ⟨hz1, hz2⟩ := HZ.out x (List.mem_of_getElem? hx)
        have HN : Hid (fewN L (p + 1) = fewN L p + (x.ks.length + x.text.size / 20)) := by unfold Hid; simp only [fewN, hx]
        have h1 := HF.out p
        have h2 : fewN L p ≤ 1250000000000000000 := by omega
        have h3 : x.ks.length ≤ 17592186044416 := by omega
        clear hL hx h1
        go_wp2
        go_roundw
        case rel => exact ⟨p + 1, hlt, by go_num, by rw [HN.out]; go_num, fw.alloc _⟩
        case measure => simp [intOf]; omega
      · have HE : Hid (p = len) := by unfold Hid; omega
        have HS : Hid (len + fewN L p ≤ 2000 → ∀ x ∈ L, x.text.size ≤ 200020) := fun h x hx => by
          obtain ⟨i, hi⟩ := List.mem_iff_getElem?.1 hx
          have := fewN_at L p i x (by have := (List.getElem?_eq_some_iff.1 hi).1; have := HL.out; have := HE.out; omega) hi
          omega
        have hf2 := HF.out p
        go_wp2
        go_ret
        refine ⟨⟨_, rfl, fun h _ => HS.out ?_⟩, fw⟩
        simp at h
        omega
set_option maxRecDepth 100000 in
set_option maxHeartbeats 1000000 in
theorem rLispC_any (B : Nat) (L : List T5.Nd) (w : World) (a : Option Addr) (len cap : Nat) (hlen : L.length = len) (hL : T5.NAt B w a L) (hm : len ≤ 2600000000000) (hB : B ≤ w.heap.size) (TT : Tabs w) (ht : (T5.checkL L).2 = 0 → ∀ x ∈ L, x.text.size ≤ 200020) (hp : ∀ x ∈ L, x.pl ≤ 9223372036854775807) :
    Calls Tryz.prog 11 #[.slice a len cap] w fun e w' => e = .returned (.tuple #[.string ⟨(lispO L).1.toArray⟩, .int .i64 ((lispO L).2 : Nat)]) ∧ Fr [] w w' := by
  by_cases h0 : (T5.checkL L).2 = 0
  · exact rLisp_any B L w a len cap hlen hL hm hB TT (ht h0) hp
  · have CC := T5.rcheck_any B L w a len cap hlen hL hm hB
    unfold T5.cOut at CC
    rcases hc : T5.checkL L with ⟨p, c⟩
    rw [hc] at CC h0
    simp only at h0
    have HO : Hid (lispO L = ([], c)) := by unfold Hid lispO; rw [hc]; simp only; rw [if_neg h0]
    have hc0 : ¬ ((c : Nat) : Int) = 0 := by omega
    clear hc h0 ht
    go_enter Tryz.func11, Tryz.ntmps11
    go_wp2_with fail
    refine CC.mono ?_
    rintro e w1 ⟨rfl, f1⟩
    go_wp2
    refine bodyPost_ret (results_tmp2 rfl _ _ _) rfl ⟨?_, f1⟩
    rw [HO.out]
    rfl
set_option maxRecDepth 100000 in
set_option maxHeartbeats 1000000 in
theorem showLisp_walk (L : List T5.Nd) (w : World) (a : Option Addr) (len cap : Nat) (hlen : L.length = len) (hL : T5.NAt w.heap.size w a L) (hm : len ≤ 2600000000000) (TT : Tabs w) (hz : ∀ x ∈ L, x.ks.length * 8 ≤ 140737488355328 ∧ x.text.size ≤ 140737488355328) (hp : ∀ x ∈ L, x.pl ≤ 9223372036854775807) :
    Calls Tryz.prog 4 #[.slice a len cap] w fun e w' => e = .returned (.bool true) ∧ Fr [] w w' := by
  have CA := awake7_any w TT
  go_enter Tryz.func4, Tryz.ntmps4
  go_wp2_with fail
  refine CA.mono ?_
  rintro e w1 ⟨rfl, f1⟩
  have CF := few7_any w.heap.size L w1 a len cap hlen (hL.fr f1 (by simp)) hm f1.size hz
  clear CA
  go_wp2_with fail
  refine CF.mono ?_
  rintro e w2 ⟨⟨v, rfl, hv⟩, f2⟩
  have F2 := f1.trans f2
  clear CF
  cases v with
  | false =>
    go_wp2
    go_ret
    exact ⟨rfl, F2⟩
  | true =>
    have C1 := showL_any w.heap.size L w2 a len cap hlen (hL.fr F2 (by simp)) hm F2.size (TT.fr F2 (by simp)) hp (hv rfl)
    have C2 := fun w3 (f : Fr [] w w3) => rLispC_any w.heap.size L w3 a len cap hlen (hL.fr f (by simp)) hm f.size (TT.fr f (by simp)) (hv rfl) hp
    generalize lispO L = R at C1 C2
    obtain ⟨S, q⟩ := R
    clear hL hz hp hv
    go_wp2_with fail
    refine C1.mono ?_
    rintro e w3 ⟨rfl, f3⟩
    have F3 := F2.trans f3
    have C3 := C2 w3 F3
    clear C1 C2
    go_wp2_with fail
    refine C3.mono ?_
    rintro e w4 ⟨rfl, f4⟩
    have F4 := F3.trans f4
    go_wp2
    go_ret
    exact ⟨by simp, F4⟩
end Go.Proofs.YtnebhkglpggnlaaGreatDoor
