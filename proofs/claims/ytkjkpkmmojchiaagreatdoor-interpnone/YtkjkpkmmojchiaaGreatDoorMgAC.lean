/-
  Texts of the proof, in their order: MaI, ActsA, MaJ, MaK, MaL, MaM; conditions: as each theorem says.
-/
import Derived.Test.YtkjkpkmmojchiaaGreatDoorMgAB
import Derived.Deep.WholeRow
import Derived.Test.YtkjkpkmmojchiaaGreatDoorHeapZc
import Derived.BigQuiet
namespace Go.Proofs.YtkjkpkmmojchiaaGreatDoor
open Go.RowKit
set_option linter.unusedVariables false
set_option linter.unusedSimpArgs false

def fv (n : Nat) : Value := .func (.func n) #[] #[]
def waysA : Array Value := #[.nilFunc, fv 87, fv 88, fv 89, fv 90, fv 91, fv 92, fv 93, fv 94, fv 95, fv 96, fv 97, fv 98, fv 99, fv 100, fv 101, fv 102, fv 103, fv 104, fv 105, fv 106, fv 107, fv 108, fv 109, fv 110, fv 111, fv 112, fv 113, fv 89]
def nil29 : Array Value := #[.nilFunc, .nilFunc, .nilFunc, .nilFunc, .nilFunc, .nilFunc, .nilFunc, .nilFunc, .nilFunc, .nilFunc, .nilFunc, .nilFunc, .nilFunc, .nilFunc, .nilFunc, .nilFunc, .nilFunc, .nilFunc, .nilFunc, .nilFunc, .nilFunc, .nilFunc, .nilFunc, .nilFunc, .nilFunc, .nilFunc, .nilFunc, .nilFunc, .nilFunc]
set_option maxRecDepth 100000 in
set_option maxHeartbeats 4000000 in
theorem ways_any (w : World) : Calls Tryz.prog 52 #[] w fun e w' => e = .returned (.agg waysA) ∧ Fr [] w w' := by
  have hn := heap_alloc_new w (.cells nil29 73)
  have hres : (w.alloc (.cells waysA 73)).heap[w.heap.size]? = some (.cells waysA 73 (0, 0)) := heap_alloc_new w _
  have hF : Fr [] w (w.alloc (.cells waysA 73)) := (Fr.refl _ _).alloc _
  have hset : (w.alloc (.cells nil29 73)).setRow w.heap.size waysA = w.alloc (.cells waysA 73) := World.setRow_alloc_new w nil29 waysA 73
  have HRES : Hid ((w.alloc (.cells waysA 73)).heap[w.heap.size]? = some (.cells waysA 73 (0, 0))) := hres
  have HFR : Hid (Fr [] w (w.alloc (.cells waysA 73))) := hF
  have HSET : Hid ((w.alloc (.cells nil29 73)).setRow w.heap.size waysA = w.alloc (.cells waysA 73)) := hset
  have HNN : Hid ((w.alloc (.cells nil29 73)).heap[w.heap.size]? = some (.cells nil29 73 (0, 0))) := hn
  clear hres hF hset hn
  have HO : Hid ((waysA.all (·.oneCell')) = true) := by simp [Hid, waysA, fv, Value.oneCell']
  go_enter Tryz.func52, Tryz.ntmps52
  go_wp2_with (refine wpList_store_row rfl 73 (.tmp 0) (.tmp 1) rfl w.heap.size waysA rfl rfl 73 nil29 HNN.out (by kernel_rfl) rfl HO.out ?_; rw [show (w.alloc (.cells #[.nilFunc, .nilFunc, .nilFunc, .nilFunc, .nilFunc, .nilFunc, .nilFunc, .nilFunc, .nilFunc, .nilFunc, .nilFunc, .nilFunc, .nilFunc, .nilFunc, .nilFunc, .nilFunc, .nilFunc, .nilFunc, .nilFunc, .nilFunc, .nilFunc, .nilFunc, .nilFunc, .nilFunc, .nilFunc, .nilFunc, .nilFunc, .nilFunc, .nilFunc] 73)).setRow w.heap.size waysA = w.alloc (.cells waysA 73) from HSET.out])
  refine bodyPost_ret (results_cell_row (by rfl) _ _ w.heap.size 73 _ (0, 0) _ rfl HRES.out Tryz.underlying73 rfl (by kernel_rfl)) rfl ⟨rfl, HFR.out⟩
end Go.Proofs.YtkjkpkmmojchiaaGreatDoor

namespace Go.Proofs.YtkjkpkmmojchiaaGreatDoor
open Go.RowKit

/-- Both heaps, with the same things, limit, taken cells and root. -/
structure JI (w : World) (B b r : Nat) (lim used rk rn : Int) (sv sr : Value) (T : List Thing) (U : List RT) : Prop where
  R : Rep w B b lim used sv rk rn T
  Q : RRep w B r lim used sr rk rn U
  same : T.map Thing.abs = U.map RT.abs
  apart : ∀ t, t ∈ T → ∀ u, u ∈ U → u.sl.ownBlock ≠ some t.rb
  sorts : Sorts U
  hl : 0 ≤ lim
  hu : 0 ≤ used
  hul : used ≤ lim
  hlm : lim ≤ 10000000

theorem JI.len {w : World} {B b r : Nat} {lim used rk rn : Int} {sv sr : Value} {T : List Thing} {U : List RT} (h : JI w B b r lim used rk rn sv sr T U) : T.length = U.length := by
  have := congrArg List.length h.same
  simpa using this

theorem JI.frame {S : List Nat} {w w' : World} {B b r : Nat} {lim used rk rn : Int} {sv sr : Value} {T : List Thing} {U : List RT} (h : JI w B b r lim used rk rn sv sr T U) (f : Fr S w w') (hS : ∀ k, k ∈ S → w.heap.size ≤ k) : JI w' B b r lim used rk rn sv sr T U :=
  ⟨h.R.frame f hS, h.Q.frame f hS, h.same, h.apart, h.sorts, h.hl, h.hu, h.hul, h.hlm⟩

/-- What the code's heap writes to is nothing of the reference's: its own block and its list of things. -/
theorem past_code {w : World} {B b r : Nat} {lim used lim' used' rk rn rk' rn' : Int} {sv sr : Value} {T : List Thing} {U : List RT} (R : Rep w B b lim used sv rk rn T) (Q : RRep w B r lim' used' sr rk' rn' U) : ∀ k, k ∈ rfoot r sr U → k ∉ b :: sv.ownBlock.toList := by
  intro k hk hm
  unfold rfoot at hk
  simp only [List.mem_cons, List.mem_append, Option.mem_toList, List.mem_flatMap] at hk hm
  rcases hm with rfl | hm
  · rcases hk with rfl | hk | ⟨u, hu, hk⟩
    · have e := Q.hb
      unfold RH at e
      have e2 := R.hb
      unfold HB at e2
      rw [e] at e2
      simp at e2
    · exact own_ne Q.row R.hb (by decide) hk
    · exact own_ne (Q.th u hu) R.hb (by decide) hk
  · rcases hk with rfl | hk | ⟨u, hu, hk⟩
    · exact own_ne R.row Q.hb (by decide) hm
    · exact own_ne2 R.row Q.row (by decide) k hm hk
    · exact own_ne2 R.row (Q.th u hu) (by decide) k hm hk

/-- Writes that are none of a heap's blocks leave it as it is. -/
theorem Rep.keeps {S : List Nat} {w w' : World} {B b : Nat} {lim used : Int} {sv : Value} {rk rn : Int} {T : List Thing} (R : Rep w B b lim used sv rk rn T) (f : Fr S w w') (h1 : b ∉ S) (h2 : ∀ k, sv.ownBlock = some k → k ∉ S) (h3 : ∀ t, t ∈ T → t.tb ∉ S ∧ t.rb ∉ S) : Rep w' B b lim used sv rk rn T :=
  ⟨R.hb.fr f h1, own_fr R.row f h2, fun t ht => (R.th t ht).fr f (h3 t ht).1 (h3 t ht).2, R.sep, R.base, R.rows⟩

/-- The reference's block and list of things are nothing of the code's. -/
theorem past_ref {S : List Nat} {w w' : World} {B b r : Nat} {lim used lim' used' rk rn rk' rn' : Int} {sv sr : Value} {T : List Thing} {U : List RT} (R : Rep w B b lim used sv rk rn T) (Q : RRep w B r lim' used' sr rk' rn' U) (f : Fr S w w') (hS : ∀ k, k ∈ S → k ∈ r :: sr.ownBlock.toList ∨ w.heap.size ≤ k) : Rep w' B b lim used sv rk rn T := by
  have key : ∀ {k : Nat} {c : Array Value} {e : TypeId} {z : Nat × Nat}, w.heap[k]? = some (.cells c e z) → e ≠ 100 → e ≠ 103 → k ∉ S := by
    intro k c e z hk h1 h2 hm
    have hlt := (Array.getElem?_eq_some_iff.1 hk).1
    rcases hS k hm with hm | hm
    · simp only [List.mem_cons, Option.mem_toList] at hm
      rcases hm with rfl | hm
      · exact Q.hb.ne_of hk h1 rfl
      · exact own_ne Q.row hk h2 hm
    · omega
  refine R.keeps f (key R.hb (by decide) (by decide)) ?_ ?_
  · intro k hk
    rcases R.row.2 with ⟨e, _⟩ | ⟨g, cap, cur, e, _, hgg, _⟩
    · rw [e] at hk; simp [Value.ownBlock] at hk
    · rw [e] at hk
      simp [Value.ownBlock] at hk
      subst hk
      exact key hgg (by decide) (by decide)
  · intro t ht
    refine ⟨?_, key (R.th t ht).row (by decide) (by decide)⟩
    have h1 := (R.th t ht).own
    unfold Thing.body at h1
    split at h1
    · exact key h1 (by decide) (by decide)
    · exact key h1 (by decide) (by decide)

/-- Both sides have laid a thing alike. -/
theorem JI.push {w w1 w2 : World} {B b r : Nat} {lim used used' rk rn : Int} {sv sr sv' sr' : Value} {T : List Thing} {U : List RT} {t : Thing} {u : RT} (h : JI w B b r lim used rk rn sv sr T U) (hu' : 0 ≤ used') (hul' : used' ≤ lim)
    (R1 : Rep w1 B b lim used' sv' rk rn (T ++ [t])) (f1 : Fr (b :: sv.ownBlock.toList) w w1) (ht : w.heap.size ≤ t.rb)
    (Q2 : RRep w2 B r lim used' sr' rk rn (U ++ [u])) (f2 : Fr (r :: sr.ownBlock.toList) w1 w2) (hu : ∀ k, u.sl.ownBlock = some k → w1.heap.size ≤ k) (e1 : t.abs = u.abs) (hs : -1 ≤ u.sort) : JI w2 B b r lim used' rk rn sv' sr' (T ++ [t]) (U ++ [u]) := by
  have Q1 : RRep w1 B r lim used sr rk rn U := h.Q.fr f1 (past_code h.R h.Q)
  refine ⟨past_ref R1 Q1 f2 (fun k hk => .inl hk), Q2, ?_, ?_, ?_, h.hl, hu', hul', h.hlm⟩
  · rw [List.map_append, List.map_append, h.same]
    simp [e1]
  · intro t' ht' u' hu'
    rcases List.mem_append.1 ht' with ht' | ht' <;> rcases List.mem_append.1 hu' with hu' | hu'
    · exact h.apart t' ht' u' hu'
    · simp at hu'
      subst hu'
      intro e
      have a1 := hu _ e
      have a2 := h.R.lt t'.rb (by unfold foot; simp only [List.mem_cons, List.mem_append, List.mem_map]; exact .inr (.inr ⟨t', ht', rfl⟩))
      have a3 := f1.size
      omega
    · simp at ht'
      subst ht'
      intro e
      have a1 := h.Q.lt _ (mem_flatMap_own hu' e r sr)
      omega
    · simp at ht' hu'
      subst ht' hu'
      intro e
      have a1 := hu _ e
      have a2 := R1.lt t'.rb (by unfold foot; simp)
      omega
  · intro v hv
    rcases List.mem_append.1 hv with hv | hv
    · exact h.sorts v hv
    · simp at hv
      subst hv
      exact hs
end Go.Proofs.YtkjkpkmmojchiaaGreatDoor

namespace Go.Proofs.YtkjkpkmmojchiaaGreatDoor
open Go.RowKit
set_option linter.unusedVariables false
set_option linter.unusedSimpArgs false

/-- A call: its function, where it is, its registers, where its value goes. -/
structure Fm where
  fn : Int
  pc : Int
  regs : List (Int × Int)
  into : Int
/-- What a run holds. -/
structure St where
  fr : List Fm
  O : List (Int × List (Int × Int))
  used : Int
  rk : Int
  rn : Int
  read : Nat
  out : List Int
  steps : Int
  done : Bool
  en : Int
  vk : Int
  vn : Int
  trap : Int
/-- What doesn't change in it. -/
structure Cf where
  F : List AF
  mn : Int
  mg : Int
  img : List Int
  inp : List Int
  lim : Int
  fuel : Int
  depth : Int
def mA (a30 a31 a32 a33 a34 a35 a36 a37 a38 a39 a40 a41 a42 a43 a44 a45 a46 a47 : Value) : Array Value := #[.bool true, .nilFunc, fv 87, fv 88, fv 89, fv 90, fv 91, fv 92, fv 93, fv 94, fv 95, fv 96, fv 97, fv 98, fv 99, fv 100, fv 101, fv 102, fv 103, fv 104, fv 105, fv 106, fv 107, fv 108, fv 109, fv 110, fv 111, fv 112, fv 113, fv 89, a30, a31, a32, a33, a34, a35, a36, a37, a38, a39, a40, a41, a42, a43, a44, a45, a46, a47]
/-- Where a machine's parts lie. -/
structure MP where
  mb : Nat
  hb : Nat
  sv : Value
  T : List Thing
  fv : Value
  fs : List Value
  ov : Value
  F : List Fu
  fa : Option Addr
  fc : Nat
  ia : Option Addr
  ic : Nat
  na : Option Addr
  nc : Nat
def frC (p : Fm × Value) : List Value := [.int .i64 p.1.fn, .int .i64 p.1.pc, p.2, .int .i64 p.1.into]
def frL (fr : List Fm) (fs : List Value) : List Value := (fr.zip fs).flatMap frC
def mCells (P : MP) (c : Cf) (s : St) (idle : Int) : Array Value := mA (.slice P.fa P.F.length P.fc) (.int .i64 c.mn) (.int .i64 c.mg) (.slice P.ia c.img.length P.ic) (.slice P.na c.inp.length P.nc) (.int .i64 c.fuel) (.int .i64 c.depth) (.pointer (some ⟨P.hb, 0, none⟩)) P.fv (.int .i64 s.read) P.ov (.int .i64 s.steps) (.int .i64 idle) (.bool s.done) (.int .i64 s.en) (.int .i64 s.vk) (.int .i64 s.vn) (.int .i64 s.trap)
/-- The parts but the machine's own block. -/
structure MR (w : World) (B : Nat) (P : MP) (c : Cf) (s : St) : Prop where
  rep : Rep w B P.hb c.lim s.used P.sv s.rk s.rn P.T
  abs : P.T.map Thing.abs = s.O
  lens : P.fs.length = s.fr.length
  row : w.ownsRow B 57 4 P.fv s.fr.length (frL s.fr P.fs)
  rg : ∀ (i : Nat) (f : Fm) (v : Value), s.fr[i]? = some f → P.fs[i]? = some v → w.ownsRow B 33 2 v f.regs.length (flat f.regs)
  sep : P.fs.Pairwise (fun u v => ∀ k, u.ownBlock = some k → v.ownBlock ≠ some k)
  sepT : ∀ v ∈ P.fs, ∀ k, v.ownBlock = some k → k ∉ P.T.map Thing.rb
  out : w.ownsRow B 2 1 P.ov s.out.length (s.out.map (Value.int .i64))
  code : FAt B w P.fa P.F
  cabs : P.F.map Fu.abs = c.F
  img : KAt B w P.ia c.img
  inp : KAt B w P.na c.inp
structure MAt (w : World) (B : Nat) (P : MP) (c : Cf) (s : St) (idle : Int) : Prop where
  blk : w.heap[P.mb]? = some (.cells (mCells P c s idle) 77 (0, 0))
  base : B ≤ P.mb
  r : MR w B P c s
/-- The blocks of the parts. -/
def rfootM (P : MP) : List Nat := P.hb :: (P.sv.ownBlock.toList ++ P.T.map Thing.tb ++ P.T.map Thing.rb ++ P.fv.ownBlock.toList ++ P.fs.flatMap (fun v => v.ownBlock.toList) ++ P.ov.ownBlock.toList)
def footM (P : MP) : List Nat := P.mb :: rfootM P
theorem mem_rfoot {P : MP} {k : Nat} : k ∈ rfootM P ↔ k = P.hb ∨ P.sv.ownBlock = some k ∨ (∃ t ∈ P.T, t.tb = k) ∨ (∃ t ∈ P.T, t.rb = k) ∨ P.fv.ownBlock = some k ∨ (∃ v ∈ P.fs, v.ownBlock = some k) ∨ P.ov.ownBlock = some k := by
  simp [rfootM, List.mem_append, List.mem_flatMap, or_assoc]
section
variable {w w' : World} {B : Nat} {P : MP} {c : Cf} {s : St} {idle : Int} {S : List Nat}
theorem MR.regs (h : MR w B P c s) {v : Value} (hv : v ∈ P.fs) : ∃ f ∈ s.fr, w.ownsRow B 33 2 v f.regs.length (flat f.regs) := by
  obtain ⟨i, hi⟩ := List.getElem?_of_mem hv
  have hl := (List.getElem?_eq_some_iff.1 hi).1
  rw [h.lens] at hl
  exact ⟨s.fr[i], List.getElem_mem _, h.rg i _ v (List.getElem?_eq_getElem hl) hi⟩
/-- The parts' blocks, by their types. -/
theorem MR.types (h : MR w B P c s) : ∀ k ∈ rfootM P, ∃ cs t z, w.heap[k]? = some (.cells cs t z) ∧ (t = 151 ∨ t = 143 ∨ t = 167 ∨ t = 169 ∨ t = 33 ∨ t = 57 ∨ t = 2) := by
  intro k hk
  have own : ∀ {e : TypeId} {sz n : Nat} {v : Value} {xs : List Value}, w.ownsRow B e sz v n xs → v.ownBlock = some k → ∃ cs, w.heap[k]? = some (.cells cs e (0, 0)) := by
    intro e sz n v xs ho hb
    rcases ho.2 with ⟨rfl, _⟩ | ⟨g, cap, cur, rfl, _, hgg, _⟩
    · simp [Value.ownBlock] at hb
    · simp [Value.ownBlock] at hb
      subst hb
      exact ⟨cur, hgg⟩
  rcases mem_rfoot.1 hk with rfl | hk | ⟨t, ht, rfl⟩ | ⟨t, ht, rfl⟩ | hk | ⟨v, hv, hk⟩ | hk
  · exact ⟨_, _, _, h.rep.hb, by simp⟩
  · obtain ⟨cs, e⟩ := own h.rep.row hk
    exact ⟨_, _, _, e, by simp⟩
  · have := (h.rep.th t ht).own
    unfold Thing.body at this
    split at this
    · exact ⟨_, _, _, this, by simp⟩
    · exact ⟨_, _, _, this, by simp⟩
  · exact ⟨_, _, _, (h.rep.th t ht).row, by simp⟩
  · obtain ⟨cs, e⟩ := own h.row hk
    exact ⟨_, _, _, e, by simp⟩
  · obtain ⟨f, _, ho⟩ := h.regs hv
    obtain ⟨cs, e⟩ := own ho hk
    exact ⟨_, _, _, e, by simp⟩
  · obtain ⟨cs, e⟩ := own h.out hk
    exact ⟨_, _, _, e, by simp⟩
theorem MR.lt (h : MR w B P c s) : ∀ k ∈ rfootM P, k < w.heap.size := fun k hk => by
  obtain ⟨_, _, _, e, _⟩ := h.types k hk
  exact (Array.getElem?_eq_some_iff.1 e).1
theorem MR.fr (h : MR w B P c s) (f : Fr S w w') (hS : ∀ k ∈ rfootM P, k ∉ S) (hB : ∀ k ∈ S, B ≤ k) : MR w' B P c s := by
  have m : ∀ {k}, (k = P.hb ∨ P.sv.ownBlock = some k ∨ (∃ t ∈ P.T, t.tb = k) ∨ (∃ t ∈ P.T, t.rb = k) ∨ P.fv.ownBlock = some k ∨ (∃ v ∈ P.fs, v.ownBlock = some k) ∨ P.ov.ownBlock = some k) → k ∉ S := fun hk => hS _ (mem_rfoot.2 hk)
  refine ⟨h.rep.keeps f (m (.inl rfl)) (fun k hk => m (.inr (.inl hk))) (fun t ht => ⟨m (.inr (.inr (.inl ⟨t, ht, rfl⟩))), m (.inr (.inr (.inr (.inl ⟨t, ht, rfl⟩))))⟩), h.abs, h.lens, own_fr h.row f (fun k hk => m (.inr (.inr (.inr (.inr (.inl hk)))))), fun i g v hi hv => own_fr (h.rg i g v hi hv) f (fun k hk => m (.inr (.inr (.inr (.inr (.inr (.inl ⟨v, List.mem_of_getElem? hv, hk⟩))))))), h.sep, h.sepT, own_fr h.out f (fun k hk => m (.inr (.inr (.inr (.inr (.inr (.inr hk))))))), h.code.fr f hB, h.cabs, h.img.fr f hB, h.inp.fr f hB⟩
theorem MAt.lt (h : MAt w B P c s idle) : ∀ k ∈ footM P, k < w.heap.size := fun k hk => by
  rcases List.mem_cons.1 hk with rfl | hk
  · exact (Array.getElem?_eq_some_iff.1 h.blk).1
  · exact h.r.lt k hk
theorem MAt.ne (h : MAt w B P c s idle) : P.mb ∉ rfootM P := fun hk => by
  obtain ⟨_, _, _, e, ht⟩ := h.r.types _ hk
  rw [h.blk] at e
  injection e with e
  injection e with e1 e2 e3
  subst e2
  simp at ht
theorem MAt.fr (h : MAt w B P c s idle) (f : Fr S w w') (hS : ∀ k ∈ footM P, k ∉ S) (hB : ∀ k ∈ S, B ≤ k) : MAt w' B P c s idle :=
  ⟨(f.block _ (Array.getElem?_eq_some_iff.1 h.blk).1 (hS _ (by simp [footM]))).trans h.blk, h.base, h.r.fr f (fun k hk => hS k (by simp [footM, hk])) hB⟩
theorem MAt.fr0 (h : MAt w B P c s idle) (f : Fr [] w w') : MAt w' B P c s idle := h.fr f (by simp) (by simp)
/-- A cell of the machine's own block is set. -/
theorem MAt.setM (h : MAt w B P c s idle) (i : Nat) (v : Value) {s' : St} {idle' : Int} (hA : (mCells P c s idle).setIfInBounds i v = mCells P c s' idle') (h1 : s'.fr = s.fr) (h2 : s'.O = s.O) (h3 : s'.used = s.used) (h4 : s'.rk = s.rk) (h5 : s'.rn = s.rn) (h6 : s'.out = s.out) : MAt (w.setCell ⟨P.mb, i, none⟩ v) B P c s' idle' := by
  have f : Fr [P.mb] w (w.setCell ⟨P.mb, i, none⟩ v) := (Fr.refl _ _).setCell (.inl (by simp)) _
  refine ⟨by rw [← hA]; exact set_cells i v h.blk, h.base, ?_⟩
  have r := h.r.fr f (fun k hk hm => by simp at hm; subst hm; exact h.ne hk) (by simp; exact h.base)
  exact ⟨by rw [h3, h4, h5]; exact r.rep, by rw [h2]; exact r.abs, by rw [h1]; exact r.lens, by rw [h1]; exact r.row, by rw [h1]; exact r.rg, r.sep, r.sepT, by rw [h6]; exact r.out, r.code, r.cabs, r.img, r.inp⟩
end
end Go.Proofs.YtkjkpkmmojchiaaGreatDoor

namespace Go.Proofs.YtkjkpkmmojchiaaGreatDoor
open Go.RowKit
set_option linter.unusedVariables false
set_option linter.unusedSimpArgs false

theorem frL_at : ∀ {fr : List Fm} {fs : List Value} {i : Nat} {f : Fm} {v : Value}, fr[i]? = some f → fs[i]? = some v → ∀ j, j < 4 → (frL fr fs)[i * 4 + j]? = (frC (f, v))[j]?
  | [], fs, i, f, v, h, h2, j, hj => by simp at h
  | p :: fr, [], i, f, v, h, h2, j, hj => by simp at h2
  | p :: fr, q :: fs, 0, f, v, h, h2, j, hj => by
    simp at h h2
    subst h
    subst h2
    unfold frL
    rw [List.zip_cons_cons, List.flatMap_cons, Nat.zero_mul, Nat.zero_add, List.getElem?_append_left (by simp [frC]; exact hj)]
  | p :: fr, q :: fs, i + 1, f, v, h, h2, j, hj => by
    have ih := frL_at (fr := fr) (fs := fs) (i := i) (f := f) (v := v) (by simpa using h) (by simpa using h2) j hj
    unfold frL at ih ⊢
    rw [List.zip_cons_cons, List.flatMap_cons, List.getElem?_append_right (by simp [frC]; omega), ← ih]
    congr 1
    simp [frC]
    omega
theorem frL_pc : ∀ {fr : List Fm} {fs : List Value} {i : Nat} {f : Fm} (f' : Fm), fr.length = fs.length → fr[i]? = some f → f'.fn = f.fn → f'.into = f.into → frL (fr.set i f') fs = (frL fr fs).set (i * 4 + 1) (.int .i64 f'.pc)
  | [], fs, i, f, f', hl, h, h1, h2 => by simp at h
  | p :: fr, [], i, f, f', hl, h, h1, h2 => by simp at hl
  | p :: fr, q :: fs, 0, f, f', hl, h, h1, h2 => by
    simp at h
    subst h
    simp [frL, frC, h1, h2]
  | p :: fr, q :: fs, i + 1, f, f', hl, h, h1, h2 => by
    have ih := frL_pc (fr := fr) (fs := fs) (i := i) (f := f) f' (by simpa using hl) (by simpa using h) h1 h2
    unfold frL at ih ⊢
    rw [show (i + 1) * 4 + 1 = (i * 4 + 1) + 4 by omega]
    simp only [List.set_cons_succ, List.zip_cons_cons, List.flatMap_cons, frC, List.cons_append, List.nil_append, ih]
theorem frL_len : ∀ {fr : List Fm} {fs : List Value}, fr.length = fs.length → (frL fr fs).length = fr.length * 4
  | [], fs, h => by simp [frL]
  | p :: fr, [], h => by simp at h
  | p :: fr, q :: fs, h => by
    have ih := frL_len (fr := fr) (fs := fs) (by simpa using h)
    unfold frL at ih ⊢
    rw [List.zip_cons_cons, List.flatMap_cons, List.length_append, ih]
    simp [frC]
    omega
def St.top (s : St) (f : Fm) : St := { s with fr := s.fr.set (s.fr.length - 1) f }
/-- Where the last call lies. -/
structure Top (w : World) (B : Nat) (P : MP) (s : St) (N g gc : Nat) (f : Fm) (v : Value) : Prop where
  len : s.fr.length = N + 1
  at_ : s.fr[N]? = some f
  vs : P.fs[N]? = some v
  fvs : P.fv = .slice (some ⟨g, 0, none⟩) (N + 1) gc
  c0 : w.cell? ⟨g, N * 4, none⟩ = some (.int .i64 f.fn)
  c1 : w.cell? ⟨g, N * 4 + 1, none⟩ = some (.int .i64 f.pc)
  c2 : w.cell? ⟨g, N * 4 + 2, none⟩ = some v
  c3 : w.cell? ⟨g, N * 4 + 3, none⟩ = some (.int .i64 f.into)
  fz : ∀ i, w.frozen? ⟨g, i, none⟩ = false
  gb : ∃ cur, w.heap[g]? = some (.cells cur 57 (0, 0))
  gB : B ≤ g
section
variable {w w' : World} {B : Nat} {P : MP} {c : Cf} {s : St} {idle : Int} {S : List Nat}
theorem MR.top (h : MR w B P c s) {N : Nat} {f : Fm} (hl : s.fr.length = N + 1) (hf : s.fr[N]? = some f) : ∃ g gc v, Top w B P s N g gc f v := by
  have hv : P.fs[N]? = some (P.fs[N]'(by rw [h.lens]; omega)) := List.getElem?_eq_getElem _
  generalize P.fs[N]'(by rw [h.lens]; omega) = v at hv
  have hr := h.row
  rw [hl] at hr
  obtain ⟨g, gc, e, k0, hz, hlt⟩ := own_cells hr (j := N * 4) (by simpa [frC] using frL_at hf hv 0 (by omega))
  obtain ⟨_, _, e1, k1, _⟩ := own_cells hr (j := N * 4 + 1) (by simpa [frC] using frL_at hf hv 1 (by omega))
  rw [e] at e1
  cases e1
  obtain ⟨_, _, e1, k2, _⟩ := own_cells hr (j := N * 4 + 2) (by simpa [frC] using frL_at hf hv 2 (by omega))
  rw [e] at e1
  cases e1
  obtain ⟨_, _, e1, k3, _⟩ := own_cells hr (j := N * 4 + 3) (by simpa [frC] using frL_at hf hv 3 (by omega))
  rw [e] at e1
  cases e1
  refine ⟨g, gc, v, hl, hf, hv, e, k0, k1, k2, k3, hz, ?_, ?_⟩
  · rw [e] at hr
    rcases hr.2 with ⟨e1, _⟩ | ⟨g', cap, cur, e1, _, hgg, _⟩
    · cases e1
    · cases e1; exact ⟨cur, hgg⟩
  · rw [e] at hr
    exact (hr.lt g rfl).1
theorem Top.fr {N g gc : Nat} {f : Fm} {v : Value} (h : Top w B P s N g gc f v) (k : Fr S w w') (hg : g ∉ S) : Top w' B P s N g gc f v := by
  obtain ⟨cur, hc⟩ := h.gb
  have hb := (k.block _ (Array.getElem?_eq_some_iff.1 hc).1 hg).trans hc
  exact ⟨h.len, h.at_, h.vs, h.fvs, k.cell1 h.c0 hg, k.cell1 h.c1 hg, k.cell1 h.c2 hg, k.cell1 h.c3 hg, fun i => by simp [World.frozen?, hb], ⟨cur, hb⟩, h.gB⟩
/-- The last call's place is another, and its registers are, where they lie. -/
theorem MR.moved (h : MR w B P c s) {N g gc : Nat} {f f' : Fm} {v : Value} (t : Top w B P s N g gc f v) (h1 : f'.fn = f.fn) (h2 : f'.into = f.into)
    (W : World) (hW : Fr (v.ownBlock.toList) w W) (hr : W.ownsRow B 33 2 v f'.regs.length (flat f'.regs)) : MR (W.setCell ⟨g, N * 4 + 1, none⟩ (.int .i64 f'.pc)) B P c (s.top f') := by
  have hB : ∀ k ∈ v.ownBlock.toList, B ≤ k := fun k hk => by simp at hk; exact ((h.rg N f v t.at_ t.vs).lt k hk).1
  have f2 : Fr [g] W (W.setCell ⟨g, N * 4 + 1, none⟩ (.int .i64 f'.pc)) := (Fr.refl _ _).setCell (.inl (by simp)) _
  have F : Fr (g :: v.ownBlock.toList) w (W.setCell ⟨g, N * 4 + 1, none⟩ (.int .i64 f'.pc)) := (hW.sub (fun k hk => .inl (by simp [hk]))).trans (f2.sub (fun k hk => .inl (by simp at hk; simp [hk])))
  have hBB : ∀ k ∈ g :: v.ownBlock.toList, B ≤ k := fun k hk => by
    rcases List.mem_cons.1 hk with rfl | hk
    · exact t.gB
    · exact hB k hk
  obtain ⟨cur, hc⟩ := t.gb
  have hrow := h.row
  rw [t.len, t.fvs] at hrow
  have hvr := h.rg N f v t.at_ t.vs
  have hgv : v.ownBlock ≠ some g := own_ne hvr hc (by decide)
  -- what is of another type than rows of values and of calls
  have oth : ∀ {k cs} {e : TypeId} {z : Nat × Nat}, w.heap[k]? = some (.cells cs e z) → e ≠ 57 → e ≠ 33 → k ∉ g :: v.ownBlock.toList := by
    intro k cs e z hk e1 e2 hm
    rcases List.mem_cons.1 hm with rfl | hm
    · rw [hc] at hk
      injection hk with hk
      injection hk with _ hk _
      exact e1 hk.symm
    · simp at hm
      exact own_ne hvr hk e2 hm
  have othR : ∀ {e : TypeId} {sz n : Nat} {u : Value} {xs : List Value}, w.ownsRow B e sz u n xs → e ≠ 57 → e ≠ 33 → ∀ k, u.ownBlock = some k → k ∉ g :: v.ownBlock.toList := by
    intro e sz n u xs ho e1 e2 k hk
    rcases ho.2 with ⟨rfl, _⟩ | ⟨g', cap, cur', rfl, _, hgg, _⟩
    · simp [Value.ownBlock] at hk
    · simp [Value.ownBlock] at hk
      subst hk
      exact oth hgg e1 e2
  have hln : (s.top f').fr.length = N + 1 := by simp [St.top, t.len]
  refine ⟨?_, h.abs, by rw [hln, h.lens, t.len], ?_, ?_, h.sep, h.sepT, own_fr h.out F (othR h.out (by decide) (by decide)), h.code.fr F hBB, h.cabs, h.img.fr F hBB, h.inp.fr F hBB⟩
  · refine h.rep.keeps F (oth h.rep.hb (by decide) (by decide)) (othR h.rep.row (by decide) (by decide)) (fun x hx => ⟨?_, ?_⟩)
    · have hb := (h.rep.th x hx).own
      unfold Thing.body at hb
      split at hb
      · exact oth hb (by decide) (by decide)
      · exact oth hb (by decide) (by decide)
    · intro hm
      rcases List.mem_cons.1 hm with e | hm
      · have hb := (h.rep.th x hx).row
        rw [e, hc] at hb
        injection hb with hb
        injection hb with _ hb _
        cases hb
      · simp at hm
        exact h.sepT v (List.mem_of_getElem? t.vs) _ hm (List.mem_map_of_mem hx)
  · rw [hln, t.fvs]
    have e : (s.top f').fr = s.fr.set N f' := by simp [St.top, t.len]
    rw [e, frL_pc f' (by rw [h.lens]) t.at_ h1 h2]
    have h0 : W.ownsRow B 57 4 (.slice (some ⟨g, 0, none⟩) (N + 1) gc) (N + 1) (frL s.fr P.fs) := own_fr hrow hW (fun k hk hm => by
      simp [Value.ownBlock] at hk
      subst hk
      simp at hm
      exact hgv hm)
    exact own_set h0 _ _ (by omega)
  · intro i x u hi hu
    have e : (s.top f').fr = s.fr.set N f' := by simp [St.top, t.len]
    rw [e] at hi
    by_cases ei : i = N
    · subst ei
      rw [List.getElem?_set_self (by rw [t.len]; omega)] at hi
      cases hi
      rw [t.vs] at hu
      cases hu
      exact ownsRow_setCell_other hr hgv _
    · rw [List.getElem?_set_ne (Ne.symm ei)] at hi
      have ho := h.rg i x u hi hu
      refine own_fr ho F (fun k hk hm => ?_)
      rcases List.mem_cons.1 hm with rfl | hm
      · exact own_ne ho hc (by decide) hk
      · simp at hm
        obtain ⟨hli, hgi⟩ := List.getElem?_eq_some_iff.1 hu
        obtain ⟨hlN, hgN⟩ := List.getElem?_eq_some_iff.1 t.vs
        have hp := List.pairwise_iff_getElem.1 h.sep
        rcases Nat.lt_or_gt_of_ne ei with lt | gt
        · exact hp i N hli hlN lt k (by rw [hgi]; exact hk) (by rw [hgN]; exact hm)
        · exact hp N i hlN hli gt k (by rw [hgN]; exact hm) (by rw [hgi]; exact hk)
end
end Go.Proofs.YtkjkpkmmojchiaaGreatDoor

namespace Go.Proofs.YtkjkpkmmojchiaaGreatDoor
open Go.RowKit
set_option linter.unusedVariables false
set_option linter.unusedSimpArgs false

section
variable {w : World} {B : Nat} {P : MP} {c : Cf} {s : St} {idle : Int}
set_option maxRecDepth 100000 in
theorem alive_mk (h : MAt w B P c s idle) : Calls Tryz.prog 69 #[.pointer (some ⟨P.mb, 0, none⟩)] w fun e w' => e = .returned (.bool true) ∧ w' = w := by
  have c0 : w.cell? ⟨P.mb, 0, none⟩ = some (.bool true) := at_cells h.blk 0 rfl
  clear h
  go_enter Tryz.func69, Tryz.ntmps69
  go_wp2
  go_ret
  exact ⟨rfl, rfl⟩
set_option maxRecDepth 100000 in
theorem goesOn_mk (h : MAt w B P c s idle) : Calls Tryz.prog 58 #[.pointer (some ⟨P.mb, 0, none⟩)] w fun e w' => e = .returned (.bool (!s.done)) ∧ w' = w := by
  have C := alive_mk h
  have c43 : w.cell? ⟨P.mb, 43, none⟩ = some (.bool s.done) := at_cells h.blk 43 rfl
  clear h
  go_enter Tryz.func58, Tryz.ntmps58
  go_wp2_with (go_at_call 69; refine C.mono ?_; rintro e w' ⟨rfl, hw⟩; rw [hw])
  go_ret
  exact ⟨rfl, rfl⟩
set_option maxRecDepth 100000 in
set_option maxHeartbeats 1000000 in
theorem last_mk (h : MAt w B P c s idle) {N g gc : Nat} {f : Fm} {v : Value} (t : Top w B P s N g gc f v) (hN : N ≤ 1000000) : Calls Tryz.prog 68 #[.pointer (some ⟨P.mb, 0, none⟩)] w fun e w' => e = .returned (.pointer (some ⟨g, N * 4, none⟩)) ∧ Fr [] w w' := by
  have c38 : w.cell? ⟨P.mb, 38, none⟩ = some P.fv := at_cells h.blk 38 rfl
  rw [t.fvs] at c38
  have hNI : (N : Int) ≤ 1000000 := by omega
  clear h t
  go_enter Tryz.func68, Tryz.ntmps68
  go_wp2
  go_quiet (fail)
  go_wp2
  go_ret
  exact ⟨rfl, (Fr.refl _ _).drewN _⟩
/-- The next instruction, and where it lies. -/
structure Ins (w : World) (B : Nat) (P : MP) (f : Fm) (fu : Fu) (x : In) (fb fo ib io i j : Nat) : Prop where
  fn : f.fn = i
  pc : f.pc = j
  fus : P.F[i]? = some fu
  xs : fu.code[j]? = some x
  fa : P.fa = some ⟨fb, fo, none⟩
  fc : w.cell? ⟨fb, fo + i * 4 + 3, none⟩ = some (.slice (some ⟨ib, io, none⟩) fu.code.length fu.cc)
  ic : ICell B w ib (io + j * 6) x
  ibB : ib < B
  fbB : fb < B
theorem MR.ins (h : MR w B P c s) {f : Fm} {i j : Nat} {fu : Fu} {x : In} (h1 : f.fn = i) (h2 : f.pc = j) (h3 : P.F[i]? = some fu) (h4 : fu.code[j]? = some x) : ∃ fb fo ib io, Ins w B P f fu x fb fo ib io i j := by
  obtain ⟨fb, fo, e1, hb, hc⟩ := h.code i fu h3
  obtain ⟨ib, io, e2, hb2, hc2⟩ := hc.ok.k j x h4
  exact ⟨fb, fo, ib, io, h1, h2, h3, h4, e1, by have := hc.c3; rw [e2] at this; exact this, hc2, hb2, hb⟩
theorem Ins.fr {w' : World} {S : List Nat} {f : Fm} {fu : Fu} {x : In} {fb fo ib io i j : Nat} (h : Ins w B P f fu x fb fo ib io i j) (k : Fr S w w') (hS : ∀ k ∈ S, B ≤ k) : Ins w' B P f fu x fb fo ib io i j :=
  ⟨h.fn, h.pc, h.fus, h.xs, h.fa, k.cell1 h.fc (fun hm => by have := hS _ hm; have := h.fbB; simp at *; omega), h.ic.fr k h.ibB hS, h.ibB, h.fbB⟩
set_option maxRecDepth 100000 in
set_option maxHeartbeats 2000000 in
theorem here_mk (h : MAt w B P c s idle) {N g gc : Nat} {f : Fm} {v : Value} (t : Top w B P s N g gc f v) (hN : N ≤ 1000000) {fu : Fu} {x : In} {fb fo ib io i j : Nat} (q : Ins w B P f fu x fb fo ib io i j) (hF : P.F.length ≤ 2000000) (hc : fu.code.length ≤ 2000000) :
    Calls Tryz.prog 74 #[.pointer (some ⟨P.mb, 0, none⟩)] w fun e w' => e = .returned (.pointer (some ⟨ib, io + j * 6, none⟩)) ∧ Fr [] w w' := by
  have C := last_mk h t hN
  have k30 : ∀ w', Fr [] w w' → w'.cell? ⟨P.mb, 30, none⟩ = some (.slice (some ⟨fb, fo, none⟩) P.F.length P.fc) := fun w' f' => by rw [← q.fa]; exact f'.cell1 (at_cells h.blk 30 rfl) (by simp)
  have kf : ∀ w', Fr [] w w' → w'.cell? ⟨fb, fo + i * 4 + 3, none⟩ = some (.slice (some ⟨ib, io, none⟩) fu.code.length fu.cc) := fun w' f' => f'.cell1 q.fc (by simp)
  have k0 : ∀ w', Fr [] w w' → w'.cell? ⟨g, N * 4, none⟩ = some (.int .i64 (i : Int)) := fun w' f' => by rw [← q.fn]; exact f'.cell1 t.c0 (by simp)
  have k1 : ∀ w', Fr [] w w' → w'.cell? ⟨g, N * 4 + 1, none⟩ = some (.int .i64 (j : Int)) := fun w' f' => by rw [← q.pc]; exact f'.cell1 t.c1 (by simp)
  have hi : (i : Int) < P.F.length := by have := (List.getElem?_eq_some_iff.1 q.fus).1; omega
  have hj : (j : Int) < fu.code.length := by have := (List.getElem?_eq_some_iff.1 q.xs).1; omega
  have hFI : (P.F.length : Int) ≤ 2000000 := by omega
  have hcI : (fu.code.length : Int) ≤ 2000000 := by omega
  clear h t q
  go_enter Tryz.func74, Tryz.ntmps74
  go_wp2_with fail
  with_reducible (refine C.mono ?_)
  rintro e W ⟨rfl, f1⟩
  have a0 := k30 W f1
  have a1 := kf W f1
  have a2 := k0 W f1
  have a3 := k1 W f1
  have HF : Hid (Fr [] w W) := f1
  clear C k30 kf k0 k1 f1
  go_wp2
  go_quiet (fail)
  go_wp2
  go_ret
  exact ⟨rfl, HF.out.drewN _⟩
end
end Go.Proofs.YtkjkpkmmojchiaaGreatDoor

namespace Go.Proofs.YtkjkpkmmojchiaaGreatDoor
open Go.RowKit
set_option linter.unusedVariables false
set_option linter.unusedSimpArgs false

def Fm.wr (f : Fm) (a : Nat) (k m : Int) : Fm := { f with regs := f.regs.set a (k, m), pc := f.pc + 1 }
def Fm.go (f : Fm) : Fm := { f with pc := f.pc + 1 }
/-- What an instruction comes to: its ending, and how the machine lies. -/
def DoP (w : World) (B : Nat) (P : MP) (c : Cf) (s : St) (idle : Int) (e0 e : Ending) (w' : World) : Prop := e = e0 ∧ ∃ P', MAt w' B P' c s idle ∧ P'.mb = P.mb ∧ P'.F = P.F ∧ P'.fa = P.fa ∧ P'.fc = P.fc ∧ Fr (footM P) w w' ∧ (∀ k ∈ footM P', k ∈ footM P ∨ w.heap.size ≤ k)
abbrev okE : Ending := .returned (.tuple #[])
section
variable {w : World} {B : Nat} {P : MP} {c : Cf} {s : St} {idle : Int}
/-- A register of the last call. -/
theorem MR.reg (h : MR w B P c s) {N g gc : Nat} {f : Fm} {v : Value} (t : Top w B P s N g gc f v) {a : Nat} {u : Int × Int} (ha : f.regs[a]? = some u) : ∃ rb rc, v = .slice (some ⟨rb, 0, none⟩) f.regs.length rc ∧ w.cell? ⟨rb, a * 2, none⟩ = some (.int .i64 u.1) ∧ w.cell? ⟨rb, a * 2 + 1, none⟩ = some (.int .i64 u.2) ∧ (∀ i, w.frozen? ⟨rb, i, none⟩ = false) ∧ B ≤ rb ∧ g ≠ rb := by
  have ho := h.rg N f v t.at_ t.vs
  obtain ⟨rb, rc, e, k0, hz, _⟩ := own_cells ho (flat_at _ _ _ ha).1
  obtain ⟨_, _, e1, k1, _⟩ := own_cells ho (flat_at _ _ _ ha).2
  rw [e] at e1
  cases e1
  refine ⟨rb, rc, e, k0, k1, hz, (ho.lt rb (by rw [e]; rfl)).1, ?_⟩
  rintro rfl
  obtain ⟨cur, hc⟩ := t.gb
  exact own_ne ho hc (by decide) (by rw [e]; rfl)
theorem Top.foot {N g gc : Nat} {f : Fm} {v : Value} (t : Top w B P s N g gc f v) : g ∈ footM P ∧ ∀ k, v.ownBlock = some k → k ∈ footM P := by
  refine ⟨?_, fun k hk => ?_⟩
  · exact List.mem_cons_of_mem _ (mem_rfoot.2 (.inr (.inr (.inr (.inr (.inl (by rw [t.fvs]; rfl)))))))
  · exact List.mem_cons_of_mem _ (mem_rfoot.2 (.inr (.inr (.inr (.inr (.inr (.inl ⟨v, List.mem_of_getElem? t.vs, hk⟩)))))))
theorem MAt.moved (h : MAt w B P c s idle) {N g gc : Nat} {f f' : Fm} {v : Value} (t : Top w B P s N g gc f v) (h1 : f'.fn = f.fn) (h2 : f'.into = f.into)
    (W : World) (hW : Fr (v.ownBlock.toList) w W) (hr : W.ownsRow B 33 2 v f'.regs.length (flat f'.regs)) : MAt (W.setCell ⟨g, N * 4 + 1, none⟩ (.int .i64 f'.pc)) B P c (s.top f') idle ∧ Fr (footM P) w (W.setCell ⟨g, N * 4 + 1, none⟩ (.int .i64 f'.pc)) := by
  have hF : Fr (footM P) w (W.setCell ⟨g, N * 4 + 1, none⟩ (.int .i64 f'.pc)) := (hW.sub (fun k hk => .inl (t.foot.2 k (by simpa using hk)))).setCell (.inl t.foot.1) _
  refine ⟨⟨?_, h.base, h.r.moved t h1 h2 W hW hr⟩, hF⟩
  have hne : P.mb ∉ v.ownBlock.toList := fun hm => h.ne (mem_rfoot.2 (.inr (.inr (.inr (.inr (.inr (.inl ⟨v, List.mem_of_getElem? t.vs, by simpa using hm⟩)))))))
  have hng : P.mb ≠ g := fun e => h.ne (mem_rfoot.2 (.inr (.inr (.inr (.inr (.inl (by rw [t.fvs, e]; rfl)))))))
  exact (Below.heap_setCell _ _ _ _ hng).trans ((hW.block _ (Array.getElem?_eq_some_iff.1 h.blk).1 hne).trans h.blk)
theorem MAt.wrote (h : MAt w B P c s idle) {N g gc : Nat} {f : Fm} {v : Value} (t : Top w B P s N g gc f v) {a rb rc : Nat} (ha : a < f.regs.length) (hv : v = .slice (some ⟨rb, 0, none⟩) f.regs.length rc) (k m : Int) :
    MAt (wrW w rb a k m g (N * 4) f.pc) B P c (s.top (f.wr a k m)) idle ∧ Fr (footM P) w (wrW w rb a k m g (N * 4) f.pc) := by
  subst hv
  have f0 : Fr [rb] w (w.alloc (.cells #[.int .i64 k, .int .i64 m] 33)).drew := ((Fr.refl _ _).alloc _).drew
  have ho := own_fr (h.r.rg N f _ t.at_ t.vs) ((Fr.refl [] w).alloc (.cells #[.int .i64 k, .int .i64 m] 33)).drew (by simp)
  refine h.moved t (f' := f.wr a k m) rfl rfl (((w.alloc (.cells #[.int .i64 k, .int .i64 m] 33)).drew.setCell ⟨rb, a * 2, none⟩ (.int .i64 k)).setCell ⟨rb, a * 2 + 1, none⟩ (.int .i64 m)) ?_ ?_
  · exact (f0.setCell (.inl (by simp)) _).setCell (.inl (by simp)) _
  · have e1 : (f.wr a k m).regs.length = f.regs.length := by simp [Fm.wr]
    have e2 : flat (f.wr a k m).regs = ((flat f.regs).set (a * 2) (.int .i64 k)).set (a * 2 + 1) (.int .i64 m) := flat_set _ _ _
    rw [e1, e2]
    exact own_set (own_set ho _ _ (by omega)) _ _ (by omega)
theorem written_mk (h : MAt w B P c s idle) {N g gc : Nat} {f : Fm} {v : Value} (t : Top w B P s N g gc f v) {fu : Fu} {x : In} {fb fo ib io i j : Nat} (q : Ins w B P f fu x fb fo ib io i j) {a : Nat} (hx : x.a = a) (ha : a < f.regs.length) (hr : f.regs.length ≤ 1000) (hj : j ≤ 2000000) (k m : Int) :
    Calls Tryz.prog 134 #[.pointer (some ⟨g, N * 4, none⟩), .pointer (some ⟨ib, io + j * 6, none⟩), .agg #[.int .i64 k, .int .i64 m], .int .i64 0] w (DoP w B P c (s.top (f.wr a k m)) idle okE) := by
  have hu : f.regs[a]? = some f.regs[a] := List.getElem?_eq_getElem ha
  obtain ⟨rb, rc, e, k0, k1, hz, hB, hne⟩ := h.r.reg t hu
  have C := written_ok w g (N * 4) ib (io + j * 6) rb f.regs.length rc a k m f.pc t.c1 (by rw [← e]; exact t.c2) (by rw [← hx]; exact q.ic.c1) ha (by omega) ⟨_, k0⟩ ⟨_, k1⟩ hz (t.fz _) hne (by have := q.ibB; omega) (by rw [q.pc]; omega) (by rw [q.pc]; omega)
  refine C.mono fun e' w' ⟨h1, h2⟩ => ?_
  subst h2
  obtain ⟨hm, hf⟩ := h.wrote t ha e k m
  exact ⟨h1, P, hm, rfl, rfl, rfl, rfl, hf, fun k hk => .inl hk⟩
set_option maxRecDepth 100000 in
set_option maxHeartbeats 1000000 in
theorem doNum_mk (h : MAt w B P c s idle) {N g gc : Nat} {f : Fm} {v : Value} (t : Top w B P s N g gc f v) {fu : Fu} {x : In} {fb fo ib io i j : Nat} (q : Ins w B P f fu x fb fo ib io i j) {a : Nat} (hx : x.a = a) (ha : a < f.regs.length) (hr : f.regs.length ≤ 1000) (hj : j ≤ 2000000) :
    Calls Tryz.prog 87 #[.pointer (some ⟨P.mb, 0, none⟩), .pointer (some ⟨g, N * 4, none⟩), .pointer (some ⟨ib, io + j * 6, none⟩)] w (DoP w B P c (s.top (f.wr a 0 x.k)) idle okE) := by
  have C := written_mk h t q hx ha hr hj 0 x.k
  have c4 := q.ic.c4
  generalize (s.top (f.wr a 0 x.k)) = s' at *
  clear h t q
  go_enter Tryz.func87, Tryz.ntmps87
  go_wp2_with fail
  with_reducible (refine C.mono ?_)
  rintro e W ⟨rfl, hp⟩
  go_wp2
  go_end0
  exact ⟨rfl, hp⟩
end
end Go.Proofs.YtkjkpkmmojchiaaGreatDoor
