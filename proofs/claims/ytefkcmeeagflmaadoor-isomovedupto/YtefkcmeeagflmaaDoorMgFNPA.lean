/-
  Texts of the proof, in their order: IsoQ, IsoR, IsoS, IsoT, IsoU; conditions: as each says.
-/
import Derived.Maps.OwnIn
import Derived.Test.YtefkcmeeagflmaaDoorMgDLBD
namespace Go.Proofs.YtefkcmeeagflmaaDoor
open Go.RowKit Go.Shelf Go.Maps

theorem law2 : Keyed Tryd.prog 2 := int_keyed Tryd.underlying2
theorem under112 : Tryd.prog.underlying 112 = some (.map 2 118) := by kernel_rfl
theorem zero118 (w : World) : (zeroValue 118).run Tryd.prog w = .ok (.agg #[]) w := by kernel_rfl

/-- A set of numbers. -/
def SetAt (W : World) (mb n : Nat) (m : Int → Bool) : Prop :=
  ∃ D : DataW Unit, W.ownsMap Tryd.prog 2 unitElem mb n D ∧ ∀ k, (Lit.int .i64 k).wf = true → Maps.has D (.int .i64 k) = m k

theorem SetAt.fr {S : List Nat} {W W' : World} {mb n : Nat} {m : Int → Bool} (h : SetAt W mb n m) (g : Fr S W W') (hS : mb ∉ S) : SetAt W' mb n m := by
  obtain ⟨D, ⟨es, clock, hb, r⟩, hD⟩ := h
  exact ⟨D, ⟨es, clock, (g.block mb (Array.getElem?_eq_some_iff.1 hb).1 hS).trans hb, r⟩, hD⟩

theorem SetAt.map {W : World} {mb n : Nat} {m : Int → Bool} (h : SetAt W mb n m) : ∃ es c, W.heap[mb]? = some (.map es c) := by
  obtain ⟨D, ⟨es, clock, hb, _⟩, _⟩ := h
  exact ⟨es, clock, hb⟩

theorem SetAt.put {W W0 : World} {mb n : Nat} {m : Int → Bool} {D : DataW Unit} (h0 : W0.ownsMap Tryd.prog 2 unitElem mb n D) (hD : ∀ k, (Lit.int .i64 k).wf = true → Maps.has D (.int .i64 k) = m k)
    {k : Int} (hk : (Lit.int .i64 k).wf = true) (h : W.ownsMap Tryd.prog 2 unitElem mb (n + 1) (D.put (.int .i64 k) (.agg []))) : SetAt W mb (n + 1) (fun j => decide (j = k) || m j) := by
  refine ⟨_, h, fun j hj => ?_⟩
  have hi := h0.isMap
  have hkey := law2.key (keyOf_int_mk Tryd.underlying2 hk)
  by_cases e : j = k
  · subst e
    simp [has_put_same hi hkey]
  · have hne : (Lit.int .i64 j) ≠ Lit.int .i64 k := fun h' => e (by injection h')
    rw [has_put_other hne, hD j hj]
    simp [e]

/-- A value, read off its cells. -/
def decV : List Value → Int × Int
  | [.int _ a, .int _ b] => (a, b)
  | _ => (0, 0)

/-- Values, by their cells. -/
def valsL (l : List (Int × Int)) : List (List Value) := l.map fun c => [.int .i64 c.1, .int .i64 c.2]

theorem valsL_flat : ∀ l : List (Int × Int), (valsL l).flatten = flat l
  | [] => rfl
  | c :: l => by
      have := valsL_flat l
      simp only [valsL, List.map_cons, List.flatten_cons, flat] at this ⊢
      rw [this]
      rfl
theorem valsL_ok (l : List (Int × Int)) (h : ∀ c, c ∈ l → (Lit.int .i64 c.2).wf = true) : ∀ x, x ∈ valsL l → okV x := by
  intro x hx
  simp only [valsL, List.mem_map] at hx
  obtain ⟨c, hc, rfl⟩ := hx
  exact ⟨_, _, rfl, h c hc⟩

/-- One round of things: what is met, the caller's state, how many rounds there were. -/
def stepT {σ : Type} (A : List (Int × List (Int × Int))) (stepY : σ → Int → Option σ) (s : (Int → Bool) × σ × Nat) (x : List Value) : Option (((Int → Bool) × σ × Nat) × List (List Value)) :=
  if s.1 (decV x).2 = true ∨ (decV x).1 ≠ 2 then some ((s.1, s.2.1, s.2.2 + 1), [])
  else match thingAt A (decV x) with
    | none => some ((s.1, s.2.1, s.2.2 + 1), [])
    | some o => match stepY s.2.1 (decV x).2 with
      | none => none
      | some y => some ((fun j => decide (j = (decV x).2) || s.1 j, y, s.2.2 + 1), valsL o.2)

theorem stepT_cnt {σ : Type} (A : List (Int × List (Int × Int))) (stepY : σ → Int → Option σ) : ∀ s x s' more, stepT A stepY s x = some (s', more) → s'.2.2 = s.2.2 + 1 := by
  intro s x s' more h
  unfold stepT at h
  split at h
  · simp at h; rw [← h.1]
  · split at h
    · simp at h; rw [← h.1]
    · split at h
      · simp at h
      · simp at h; rw [← h.1]

/-- A block that the caller's rounds may write to. -/
def Yr (Nr Ni bh : Nat) (W : World) (k : Nat) : Prop := Nr ≤ k ∧ k ≠ bh ∧ (k < Ni ∨ ∃ c z, W.heap[k]? = some (.cells c 2 z))

/-- A block that things itself may write to. -/
def Mn (Ni : Nat) (W : World) (k : Nat) : Prop := Ni ≤ k ∧ ∀ c z, W.heap[k]? ≠ some (.cells c 2 z)

/-- What things keeps from round to round. -/
structure TG {σ : Type} (GY : σ → World → Prop) (cy : σ → Nat) (Wr : World) (Nr Ni h bh ky yl mb km ka bx D : Nat) (s : (Int → Bool) × σ × Nat) (W : World) : Prop where
  F : Fr [] Wr W
  M : SetAt W mb s.2.2 s.1
  hp : W.heap[bh]? = some (.cells #[.pointer (some ⟨h, 0, none⟩)] 26 (0, 0))
  yb : W.heap[ky]? = some (.cells #[.func (.yield yl) #[] #[]] 111 (0, 0))
  mm : W.heap[km]? = some (.cells #[.map (some mb)] 112 (0, 0))
  add : W.heap[ka]? = some (.cells #[.func (.func 57) #[] #[.pointer (some ⟨bx, 0, none⟩)]] 113 (0, 0))
  dfr : W.heap[D]? = some (.deferred (some []))
  G : GY s.2.1 W
  cnt : cy s.2.1 ≤ s.2.2
  own : Ni ≤ mb ∧ Ni ≤ ky ∧ Ni ≤ km ∧ Ni ≤ ka ∧ Ni ≤ D ∧ Nr ≤ Ni ∧ bh < Ni

/-- things' own writes. -/
theorem TG.mine {σ : Type} {GY : σ → World → Prop} {cy : σ → Nat} {Wr : World} {Nr Ni h bh ky yl mb km ka bx D : Nat} {s : (Int → Bool) × σ × Nat} {W W' : World} (t : TG GY cy Wr Nr Ni h bh ky yl mb km ka bx D s W)
    (hGY : ∀ s W W' S, GY s W → Fr S W W' → (∀ k, k ∈ S → Mn Ni W k) → GY s W') (hNr : Wr.heap.size ≤ Nr) {S : List Nat} (f : Fr S W W') (hS : ∀ k, k ∈ S → Mn Ni W k) (h1 : mb ∉ S) (h2 : ky ∉ S) (h3 : km ∉ S) (h4 : ka ∉ S) (h5 : D ∉ S) : TG GY cy Wr Nr Ni h bh ky yl mb km ka bx D s W' := by
  have hbh : bh ∉ S := fun hm => by have := (hS _ hm).1; have := t.own.2.2.2.2.2.2; omega
  refine ⟨((t.F.sub (T := S) (by simp)).trans f).sub (fun k hk => .inr ?_), t.M.fr f h1, (f.block _ (Array.getElem?_eq_some_iff.1 t.hp).1 hbh).trans t.hp, (f.block _ (Array.getElem?_eq_some_iff.1 t.yb).1 h2).trans t.yb, (f.block _ (Array.getElem?_eq_some_iff.1 t.mm).1 h3).trans t.mm,
    (f.block _ (Array.getElem?_eq_some_iff.1 t.add).1 h4).trans t.add, (f.block _ (Array.getElem?_eq_some_iff.1 t.dfr).1 h5).trans t.dfr, hGY _ _ _ _ t.G f hS, t.cnt, t.own⟩
  have := (hS k hk).1
  have := t.own.2.2.2.2.2.1
  omega

theorem TG.stk {σ : Type} {GY : σ → World → Prop} {cy : σ → Nat} {Wr : World} {Nr Ni h bh ky yl mb km ka bx D B : Nat} {s : (Int → Bool) × σ × Nat} {W W' : World} {sv : Value} {L : List Seg} (t : TG GY cy Wr Nr Ni h bh ky yl mb km ka bx D s W)
    (hGY : ∀ s W W' S, GY s W → Fr S W W' → (∀ k, k ∈ S → Mn Ni W k) → GY s W') (hNr : Wr.heap.size ≤ Nr) (k : Stk 136 23 okV W B bx sv L) (hB : Ni ≤ B) (f : Fr (bx :: sv.ownBlock.toList) W W') : TG GY cy Wr Nr Ni h bh ky yl mb km ka bx D s W' := by
  obtain ⟨es, c, hb⟩ := t.M.map
  refine t.mine hGY hNr f (fun j hj => ?_) (k.far hb (by simp) (by simp)) (k.far t.yb (by simp) (by simp)) (k.far t.mm (by simp) (by simp)) (k.far t.add (by simp) (by simp)) (k.far t.dfr (by simp) (by simp))
  simp only [List.mem_cons, Option.mem_toList] at hj
  rcases hj with rfl | hj
  · refine ⟨by have := k.base; omega, fun c z e => ?_⟩
    rw [k.box] at e
    simp at e
  · refine ⟨by have := (k.row.lt j hj).1; omega, fun c z e => ?_⟩
    exact own_ne k.row e (by decide) hj

/-- The caller's writes. -/
theorem TG.yours {σ : Type} {GY : σ → World → Prop} {cy : σ → Nat} {Wr : World} {Nr Ni h bh ky yl mb km ka bx D : Nat} {s : (Int → Bool) × σ × Nat} {y : σ} {W W' : World} (t : TG GY cy Wr Nr Ni h bh ky yl mb km ka bx D s W) (hNr : Wr.heap.size ≤ Nr)
    {S : List Nat} (f : Fr S W W') (hS : ∀ k, k ∈ S → Yr Nr Ni bh W k) (hy : GY y W') (hcy : cy y ≤ s.2.2) : TG GY cy Wr Nr Ni h bh ky yl mb km ka bx D (s.1, y, s.2.2) W' := by
  have key : ∀ {k : Nat} {o : Obj}, Ni ≤ k → W.heap[k]? = some o → (∀ c z, o ≠ .cells c 2 z) → k ∉ S := by
    intro k o h1 h2 h3 hm
    rcases (hS k hm).2.2 with h | ⟨c, z, h⟩
    · omega
    · rw [h2] at h
      simp at h
      exact h3 _ _ h
  obtain ⟨es, c, hb⟩ := t.M.map
  have o := t.own
  refine ⟨((t.F.sub (T := S) (by simp)).trans f).sub (fun k hk => .inr (by have := (hS k hk).1; omega)), t.M.fr f (key o.1 hb (by simp)), (f.block _ (Array.getElem?_eq_some_iff.1 t.hp).1 (fun hm => (hS _ hm).2.1 rfl)).trans t.hp, (f.block _ (Array.getElem?_eq_some_iff.1 t.yb).1 (key o.2.1 t.yb (by simp))).trans t.yb,
    (f.block _ (Array.getElem?_eq_some_iff.1 t.mm).1 (key o.2.2.1 t.mm (by simp))).trans t.mm, (f.block _ (Array.getElem?_eq_some_iff.1 t.add).1 (key o.2.2.2.1 t.add (by simp))).trans t.add, (f.block _ (Array.getElem?_eq_some_iff.1 t.dfr).1 (key o.2.2.2.2.1 t.dfr (by simp))).trans t.dfr, hy, hcy, t.own⟩
end Go.Proofs.YtefkcmeeagflmaaDoor
namespace Go.Proofs.YtefkcmeeagflmaaDoor
open Go.RowKit Go.Shelf Go.Maps
attribute [local go_sem] Oper.semAt_some store_func

theorem add_val {W : World} {B bx : Nat} {sv : Value} {L : List Seg} (h : Stk 136 23 okV W B bx sv L) (a : Option Addr) (n c : Nat) (xs : List (Int × Int)) (hn : xs.length = n) (hl : Lies W a xs) (hc : n ≤ c) (hw : ∀ x, x ∈ xs → (Lit.int .i64 x.2).wf = true) (hoff : ∀ ad, a = some ad → 0 < n → ad.block ≠ bx ∧ sv.ownBlock ≠ some ad.block) (hL : L.length ≤ 1000000000000) :
    Calls Tryd.prog 57 #[.slice a n c, .pointer (some ⟨bx, 0, none⟩)] W fun e W' => e = .returned (.tuple #[]) ∧ ∃ sv' L', Stk 136 23 okV W' B bx sv' L' ∧ pend L' = valsL xs ++ pend L ∧ L'.length ≤ L.length + 1 ∧ Fr (bx :: sv.ownBlock.toList) W W' ∧ ∀ t, t ∈ L' → t ∈ L ∨ ∃ ad, a = some ad ∧ 0 < n ∧ t.g = ad.block := by
  cases xs with
  | nil =>
    simp at hn
    subst hn
    refine (add2_none W a c bx).mono ?_
    rintro e W' ⟨rfl, rfl⟩
    exact ⟨rfl, sv, L, h, rfl, by omega, Fr.refl _ _, fun t ht => .inl ht⟩
  | cons x r =>
    obtain ⟨g, o, e, h0, _⟩ := hl.at (j := 0) (x := x) rfl
    subst e
    have hp : 0 < n := by rw [← hn]; simp
    have ho := hoff _ rfl hp
    have hcell : ∀ j u, (valsL (x :: r)).flatten[j]? = some u → W.cell? ⟨g, o + j, none⟩ = some u := fun j u hu => by
      obtain ⟨ad, e, hc⟩ := hl (by simp)
      injection e with e
      subst e
      rw [valsL_flat] at hu
      have := hc j u hu
      rwa [Addr.add_lit] at this
    have hlen : (valsL (x :: r)).length = n := by simpa [valsL] using hn
    have hv : (Seg.mk g o c (valsL (x :: r))).val = .slice (some ⟨g, o, none⟩) n c := by simp [Seg.val, hlen]
    rw [← hv]
    refine (add2 h ⟨g, o, c, valsL (x :: r)⟩ hcell ⟨by simp [valsL], by rw [hlen]; exact hc, valsL_ok _ hw⟩ ⟨ho.1, ho.2, World.block_lt_of_cell? W _ h0⟩ hL).mono ?_
    rintro e W' ⟨rfl, sv', hk, hf⟩
    refine ⟨rfl, sv', _, hk, by rw [pend_snoc], by simp, hf, fun t ht => ?_⟩
    rcases List.mem_append.1 ht with h1 | h1
    · exact .inl h1
    · simp at h1
      subst h1
      exact .inr ⟨_, rfl, hp, rfl⟩

/-- How the caller's round ends. -/
def YEnd {σ : Type} (GY : σ → World → Prop) (OutY : World → Prop) : Option σ → Ending → World → Prop
  | none, e, W => e = .returned (.bool false) ∧ OutY W
  | some y, e, W => e = .returned (.bool true) ∧ GY y W

/-- How all things are told. -/
def TEnd {σ : Type} (GY : σ → World → Prop) (OutY : World → Prop) : Option ((Int → Bool) × σ × Nat) → World → Prop
  | none, W => OutY W
  | some s, W => GY s.2.1 W

/-- In which blocks lists of values lie. -/
def inReg (Nr Ni : Nat) (W : World) (g : Nat) : Prop := g < Nr ∨ (Ni ≤ g ∧ ∃ c z, W.heap[g]? = some (.cells c 45 z))

theorem inReg.stk {Nr Ni B bx : Nat} {X Y : World} {sv : Value} {L : List Seg} {g : Nat} (h : inReg Nr Ni X g) (k : Stk 136 23 okV X B bx sv L) (f : Fr (bx :: sv.ownBlock.toList) X Y) : inReg Nr Ni Y g := by
  rcases h with h | ⟨h0, c, z, h⟩
  · exact .inl h
  · exact .inr ⟨h0, c, z, (f.block g (Array.getElem?_eq_some_iff.1 h).1 (k.far h (by simp) (by simp))).trans h⟩

set_option maxRecDepth 100000 in
set_option maxHeartbeats 4000000 in
theorem things1 {σ : Type} (stepY : σ → Int → Option σ) (GY : σ → World → Prop) (OutY : World → Prop) {Wr : World} {Bh h : Nat} {lim used rk rn : Int} {svh : Value} {T : List Thing} (R : Rep Wr Bh h lim used svh rk rn T) (fT : Fine T)
    (xs : List (Int × Int)) (a1 : Option Addr) (n c1 : Nat) (hxn : xs.length = n) (hl : Lies Wr a1 xs) (hc1 : n ≤ c1) (hwx : ∀ x, x ∈ xs → (Lit.int .i64 x.2).wf = true)
    (Wi : World) (bl bh yl : Nat) (Fi : Fr [] Wr Wi) (hbl : Wi.heap[bl]? = some (.cells #[.slice a1 n c1] 23 (0, 0))) (hbh : Wi.heap[bh]? = some (.cells #[.pointer (some ⟨h, 0, none⟩)] 26 (0, 0))) (y0 : σ) (G0 : GY y0 Wi) (cy : σ → Nat) (hcy0 : cy y0 = 0) (hcy : ∀ y k y', stepY y k = some y' → cy y' ≤ cy y + 1) (n0 : Nat) (hn0 : n0 ≤ 100000000)
    (hGY : ∀ s W W' S, GY s W → Fr S W W' → (∀ k, k ∈ S → Mn Wi.heap.size W k) → GY s W') (hOut : ∀ W W' S, OutY W → Fr S W W' → (∀ k, k ∈ S → Mn Wi.heap.size W k) → OutY W')
    (hY : ∀ y k W, GY y W → cy y < n0 → Fr [] Wr W → (Lit.int .i64 k).wf = true → YieldAt Fence.wide 0 Tryd.prog yl #[.int .i64 k] W fun e W' => (∃ S, Fr S W W' ∧ ∀ j, j ∈ S → Yr Wr.heap.size Wi.heap.size bh W j) ∧ YEnd GY OutY (stepY y k) e W')
    (res : Option ((Int → Bool) × σ × Nat)) (hrun : run (stepT (T.map Thing.abs) stepY) n0 (fun _ => false, y0, 0) (valsL xs) = some res) :
    CallsIn Fence.wide 0 Tryd.prog 46 #[.func (.yield yl) #[] #[], .pointer (some ⟨bl, 0, none⟩), .pointer (some ⟨bh, 0, none⟩)] Wi fun e W' => (∃ v, e = .returned v) ∧ Fr [] Wr W' ∧ TEnd GY OutY res W' := by
  have hmm := @run_makeMap Tryd.prog
  refine callsIn_of_wp_marks (n := 0) Tryd.func46 rfl trivial ?_ rfl
  simp only [Tryd.ntmps46, List.size_toArray, List.length_cons, List.length_nil, Nat.reduceAdd, Nat.reduceSub, Array.replicate_succ, Array.replicate_zero, List.push_toArray, List.append_toArray, List.nil_append, List.cons_append]
  gi_wp2
  have F0 : Fr [] Wi (((Wi.alloc (.cells #[.func (.yield yl) #[] #[]] 111)).alloc (.map #[] 0)).alloc (.cells #[.map (some (Wi.heap.size + 1))] 112)) := (((Fr.refl _ _).alloc _).alloc _).alloc _
  have M0 : SetAt (((Wi.alloc (.cells #[.func (.yield yl) #[] #[]] 111)).alloc (.map #[] 0)).alloc (.cells #[.map (some (Wi.heap.size + 1))] 112)) (Wi.heap.size + 1) 0 (fun _ => false) := by
    refine ⟨.map [], ?_, fun k _ => rfl⟩
    have := (World.ownsMap_made (H := Unit) (Wi.alloc (.cells #[.func (.yield yl) #[] #[]] 111)) Tryd.prog 2 unitElem).alloc (.cells #[.map (some (Wi.heap.size + 1))] 112)
    rwa [World.size_alloc] at this
  have R0 : (((Wi.alloc (.cells #[.func (.yield yl) #[] #[]] 111)).alloc (.map #[] 0)).alloc (.cells #[.map (some (Wi.heap.size + 1))] 112)).heap[Wi.heap.size]? = some (.cells #[.func (.yield yl) #[] #[]] 111 (0, 0)) := by
    rw [Below.heap_alloc _ _ _ (by simp; omega), Below.heap_alloc _ _ _ (by simp)]
    exact heap_alloc_new Wi _
  have T0 : (((Wi.alloc (.cells #[.func (.yield yl) #[] #[]] 111)).alloc (.map #[] 0)).alloc (.cells #[.map (some (Wi.heap.size + 1))] 112)).heap[Wi.heap.size + 1 + 1]? = some (.cells #[.map (some (Wi.heap.size + 1))] 112 (0, 0)) := by
    have := heap_alloc_new ((Wi.alloc (.cells #[.func (.yield yl) #[] #[]] 111)).alloc (.map #[] 0)) (.cells #[.map (some (Wi.heap.size + 1))] 112)
    simpa using this
  have hsz : (((Wi.alloc (.cells #[.func (.yield yl) #[] #[]] 111)).alloc (.map #[] 0)).alloc (.cells #[.map (some (Wi.heap.size + 1))] 112)).heap.size = Wi.heap.size + 3 := by simp
  generalize ((Wi.alloc (.cells #[.func (.yield yl) #[] #[]] 111)).alloc (.map #[] 0)).alloc (.cells #[.map (some (Wi.heap.size + 1))] 112) = w0 at *
  refine ⟨trivial, rfl, (callsIn_wide.2 (waiting2 w0 (Wi.heap.size + 3) (by omega))).mono ?_⟩
  rintro e w1 ⟨rfl, rfl, K1⟩
  rw [hsz] at K1 ⊢
  have F1 := F0.alloc (.cells #[.slice none 0 0] 136)
  have M1 := M0.fr ((Fr.refl [] w0).alloc (.cells #[.slice none 0 0] 136)) (by simp)
  have R1 := (((Fr.refl [] w0).alloc (.cells #[.slice none 0 0] 136)).block _ (Array.getElem?_eq_some_iff.1 R0).1 (by simp)).trans R0
  have T1 := (((Fr.refl [] w0).alloc (.cells #[.slice none 0 0] 136)).block _ (Array.getElem?_eq_some_iff.1 T0).1 (by simp)).trans T0
  have hsz1 : (w0.alloc (.cells #[.slice none 0 0] 136)).heap.size = Wi.heap.size + 4 := by simp [hsz]
  generalize w0.alloc (.cells #[.slice none 0 0] 136) = w1 at *
  have HZ1 : Hid (w1.heap.size = Wi.heap.size + 4) := hsz1
  clear hsz1 hsz
  have g2' : ∀ o, Fr [] w1 (w1.alloc o) := fun o => (Fr.refl _ _).alloc o
  have cl := fun o => at_cells (((F1.trans (g2' o)).block _ (Array.getElem?_eq_some_iff.1 hbl).1 (by simp)).trans hbl) 0 (u := .slice a1 n c1) rfl
  gi_wp2
  have A2 : (w1.alloc (.cells #[.func (.func 57) #[] #[.pointer (some ⟨Wi.heap.size + 3, 0, none⟩)]] 113)).heap[w1.heap.size]? = some (.cells #[.func (.func 57) #[] #[.pointer (some ⟨Wi.heap.size + 3, 0, none⟩)]] 113 (0, 0)) := heap_alloc_new w1 _
  have g2 := g2' (.cells #[.func (.func 57) #[] #[.pointer (some ⟨Wi.heap.size + 3, 0, none⟩)]] 113)
  have F2 := F1.trans g2
  have M2 := M1.fr g2 (by simp)
  have R2 := (g2.block _ (Array.getElem?_eq_some_iff.1 R1).1 (by simp)).trans R1
  have T2 := (g2.block _ (Array.getElem?_eq_some_iff.1 T1).1 (by simp)).trans T1
  have K2 := K1.frame g2
  clear cl g2'
  generalize w1.alloc (.cells #[.func (.func 57) #[] #[.pointer (some ⟨Wi.heap.size + 3, 0, none⟩)]] 113) = w2 at *
  obtain ⟨ka, hka⟩ : ∃ ka, w1.heap.size = ka := ⟨_, rfl⟩
  rw [hka] at A2 ⊢
  have hs2 : Wi.heap.size + 5 ≤ w2.heap.size := by have := (Array.getElem?_eq_some_iff.1 A2).1; have := HZ1.out; omega
  have hWri : Wr.heap.size ≤ Wi.heap.size := Fi.size
  clear F1 M1 R1 T1 K1 F0 M0 R0 T0 g2
  refine ⟨trivial, rfl, (callsIn_wide.2 (add_val K2 a1 n c1 xs hxn (hl.fr (Fi.trans F2) (by simp)) hc1 hwx ?_ (by simp))).mono ?_⟩
  · intro ad e hp
    have hlt : ad.block < Wr.heap.size := by
      obtain ⟨ad', e', hc⟩ := hl (by omega)
      rw [e] at e'
      injection e' with e'
      subst e'
      cases xs with
      | nil => simp at hxn; omega
      | cons x r =>
        have := World.block_lt_of_cell? Wr _ (hc 0 (.int .i64 x.1) (by simp [flat]))
        simpa [add_block] using this
    exact ⟨by omega, by simp [Value.ownBlock]⟩
  rintro e w4 ⟨rfl, sv4, L4, K4, p4, l4, g4, seg4⟩
  have pend4 : pend L4 = valsL xs := by rw [p4]; simp [pend]
  obtain ⟨es2, clock2, hmb2⟩ := M2.map
  have M4 := M2.fr g4 (K2.far hmb2 (by simp) (by simp))
  have R4 := (g4.block _ (Array.getElem?_eq_some_iff.1 R2).1 (K2.far R2 (by simp) (by simp))).trans R2
  have T4 := (g4.block _ (Array.getElem?_eq_some_iff.1 T2).1 (K2.far T2 (by simp) (by simp))).trans T2
  have A4 := (g4.block _ (Array.getElem?_eq_some_iff.1 A2).1 (K2.far A2 (by simp) (by simp))).trans A2
  have F4 : Fr [] Wi w4 := ((F2.sub (T := [Wi.heap.size + 3]) (by simp)).trans (g4.sub (fun k hk => .inl (by simpa [Value.ownBlock] using hk)))).sub (fun k hk => .inr (by simp at hk; omega))
  have reg4 : ∀ t, t ∈ L4 → t.g < Wr.heap.size := by
    intro t ht
    rcases seg4 t ht with h1 | ⟨ad, e, hp, h1⟩
    · simp at h1
    · rw [h1]
      obtain ⟨ad', e', hc⟩ := hl (by omega)
      rw [e] at e'
      injection e' with e'
      subst e'
      cases xs with
      | nil => simp at hxn; omega
      | cons x r =>
        have := World.block_lt_of_cell? Wr _ (hc 0 (.int .i64 x.1) (by simp [flat]))
        simpa [add_block] using this
  clear hmb2 g4 A2 R2 T2 M2 K2 F2 p4 seg4
  gi_wp2
  refine range_outer (gf := 58) (lb := #[.pointer (some ⟨Wi.heap.size + 3, 0, none⟩)]) rfl (enters_of Tryd.func58 (by kernel_rfl) rfl) ?_
  intro rec hYr
  show CallsIn Fence.wide 0 Tryd.prog 58 #[.func (.yield (w4.heap.size + 1)) #[] #[], .pointer (some ⟨Wi.heap.size + 3, 0, none⟩)] _ _
  have f5 : Fr [] w4 ((w4.alloc (.deferred (some []))).alloc (.loop (rec .ready none))) := ((Fr.refl _ _).alloc _).alloc _
  have hL5 := blk2 w4 (.deferred (some [])) (.loop (rec .ready none))
  have hD5 : ((w4.alloc (.deferred (some []))).alloc (.loop (rec .ready none))).heap[w4.heap.size]? = some (.deferred (some [])) := (Below.heap_alloc _ _ _ (by simp)).trans (heap_alloc_new w4 _)
  have K5 := K4.frame f5
  have hWl : Wi.heap.size + 5 ≤ w4.heap.size := by have := (Array.getElem?_eq_some_iff.1 A4).1; have := HZ1.out; omega
  have hbhl := (Array.getElem?_eq_some_iff.1 hbh).1
  have G5 : TG GY cy Wr Wr.heap.size Wi.heap.size h bh Wi.heap.size yl (Wi.heap.size + 1) (Wi.heap.size + 1 + 1) ka (Wi.heap.size + 3) w4.heap.size (fun _ => false, y0, 0) ((w4.alloc (.deferred (some []))).alloc (.loop (rec .ready none))) :=
    ⟨Fi.trans (F4.trans f5), M4.fr f5 (by simp), (((F4.trans f5).block _ hbhl (by simp))).trans hbh, (f5.block _ (Array.getElem?_eq_some_iff.1 R4).1 (by simp)).trans R4, (f5.block _ (Array.getElem?_eq_some_iff.1 T4).1 (by simp)).trans T4, (f5.block _ (Array.getElem?_eq_some_iff.1 A4).1 (by simp)).trans A4, hD5, hGY _ _ _ [] G0 (F4.trans f5) (by simp), by simp [hcy0], by have := HZ1.out; omega⟩
  generalize (w4.alloc (.deferred (some []))).alloc (.loop (rec .ready none)) = w5 at *
  generalize w4.heap.size = D at *
  have hka2 : Wi.heap.size ≤ ka := by have := HZ1.out; omega
  refine (all2 (stepT (T.map Thing.abs) stepY) (TG GY cy Wr Wr.heap.size Wi.heap.size h bh Wi.heap.size yl (Wi.heap.size + 1) (Wi.heap.size + 1 + 1) ka (Wi.heap.size + 3) D)
    (fun W' => W'.heap[D + 1]? = some (.loop (rec .done (some .ret))) ∧ Fr [] Wr W' ∧ OutY W' ∧ W'.heap[D]? = some (.deferred (some [])))
    (fun W' => W'.heap[D + 1]? = some (.loop (rec .ready none))) (inReg Wr.heap.size Wi.heap.size) (D + 1) (Wi.heap.size + 3) (Wi.heap.size + 3) (fun sv L X Y g hg hk hf => hg.stk hk hf) (fun s => s.2.2) n0 (stepT_cnt _ _)
    (fun s sv L X Y hg hk hf => hg.stk hGY (Nat.le_refl _) hk (by omega) hf) (fun sv L X Y hr hk hf => (hf.block _ (Array.getElem?_eq_some_iff.1 hr).1 (hk.far hr (by simp) (by simp))).trans hr)
    ?_ w5 (fun _ => false, y0, 0) sv4 L4 G5 hL5 K5 n0 res (by rw [pend4]; exact hrun) (by simp) (by simpa using l4) (fun t ht => .inl (reg4 t ht))).mono ?_
  · intro s x X sv L hg hr hk hc hlL hrg hx
    obtain ⟨p0, p1, rfl, hw1⟩ := hx
    refine hYr _ X _ rfl hr ?_
    clear hYr
    gi_wp2
    have fX : Fr [] X (X.alloc (.cells #[.int .i64 p0, .int .i64 p1] 45)) := (Fr.refl _ _).alloc _
    have hr1 := (fX.block _ (Array.getElem?_eq_some_iff.1 hr).1 (by simp)).trans hr
    have hp1 : (X.alloc (.cells #[.int .i64 p0, .int .i64 p1] 45)).heap[X.heap.size]? = some (.cells #[.int .i64 p0, .int .i64 p1] 45) := heap_alloc_new X _
    refine ⟨hr1, ?_⟩
    have mL : ∀ (X : World) (r : Loop), X.heap[D + 1]? = some (.loop r) → ∀ k, k ∈ [D + 1] → Mn Wi.heap.size X k := by
      intro X r hX k hk
      simp only [List.mem_singleton] at hk
      subst hk
      exact ⟨by omega, fun c z e => by rw [hX] at e; simp at e⟩
    have tgp : ∀ (q : (Int → Bool) × σ × Nat) (X : World) (r : Loop) (o : Obj), X.heap[D + 1]? = some (.loop r) → TG GY cy Wr Wr.heap.size Wi.heap.size h bh Wi.heap.size yl (Wi.heap.size + 1) (Wi.heap.size + 1 + 1) ka (Wi.heap.size + 3) D q X →
        TG GY cy Wr Wr.heap.size Wi.heap.size h bh Wi.heap.size yl (Wi.heap.size + 1) (Wi.heap.size + 1 + 1) ka (Wi.heap.size + 3) D q (X.putObj (D + 1) o) := by
      intro q X r o hX ht
      obtain ⟨es, c, hb⟩ := ht.M.map
      refine ht.mine hGY (Nat.le_refl _) (Fr.putObj o) (mL X r hX) ?_ ?_ ?_ ?_ ?_ <;> simp only [List.mem_singleton] <;> intro e
      · rw [e, hX] at hb; simp at hb
      · have := ht.yb; rw [e, hX] at this; simp at this
      · have := ht.mm; rw [e, hX] at this; simp at this
      · have := ht.add; rw [e, hX] at this; simp at this
      · omega
    have rgp : ∀ (X : World) (r : Loop) (o : Obj) (g : Nat), X.heap[D + 1]? = some (.loop r) → inReg Wr.heap.size Wi.heap.size X g → inReg Wr.heap.size Wi.heap.size (X.putObj (D + 1) o) g := by
      intro X r o g hX hg
      rcases hg with hg | ⟨h0, c, z, hg⟩
      · exact .inl hg
      · refine .inr ⟨h0, c, z, (World.putObj_heap_other ?_).trans hg⟩
        intro e
        rw [e, hX] at hg
        simp at hg
    have tga : ∀ (q : (Int → Bool) × σ × Nat) (X X' : World), Fr [] X X' → TG GY cy Wr Wr.heap.size Wi.heap.size h bh Wi.heap.size yl (Wi.heap.size + 1) (Wi.heap.size + 1 + 1) ka (Wi.heap.size + 3) D q X →
        TG GY cy Wr Wr.heap.size Wi.heap.size h bh Wi.heap.size yl (Wi.heap.size + 1) (Wi.heap.size + 1 + 1) ka (Wi.heap.size + 3) D q X' := fun q X X' f ht => ht.mine hGY (Nat.le_refl _) f (by simp) (by simp) (by simp) (by simp) (by simp) (by simp)
    have rga : ∀ (X X' : World) (g : Nat), Fr [] X X' → inReg Wr.heap.size Wi.heap.size X g → inReg Wr.heap.size Wi.heap.size X' g := by
      intro X X' g f hg
      rcases hg with hg | ⟨h0, c, z, hg⟩
      · exact .inl hg
      · exact .inr ⟨h0, c, z, (f.block _ (Array.getElem?_eq_some_iff.1 hg).1 (by simp)).trans hg⟩
    have hg1 := tgp s _ _ (.loop (rec .busy none)) hr1 (tga s _ _ fX hg)
    have hk1 := (hk.frame fX).putObj okV_ne hr1 (.loop (rec .busy none))
    have hrg1 : ∀ t, t ∈ L → inReg Wr.heap.size Wi.heap.size ((X.alloc (.cells #[.int .i64 p0, .int .i64 p1] 45)).putObj (D + 1) (.loop (rec .busy none))) t.g := fun t ht => rgp _ _ _ _ hr1 (rga _ _ _ fX (hrg t ht))
    have hb1 := World.putObj_heap_same (w := X.alloc (.cells #[.int .i64 p0, .int .i64 p1] 45)) (r := D + 1) (o := .loop (rec .busy none)) (Array.getElem?_eq_some_iff.1 hr1).1
    have hp2 := (World.putObj_heap_other (w := X.alloc (.cells #[.int .i64 p0, .int .i64 p1] 45)) (r := D + 1) (k := X.heap.size) (o := .loop (rec .busy none)) (by have := (Array.getElem?_eq_some_iff.1 hr).1; omega)).trans hp1
    generalize (X.alloc (.cells #[.int .i64 p0, .int .i64 p1] 45)).putObj (D + 1) (.loop (rec .busy none)) = X1 at *
    generalize X.heap.size = kp at *
    clear hr1 hp1 hk hg hr fX hrg
    have m0 := at_cells hg1.mm 0 (u := .map (some (Wi.heap.size + 1))) rfl
    have v0 := at_cells hp2 0 rfl
    have v1 := at_cells hp2 1 rfl
    -- what is left where nothing comes of it
    have fin : ∀ (X' : World) (a' : Act), Fr [] X1 X' → stepT (T.map Thing.abs) stepY s [.int .i64 p0, .int .i64 p1] = some ((s.1, s.2.1, s.2.2 + 1), []) →
        RoundEnd (D + 1) rec (RoundedR 136 23 okV (Wi.heap.size + 3) (Wi.heap.size + 3) (inReg Wr.heap.size Wi.heap.size) (TG GY cy Wr Wr.heap.size Wi.heap.size h bh Wi.heap.size yl (Wi.heap.size + 1) (Wi.heap.size + 1 + 1) ka (Wi.heap.size + 3) D)
          (fun W' => W'.heap[D + 1]? = some (.loop (rec .ready none))) (fun W' => W'.heap[D + 1]? = some (.loop (rec .done (some .ret))) ∧ Fr [] Wr W' ∧ OutY W' ∧ W'.heap[D]? = some (.deferred (some []))) (pend L) L.length
          (stepT (T.map Thing.abs) stepY s [.int .i64 p0, .int .i64 p1])) .normal a' X' := by
      intro X' a' f hst
      have hb2 := (f.block _ (Array.getElem?_eq_some_iff.1 hb1).1 (by simp)).trans hb1
      refine ⟨hb2, ?_⟩
      rw [hst]
      have t2 := tgp s X' _ (.loop (rec .ready none)) hb2 (tga s X1 X' f hg1)
      have t3 : TG GY cy Wr Wr.heap.size Wi.heap.size h bh Wi.heap.size yl (Wi.heap.size + 1) (Wi.heap.size + 1 + 1) ka (Wi.heap.size + 3) D (s.1, s.2.1, s.2.2 + 1) (X'.putObj (D + 1) (.loop (rec .ready none))) := by
        obtain ⟨DD, hown, hDD⟩ := t2.M
        exact ⟨t2.F, ⟨DD, hown.mono (by simp), hDD⟩, t2.hp, t2.yb, t2.mm, t2.add, t2.dfr, t2.G, by have := t2.cnt; simp; omega, t2.own⟩
      exact ⟨rfl, t3, World.putObj_heap_same (Array.getElem?_eq_some_iff.1 hb2).1, sv, L, (hk1.frame f).putObj okV_ne hb2 _, by simp, by omega, fun t ht => rgp _ _ _ _ hb2 (rga _ _ _ f (hrg1 t ht))⟩
    obtain ⟨DD, hown, hDD⟩ := hg1.M
    have hh := hDD p1 hw1
    have fE : Fr [] X1 (X1.alloc (.cells #[] 118)) := (Fr.refl _ _).alloc _
    by_cases hmet : s.1 p1 = true
    · have hst : stepT (T.map Thing.abs) stepY s [.int .i64 p0, .int .i64 p1] = some ((s.1, s.2.1, s.2.2 + 1), []) := by
        unfold stepT
        rw [if_pos (.inl hmet)]
      rw [hmet] at hh
      gi_wp2_with (gi_at_lookup; refine wpListIn_lookup_own_unit _ rfl _ _ 112 rfl 2 118 law2 under112 (zero118 _) (Wi.heap.size + 1) s.2.2 DD rfl hown _ _ rfl (keyOf_int_mk Tryd.underlying2 hw1) ?_; rw [hh])
      exact fin _ _ fE hst
    · have hmet' : s.1 p1 = false := by simpa using hmet
      rw [hmet'] at hh
      by_cases hkd : p0 = 2
      · subst hkd
        have b2 := fun o => (((fE.alloc o).block _ (Array.getElem?_eq_some_iff.1 hp2).1 (by simp)).trans hp2)
        have w0' := at_cells ((fE.block _ (Array.getElem?_eq_some_iff.1 hp2).1 (by simp)).trans hp2) 0 rfl
        have w1' := at_cells ((fE.block _ (Array.getElem?_eq_some_iff.1 hp2).1 (by simp)).trans hp2) 1 rfl
        have ch := at_cells ((fE.block _ (Array.getElem?_eq_some_iff.1 hg1.hp).1 (by simp)).trans hg1.hp) 0 rfl
        have hgE := tga s _ _ fE hg1
        have hbE := (fE.block _ (Array.getElem?_eq_some_iff.1 hb1).1 (by simp)).trans hb1
        have hpE := (fE.block _ (Array.getElem?_eq_some_iff.1 hp2).1 (by simp)).trans hp2
        clear b2
        gi_wp2_with (gi_at_lookup; refine wpListIn_lookup_own_unit _ rfl _ _ 112 rfl 2 118 law2 under112 (zero118 _) (Wi.heap.size + 1) s.2.2 DD rfl hown _ _ rfl (keyOf_int_mk Tryd.underlying2 hw1) ?_; rw [hh])
        generalize X1.alloc (.cells #[] 118) = XE at *
        have RE := R.frame hgE.F (by simp)
        rcases thing_or T p1 with ⟨hbad, e1⟩ | ⟨i, t, rfl, ht, e1⟩
        · have hst : stepT (T.map Thing.abs) stepY s [.int .i64 2, .int .i64 p1] = some ((s.1, s.2.1, s.2.2 + 1), []) := by
            unfold stepT
            rw [if_neg (by simp [decV, hmet']), show decV [.int .i64 2, .int .i64 p1] = (2, p1) from rfl, e1]
          refine ⟨trivial, rfl, (CallsIn.inRound (D + 1) (callsIn_wide.2 (Obj_no RE 2 p1 hbad))).mono ?_⟩
          rintro e X3 ⟨rfl, f3⟩
          have f4 := fE.trans (f3.alloc (.cells #[.int .i64 0, .slice none 0 0] 41))
          gi_wp2
          exact fin _ _ f4 hst
        · have gt := fT t (List.mem_of_getElem? ht)
          refine ⟨trivial, rfl, (CallsIn.inRound (D + 1) (callsIn_wide.2 (Obj_ok RE i t ht gt.1 (by have := gt.2.1; omega)))).mono ?_⟩
          rintro e X3 ⟨g, rfl, f3, hgl, hrow⟩
          have gl : Wi.heap.size ≤ g := by have := (Array.getElem?_eq_some_iff.1 hbE).1; omega
          have kbl : Wi.heap.size ≤ X3.heap.size := by have := (Array.getElem?_eq_some_iff.1 hbE).1; have := f3.size; omega
          have f4 : Fr [] XE (X3.alloc (.cells #[.int .i64 t.sort, .slice (some ⟨g, 0, none⟩) t.cells.length t.cells.length] 41)) := f3.alloc _
          have fb : Fr [] X3 (X3.alloc (.cells #[.int .i64 t.sort, .slice (some ⟨g, 0, none⟩) t.cells.length t.cells.length] 41)) := (Fr.refl _ _).alloc _
          have hb4 : (X3.alloc (.cells #[.int .i64 t.sort, .slice (some ⟨g, 0, none⟩) t.cells.length t.cells.length] 41)).heap[X3.heap.size]? = some (.cells #[.int .i64 t.sort, .slice (some ⟨g, 0, none⟩) t.cells.length t.cells.length] 41) := heap_alloc_new X3 _
          have hrow4 := (fb.block _ (Array.getElem?_eq_some_iff.1 hrow).1 (by simp)).trans hrow
          have hg4 := tga s _ _ f4 hgE
          have hp4 := (f4.block _ (Array.getElem?_eq_some_iff.1 hpE).1 (by simp)).trans hpE
          have hbz4 := (f4.block _ (Array.getElem?_eq_some_iff.1 hbE).1 (by simp)).trans hbE
          have hk4 := (hk1.frame fE).frame f4
          have hr4 : ∀ t', t' ∈ L → inReg Wr.heap.size Wi.heap.size (X3.alloc (.cells #[.int .i64 t.sort, .slice (some ⟨g, 0, none⟩) t.cells.length t.cells.length] 41)) t'.g := fun t' ht' => rga _ _ _ f4 (rga _ _ _ fE (hrg1 t' ht'))
          have c0 := at_cells hg4.mm 0 (u := .map (some (Wi.heap.size + 1))) rfl
          have c1 := at_cells hp4 1 rfl
          obtain ⟨D4, own4, hD4⟩ := hg4.M
          clear hown hDD hh m0 v0 v1 w0' w1' ch
          gi_wp2_with (gi_at_mapUpdate; refine wpListIn_mapUpdate_own _ rfl _ _ _ 112 rfl 2 118 law2 under112 _ (Wi.heap.size + 1) s.2.2 D4 rfl own4 (by have : maxLen = 9223372036854775807 := rfl; omega) _ _ _ rfl rfl (keyOf_int_mk Tryd.underlying2 hw1) _ [] unitElem_mk ?_)
          intro X5 hown5 hg5
          have f5 : Fr [Wi.heap.size + 1] (X3.alloc (.cells #[.int .i64 t.sort, .slice (some ⟨g, 0, none⟩) t.cells.length t.cells.length] 41)) X5 := Fr.ofGrown hg5
          have M5 := SetAt.put own4 hD4 hw1 hown5
          obtain ⟨esm, clm, hmb4⟩ := hg4.M.map
          generalize X3.heap.size = kb at *
          generalize X3.alloc (.cells #[.int .i64 t.sort, .slice (some ⟨g, 0, none⟩) t.cells.length t.cells.length] 41) = X4 at *
          have nmb : ∀ {k : Nat} {o : Obj}, X4.heap[k]? = some o → (∀ es c, o ≠ .map es c) → k ∉ [Wi.heap.size + 1] := by
            intro k o hk ho hm
            simp only [List.mem_singleton] at hm
            subst hm
            rw [hmb4] at hk
            simp at hk
            exact ho _ _ hk.symm
          have keep5 : ∀ {k : Nat} {o : Obj}, X4.heap[k]? = some o → (∀ es c, o ≠ .map es c) → X5.heap[k]? = some o := fun hk ho => (f5.block _ (Array.getElem?_eq_some_iff.1 hk).1 (nmb hk ho)).trans hk
          have hg5' : TG GY cy Wr Wr.heap.size Wi.heap.size h bh Wi.heap.size yl (Wi.heap.size + 1) (Wi.heap.size + 1 + 1) ka (Wi.heap.size + 3) D (fun j => decide (j = (i : Int)) || s.1 j, s.2.1, s.2.2 + 1) X5 := by
            refine ⟨((hg4.F.sub (T := [Wi.heap.size + 1]) (by simp)).trans f5).sub (fun k hk => .inr (by simp at hk; omega)), M5, keep5 hg4.hp (by simp), keep5 hg4.yb (by simp), keep5 hg4.mm (by simp), keep5 hg4.add (by simp), keep5 hg4.dfr (by simp), hGY _ _ _ _ hg4.G f5 (fun k hk => ?_), by have := hg4.cnt; simp; omega, hg4.own⟩
            simp only [List.mem_singleton] at hk
            subst hk
            exact ⟨by omega, fun c z e => by rw [hmb4] at e; simp at e⟩
          have hk5 : Stk 136 23 okV X5 (Wi.heap.size + 3) (Wi.heap.size + 3) sv L := by
            refine hk4.fr f5 (nmb hk4.box (by simp)) (fun k hk => ?_) (fun t' ht' => ?_)
            · rcases hk4.row.2 with ⟨e, _⟩ | ⟨g', cap, cur, e, _, hgg, _⟩
              · rw [e] at hk; simp [Value.ownBlock] at hk
              · rw [e] at hk
                simp [Value.ownBlock] at hk
                subst hk
                exact nmb hgg (by simp)
            · rcases hr4 t' ht' with hlow | ⟨h0, c, z, h45⟩
              · simp only [List.mem_singleton]
                omega
              · exact nmb h45 (by simp)
          have hr5 : ∀ t', t' ∈ L → inReg Wr.heap.size Wi.heap.size X5 t'.g := fun t' ht' => by
            rcases hr4 t' ht' with hlow | ⟨h0, c, z, h45⟩
            · exact .inl hlow
            · exact .inr ⟨h0, c, z, keep5 h45 (by simp)⟩
          have hbox5 := keep5 hb4 (by simp)
          have hrow5 := keep5 hrow4 (by simp)
          have hbz5 := keep5 hbz4 (by simp)
          have hp5 := keep5 hp4 (by simp)
          have d0 := at_cells hg5'.yb 0 (u := .func (.yield yl) #[] #[]) rfl
          have d1 := at_cells hp5 1 rfl
          have hst0 : stepT (T.map Thing.abs) stepY s [.int .i64 2, .int .i64 (i : Int)] = (match stepY s.2.1 (i : Int) with | none => none | some y => some ((fun j => decide (j = (i : Int)) || s.1 j, y, s.2.2 + 1), valsL t.cells)) := by
            unfold stepT
            rw [if_neg (by simp [decV, hmet']), show decV [.int .i64 2, .int .i64 (i : Int)] = (2, (i : Int)) from rfl, e1]
            rfl
          obtain ⟨fn, tmps, assign, body, hy, hR⟩ := hY s.2.1 (i : Int) X5 hg5'.G (by have := hg1.cnt; omega) hg5'.F hw1
          clear c0 c1 own4 hD4 hown5 hg5 hg4 hk4 hr4 hb4 hrow4 hrow hbz4 hp4 hmb4 hgE hbE hpE RE
          gi_wp2
          refine ⟨rfl, hR.mono ?_⟩
          rintro e X6 ⟨⟨S, f6, hS6⟩, hE⟩
          have nS : ∀ {k : Nat} {o : Obj}, Wi.heap.size ≤ k → X5.heap[k]? = some o → (∀ c z, o ≠ .cells c 2 z) → k ∉ S := by
            intro k o h1 h2 h3 hm
            rcases (hS6 k hm).2.2 with h | ⟨c, z, h⟩
            · omega
            · rw [h2] at h
              simp at h
              exact h3 _ _ h
          have keep6 : ∀ {k : Nat} {o : Obj}, Wi.heap.size ≤ k → X5.heap[k]? = some o → (∀ c z, o ≠ .cells c 2 z) → X6.heap[k]? = some o := fun h1 h2 h3 => (f6.block _ (Array.getElem?_eq_some_iff.1 h2).1 (nS h1 h2 h3)).trans h2
          have hbz6 := keep6 (by omega) hbz5 (by simp)
          have F6 : Fr [] Wr X6 := ((hg5'.F.sub (T := S) (by simp)).trans f6).sub (fun k hk => .inr (hS6 k hk).1)
          have hD6 := keep6 (by omega) hg5'.dfr (by simp)
          clear hR hy d0 d1
          cases hsy : stepY s.2.1 (i : Int) with
          | none =>
            rw [hsy] at hE hst0
            obtain ⟨rfl, hO⟩ := hE
            gi_wp2
            refine ⟨hbz6, ?_⟩
            rw [hst0]
            exact ⟨rfl, World.putObj_heap_same (Array.getElem?_eq_some_iff.1 hbz6).1, ((F6.sub (T := [D + 1]) (by simp)).trans (Fr.putObj _)).sub (fun k hk => .inr (by simp at hk; omega)), hOut _ _ _ hO (Fr.putObj _) (mL _ _ hbz6), (World.putObj_heap_other (by omega)).trans hD6⟩
          | some y =>
            rw [hsy] at hE hst0
            obtain ⟨rfl, hG6⟩ := hE
            have hg6 := hg5'.yours (Nat.le_refl _) f6 hS6 hG6 (by have := hcy _ _ _ hsy; have := hg1.cnt; simp; omega)
            have hbox6 := keep6 kbl hbox5 (by simp)
            have hrow6 := keep6 gl hrow5 (by simp)
            have hk6 : Stk 136 23 okV X6 (Wi.heap.size + 3) (Wi.heap.size + 3) sv L := by
              refine hk5.fr f6 (nS (by omega) hk5.box (by simp)) (fun k hk => ?_) (fun t' ht' => ?_)
              · rcases hk5.row.2 with ⟨e, _⟩ | ⟨g', cap, cur, e, hB', hgg, _⟩
                · rw [e] at hk; simp [Value.ownBlock] at hk
                · rw [e] at hk
                  simp [Value.ownBlock] at hk
                  subst hk
                  exact nS (by omega) hgg (by simp)
              · rcases hr5 t' ht' with hlow | ⟨h0, c, z, h45⟩
                · intro hm
                  have := (hS6 _ hm).1
                  omega
                · exact nS h0 h45 (by simp)
            have ca := at_cells hg6.add 0 (u := .func (.func 57) #[] #[.pointer (some ⟨Wi.heap.size + 3, 0, none⟩)]) rfl
            have cb := at_cells hbox6 1 rfl
            have hr6 : ∀ t', t' ∈ L → inReg Wr.heap.size Wi.heap.size X6 t'.g := fun t' ht' => by
              rcases hr5 t' ht' with hlow | ⟨h0, c, z, h45⟩
              · exact .inl hlow
              · exact .inr ⟨h0, c, z, keep6 h0 h45 (by simp)⟩
            gi_wp2
            refine ⟨trivial, rfl, (CallsIn.inRound (D + 1) (callsIn_wide.2 (add_val hk6 (some ⟨g, 0, none⟩) t.cells.length t.cells.length t.cells rfl (row_lies hrow6) (Nat.le_refl _) gt.2.2 ?_ (by omega)))).mono ?_⟩
            · intro ad e hp
              cases e
              have := hk6.far hrow6 (by simp) (by simp)
              simp only [List.mem_cons, Option.mem_toList, not_or] at this
              exact this
            rintro e X7 ⟨rfl, sv7, L7, k7, pe7, le7, f7, sg7⟩
            have hg7 := hg6.stk hGY (Nat.le_refl _) hk6 (by omega) f7
            have hbz7 := (f7.block _ (Array.getElem?_eq_some_iff.1 hbz6).1 (hk6.far hbz6 (by simp) (by simp))).trans hbz6
            have hrow7 := (f7.block _ (Array.getElem?_eq_some_iff.1 hrow6).1 (hk6.far hrow6 (by simp) (by simp))).trans hrow6
            gi_wp2
            refine ⟨hbz7, ?_⟩
            rw [hst0]
            refine ⟨rfl, tgp _ _ _ _ hbz7 hg7, World.putObj_heap_same (Array.getElem?_eq_some_iff.1 hbz7).1, sv7, L7, k7.putObj okV_ne hbz7 _, pe7, le7, fun t' ht' => rgp _ _ _ _ hbz7 ?_⟩
            rcases sg7 t' ht' with h1 | ⟨ad, e, hp, h1⟩
            · exact (hr6 t' h1).stk hk6 f7
            · cases e
              rw [h1]
              exact .inr ⟨gl, _, _, hrow7⟩
      · have hst : stepT (T.map Thing.abs) stepY s [.int .i64 p0, .int .i64 p1] = some ((s.1, s.2.1, s.2.2 + 1), []) := by
          unfold stepT
          rw [if_pos (.inr hkd)]
        have hkd' : (p0 == 2) = false := by simpa using hkd
        have hkd2 : (p0 != 2) = true := by simpa using hkd
        have w0' := at_cells ((fE.block _ (Array.getElem?_eq_some_iff.1 hp2).1 (by simp)).trans hp2) 0 rfl
        gi_wp2_with (gi_at_lookup; refine wpListIn_lookup_own_unit _ rfl _ _ 112 rfl 2 118 law2 under112 (zero118 _) (Wi.heap.size + 1) s.2.2 DD rfl hown _ _ rfl (keyOf_int_mk Tryd.underlying2 hw1) ?_; rw [hh])
        exact fin _ _ fE hst
  · rintro e W2 ⟨hv, hE⟩
    have mD : ∀ X : World, X.heap[D]? = some (.deferred (some [])) → ∀ k, k ∈ [D] → Mn Wi.heap.size X k := by
      intro X hX k hk
      simp only [List.mem_singleton] at hk
      subst hk
      exact ⟨by omega, fun c z e => by rw [hX] at e; simp at e⟩
    have mL : ∀ (X : World) (r : Loop), X.heap[D + 1]? = some (.loop r) → ∀ k, k ∈ [D + 1] → Mn Wi.heap.size X k := by
      intro X r hX k hk
      simp only [List.mem_singleton] at hk
      subst hk
      exact ⟨by omega, fun c z e => by rw [hX] at e; simp at e⟩
    cases res with
    | none =>
      obtain ⟨e1, e2, e3, e4⟩ := hE
      refine ⟨hv, .inr ⟨e1, ?_⟩⟩
      have hK : (W2.putObj (D + 1) (.loop (rec .exhausted (some .ret)))).heap[D]? = some (.deferred (some [])) := (World.putObj_heap_other (by omega)).trans e4
      have hO := hOut _ _ _ e3 (Fr.putObj (l := D + 1) (.loop (rec .exhausted (some .ret)))) (mL _ _ e1)
      have hF : Fr [] Wr (W2.putObj (D + 1) (.loop (rec .exhausted (some .ret)))) := ((e2.sub (T := [D + 1]) (by simp)).trans (Fr.putObj _)).sub (fun k hk => .inr (by simp at hk; omega))
      generalize W2.putObj (D + 1) (.loop (rec .exhausted (some .ret))) = W3 at *
      gi_wp2
      refine ⟨by simp, .inl ⟨_, _, rfl, run_takeDeferred hK, ?_⟩⟩
      exact ⟨_, results_none rfl _ _ _, ⟨_, rfl⟩, ((hF.sub (T := [D]) (by simp)).trans (Fr.putObj _)).sub (fun k hk => .inr (by simp at hk; omega)), hOut _ _ _ hO (Fr.putObj _) (mD _ hK)⟩
    | some s =>
      obtain ⟨hS, hr⟩ := hE
      refine ⟨hv, .inl ⟨hr, ?_⟩⟩
      have hK : (W2.putObj (D + 1) (.loop (rec .exhausted none))).heap[D]? = some (.deferred (some [])) := (World.putObj_heap_other (by omega)).trans hS.dfr
      have hO := hGY _ _ _ _ hS.G (Fr.putObj (l := D + 1) (.loop (rec .exhausted none))) (mL _ _ hr)
      have hF : Fr [] Wr (W2.putObj (D + 1) (.loop (rec .exhausted none))) := ((hS.F.sub (T := [D + 1]) (by simp)).trans (Fr.putObj _)).sub (fun k hk => .inr (by simp at hk; omega))
      generalize W2.putObj (D + 1) (.loop (rec .exhausted none)) = W3 at *
      gi_wp2
      refine ⟨by simp, .inl ⟨_, _, rfl, run_takeDeferred hK, ?_⟩⟩
      exact ⟨_, results_none rfl _ _ _, ⟨_, rfl⟩, ((hF.sub (T := [D]) (by simp)).trans (Fr.putObj _)).sub (fun k hk => .inr (by simp at hk; omega)), hGY _ _ _ _ hO (Fr.putObj _) (mD _ hK)⟩
end Go.Proofs.YtefkcmeeagflmaaDoor
namespace Go.Proofs.YtefkcmeeagflmaaDoor
open Go.RowKit Go.Shelf Go.Maps
attribute [local go_sem] Oper.semAt_some store_func

theorem under33 : Tryd.prog.underlying 33 = some (.slice 2) := by kernel_rfl
theorem info2 : (Tryd.prog.info? 2).map (fun i => (i.zero, i.size, i.bytes)) = some (some (.int .i64 0), 1, 8) := by kernel_rfl

theorem things_any (W : World) (h : Nat) (a : Option Addr) (n c : Nat) :
    Calls Tryd.prog 28 #[.pointer (some ⟨h, 0, none⟩), .slice a n c] W fun e W' => e = .returned (.func (.func 46) #[] #[.pointer (some ⟨W.heap.size + 1, 0, none⟩), .pointer (some ⟨W.heap.size, 0, none⟩)]) ∧ W' = (W.alloc (.cells #[.pointer (some ⟨h, 0, none⟩)] 26)).alloc (.cells #[.slice a n c] 23) := by
  go_enter Tryd.func28, Tryd.ntmps28
  go_wp2
  go_ret
  exact ⟨rfl, rfl⟩

/-- What Reach keeps from round to round. -/
structure RG (Nr kn bh h l D : Nat) (rec : LoopState → Option Code → Loop) (y : List Int) (W : World) : Prop where
  low : Nr ≤ kn
  box : ∃ sv, W.heap[kn]? = some (.cells #[sv] 33 (0, 0)) ∧ W.ownsRow Nr 2 1 sv y.length (y.map (Value.int .i64))
  hp : W.heap[bh]? = some (.cells #[.pointer (some ⟨h, 0, none⟩)] 26 (0, 0))
  rd : W.heap[l]? = some (.loop (rec .ready none))
  dfr : W.heap[D]? = some (.deferred (some []))

theorem RG.mine {Nr kn bh h l D Ni : Nat} {rec : LoopState → Option Code → Loop} {y : List Int} {W W' : World} {S : List Nat} (g : RG Nr kn bh h l D rec y W) (h1 : kn < Ni) (h4 : bh < Ni) (h2 : l < Ni) (h3 : D < Ni) (f : Fr S W W') (hS : ∀ k, k ∈ S → Mn Ni W k) : RG Nr kn bh h l D rec y W' := by
  have lo : ∀ k, k < Ni → k ∉ S := fun k hk hm => by have := (hS k hm).1; omega
  obtain ⟨sv, hb, ho⟩ := g.box
  refine ⟨g.low, ⟨sv, (f.block _ (Array.getElem?_eq_some_iff.1 hb).1 (lo _ h1)).trans hb, own_fr ho f (fun k hk hm => ?_)⟩, (f.block _ (Array.getElem?_eq_some_iff.1 g.hp).1 (lo _ h4)).trans g.hp, (f.block _ (Array.getElem?_eq_some_iff.1 g.rd).1 (lo _ h2)).trans g.rd, (f.block _ (Array.getElem?_eq_some_iff.1 g.dfr).1 (lo _ h3)).trans g.dfr⟩
  rcases ho.2 with ⟨e, _⟩ | ⟨gg, cap, cur, e, _, hgg, _⟩
  · rw [e] at hk; simp [Value.ownBlock] at hk
  · rw [e] at hk
    simp [Value.ownBlock] at hk
    subst hk
    exact (hS _ hm).2 _ _ hgg

/-- One thing more. -/
def stepR (y : List Int) (k : Int) : Option (List Int) := some (y ++ [k])

set_option maxRecDepth 100000 in
set_option maxHeartbeats 4000000 in
theorem Reach_any {W : World} {Bh h : Nat} {lim used rk rn : Int} {svh : Value} {T : List Thing} (R : Rep W Bh h lim used svh rk rn T) (fT : Fine T)
    (xs : List (Int × Int)) (a1 : Option Addr) (n c1 : Nat) (hxn : xs.length = n) (hl : Lies W a1 xs) (hc1 : n ≤ c1) (hwx : ∀ x, x ∈ xs → (Lit.int .i64 x.2).wf = true)
    (n0 : Nat) (hn0 : n0 ≤ 100000000) (m : Int → Bool) (ys : List Int) (c : Nat) (hrun : run (stepT (T.map Thing.abs) stepR) n0 (fun _ => false, [], 0) (valsL xs) = some (some (m, ys, c))) :
    Calls Tryd.prog 14 #[.pointer (some ⟨h, 0, none⟩), .slice a1 n c1] W fun e W' => ∃ v, e = .returned v ∧ Fr [] W W' ∧ W'.ownsRow W.heap.size 2 1 v ys.length (ys.map (Value.int .i64)) := by
  obtain ⟨i2, hi, hz, hs, hby⟩ := info_parts info2
  refine callsIn_wide.1 (callsIn_of_wp_marks (n := 0) Tryd.func14 rfl trivial ?_ rfl)
  simp only [Tryd.ntmps14, List.size_toArray, List.length_cons, List.length_nil, Nat.reduceAdd, Nat.reduceSub, Array.replicate_succ, Array.replicate_zero, List.push_toArray, List.append_toArray, List.nil_append, List.cons_append]
  gi_wp2
  have F0 : Fr [] W (W.alloc (.cells #[.slice none 0 0] 33)) := (Fr.refl _ _).alloc _
  have B0 : (W.alloc (.cells #[.slice none 0 0] 33)).heap[W.heap.size]? = some (.cells #[.slice none 0 0] 33 (0, 0)) := heap_alloc_new W _
  have hs0 : (W.alloc (.cells #[.slice none 0 0] 33)).heap.size = W.heap.size + 1 := by simp
  generalize W.alloc (.cells #[.slice none 0 0] 33) = w0 at *
  refine ⟨trivial, rfl, (callsIn_wide.2 (things_any w0 h a1 n c1)).mono ?_⟩
  rintro e w1 ⟨rfl, rfl⟩
  rw [hs0]
  have F1 : Fr [] w0 ((w0.alloc (.cells #[.pointer (some ⟨h, 0, none⟩)] 26)).alloc (.cells #[.slice a1 n c1] 23)) := ((Fr.refl _ _).alloc _).alloc _
  have H1 : ((w0.alloc (.cells #[.pointer (some ⟨h, 0, none⟩)] 26)).alloc (.cells #[.slice a1 n c1] 23)).heap[W.heap.size + 1]? = some (.cells #[.pointer (some ⟨h, 0, none⟩)] 26 (0, 0)) := by
    rw [← hs0]
    exact (Below.heap_alloc _ _ _ (by simp)).trans (heap_alloc_new w0 _)
  have L1 : ((w0.alloc (.cells #[.pointer (some ⟨h, 0, none⟩)] 26)).alloc (.cells #[.slice a1 n c1] 23)).heap[W.heap.size + 1 + 1]? = some (.cells #[.slice a1 n c1] 23 (0, 0)) := by
    rw [← hs0]
    exact blk2 w0 _ _
  have hs1 : ((w0.alloc (.cells #[.pointer (some ⟨h, 0, none⟩)] 26)).alloc (.cells #[.slice a1 n c1] 23)).heap.size = W.heap.size + 3 := by simp [hs0]
  have B1 := (F1.block _ (Array.getElem?_eq_some_iff.1 B0).1 (by simp)).trans B0
  generalize (w0.alloc (.cells #[.pointer (some ⟨h, 0, none⟩)] 26)).alloc (.cells #[.slice a1 n c1] 23) = w1 at *
  have G1 := F0.trans F1
  have HS1 : Hid (w1.heap.size = W.heap.size + 3) := hs1
  clear hs1 hs0 F0 F1 B0
  gi_wp2
  refine range_outer (gf := 46) (lb := #[.pointer (some ⟨W.heap.size + 1 + 1, 0, none⟩), .pointer (some ⟨W.heap.size + 1, 0, none⟩)]) rfl (enters_of Tryd.func46 (by kernel_rfl) rfl) ?_
  intro rec hYr
  show CallsIn Fence.wide 0 Tryd.prog 46 #[.func (.yield (w1.heap.size + 1)) #[] #[], .pointer (some ⟨W.heap.size + 1 + 1, 0, none⟩), .pointer (some ⟨W.heap.size + 1, 0, none⟩)] _ _
  have f2 : Fr [] w1 ((w1.alloc (.deferred (some []))).alloc (.loop (rec .ready none))) := ((Fr.refl _ _).alloc _).alloc _
  have hL2 := blk2 w1 (.deferred (some [])) (.loop (rec .ready none))
  have hD2 : ((w1.alloc (.deferred (some []))).alloc (.loop (rec .ready none))).heap[w1.heap.size]? = some (.deferred (some [])) := (Below.heap_alloc _ _ _ (by simp)).trans (heap_alloc_new w1 _)
  have hs2 : ((w1.alloc (.deferred (some []))).alloc (.loop (rec .ready none))).heap.size = w1.heap.size + 2 := by simp
  generalize (w1.alloc (.deferred (some []))).alloc (.loop (rec .ready none)) = w2 at *
  have hD : w1.heap.size = W.heap.size + 3 := HS1.out
  generalize w1.heap.size = D at *
  have H2 := (f2.block _ (Array.getElem?_eq_some_iff.1 H1).1 (by simp)).trans H1
  have L2 := (f2.block _ (Array.getElem?_eq_some_iff.1 L1).1 (by simp)).trans L1
  have B2 := (f2.block _ (Array.getElem?_eq_some_iff.1 B1).1 (by simp)).trans B1
  have G2 := G1.trans f2
  refine (things1 stepR (RG W.heap.size W.heap.size (W.heap.size + 1) h (D + 1) D rec) (fun _ => False) R fT xs a1 n c1 hxn hl hc1 hwx w2 (W.heap.size + 1 + 1) (W.heap.size + 1) (D + 1) G2 L2 H2 []
    ⟨Nat.le_refl _, ⟨_, B2, World.ownsRow_nil _ _ _ _⟩, H2, hL2, hD2⟩ List.length rfl (fun y k y' he => by simp [stepR] at he; rw [← he]; simp) n0 hn0
    (fun y X X' S g f hS => g.mine (by omega) (by omega) (by omega) (by omega) f hS) (fun X X' S g f hS => g) ?_ (some (m, ys, c)) hrun).mono ?_
  · intro y k X hg hy F hk
    have HD : Hid (D = W.heap.size + 3) := hD
    clear hD HS1
    refine hYr _ X _ rfl hg.rd ?_
    clear hYr
    gi_wp2
    refine ⟨hg.rd, ?_⟩
    obtain ⟨sv, hb, ho⟩ := hg.box
    have f1 := Fr.putObj (W := X) (l := D + 1) (.loop (rec .busy none))
    have hz1 := World.putObj_heap_same (w := X) (r := D + 1) (o := .loop (rec .busy none)) (Array.getElem?_eq_some_iff.1 hg.rd).1
    have hb1 : (X.putObj (D + 1) (.loop (rec .busy none))).heap[W.heap.size]? = some (.cells #[sv] 33 (0, 0)) := (World.putObj_heap_other (by have := HD.out; omega)).trans hb
    have hd1 : (X.putObj (D + 1) (.loop (rec .busy none))).heap[D]? = some (.deferred (some [])) := (World.putObj_heap_other (by have := HD.out; omega)).trans hg.dfr
    have hno : sv.ownBlock ≠ some (D + 1) := by
      intro e
      rcases ho.2 with ⟨e', _⟩ | ⟨g', cap, cur, e', _, hgg, _⟩
      · rw [e'] at e; simp [Value.ownBlock] at e
      · rw [e'] at e
        simp [Value.ownBlock] at e
        subst e
        rw [hg.rd] at hgg
        simp at hgg
    have hnD : sv.ownBlock ≠ some D := by
      intro e
      rcases ho.2 with ⟨e', _⟩ | ⟨g', cap, cur, e', _, hgg, _⟩
      · rw [e'] at e; simp [Value.ownBlock] at e
      · rw [e'] at e
        simp [Value.ownBlock] at e
        subst e
        rw [hg.dfr] at hgg
        simp at hgg
    have hnk : sv.ownBlock ≠ some W.heap.size := own_ne ho hb (by decide)
    have hn26 : ∀ k, sv.ownBlock = some k → ∃ c z, X.heap[k]? = some (.cells c 2 z) := by
      intro k e
      rcases ho.2 with ⟨e', _⟩ | ⟨g', cap, cur, e', _, hgg, _⟩
      · rw [e'] at e; simp [Value.ownBlock] at e
      · rw [e'] at e
        simp [Value.ownBlock] at e
        subst e
        exact ⟨_, _, hgg⟩
    have ho1 := own_fr ho f1 (fun k hk => by simp; intro e; subst e; exact hno hk)
    have hsz : W.heap.size ≤ (X.putObj (D + 1) (.loop (rec .busy none))).heap.size := by have := F.size; simp; exact this
    have ca := at_cells hb1 0 rfl
    have hp1 : (X.putObj (D + 1) (.loop (rec .busy none))).heap[W.heap.size + 1]? = some (.cells #[.pointer (some ⟨h, 0, none⟩)] 26 (0, 0)) := (World.putObj_heap_other (by have := HD.out; omega)).trans hg.hp
    have hnp : sv.ownBlock ≠ some (W.heap.size + 1) := own_ne ho hg.hp (by decide)
    generalize X.putObj (D + 1) (.loop (rec .busy none)) = X1 at *
    gi_wp2_with (gi_at_builtin; refine wpListIn_append_own_at _ rfl _ _ 33 rfl W.heap.size 2 i2 (.int .i64 0) 1 8 under33 hi hz hs hby rfl (by decide) sv y.length (y.map (Value.int .i64)) rfl (ho1.alloc _) ⟨X1.heap.size, 0, none⟩ 1 1 [.int .i64 k] rfl rfl (cell_one_new X1 _ 2) (by simp [Value.oneCell']) (by have : maxLen = 9223372036854775807 := rfl; omega) (by omega) (by simp; omega) ?_)
    intro v1 w1 hown1 hgrow hnil hloc
    have f2 : Fr sv.ownBlock.toList X1 w1 := ((Fr.refl _ _).alloc _).trans ((Fr.ofGrown hgrow).sub (fun k hk => .inl hk))
    have keep : ∀ {k : Nat} {o : Obj}, sv.ownBlock ≠ some k → X1.heap[k]? = some o → w1.heap[k]? = some o := fun hk h1 => (f2.block _ (Array.getElem?_eq_some_iff.1 h1).1 (by simpa using hk)).trans h1
    have hb2 := keep hnk hb1
    have hd2 := keep hnD hd1
    have hz2 := keep hno hz1
    have hp2 := keep hnp hp1
    have cb1 := at_cells hb2 0 rfl
    have fb1 : w1.frozen? ⟨W.heap.size, 0, none⟩ = false := by simp [World.frozen?, hb2]
    obtain ⟨av, cv, hv, _⟩ := own_slice hown1
    subst hv
    have hD1 : D + 1 ≠ W.heap.size := by have := HD.out; omega
    have hD3 : D ≠ W.heap.size := by have := HD.out; omega
    clear ca hgrow
    gi_wp2
    have f3 : Fr [W.heap.size] w1 (w1.setCell ⟨W.heap.size, 0, none⟩ (.slice av (y.length + 1) cv)) := Fr.setCell (Fr.refl _ _) (.inl (by simp)) _
    have hb3 : (w1.setCell ⟨W.heap.size, 0, none⟩ (.slice av (y.length + 1) cv)).heap[W.heap.size]? = some (.cells #[.slice av (y.length + 1) cv] 33 (0, 0)) := by simp [World.setCell, Array.getElem?_modify, hb2]
    have hz3 := (f3.block _ (Array.getElem?_eq_some_iff.1 hz2).1 (by simpa using hD1)).trans hz2
    have hd3 := (f3.block _ (Array.getElem?_eq_some_iff.1 hd2).1 (by simpa using hD3)).trans hd2
    have hp3 := (f3.block _ (Array.getElem?_eq_some_iff.1 hp2).1 (by simp)).trans hp2
    have hnk1 : (Value.slice av (y.length + 1) cv).ownBlock ≠ some W.heap.size := own_ne hown1 hb2 (by decide)
    have hno1 : (Value.slice av (y.length + 1) cv).ownBlock ≠ some (D + 1) := by
      intro e
      rcases hown1.2 with ⟨e', _⟩ | ⟨g', cap, cur, e', _, hgg, _⟩
      · rw [e'] at e; simp [Value.ownBlock] at e
      · rw [e'] at e
        simp [Value.ownBlock] at e
        subst e
        rw [hz2] at hgg
        simp at hgg
    have hown3 := own_fr hown1 f3 (fun k hk => by simp; intro e; subst e; exact hnk1 hk)
    generalize w1.setCell ⟨W.heap.size, 0, none⟩ (.slice av (y.length + 1) cv) = w3 at *
    refine ⟨hz3, ⟨(D + 1) :: W.heap.size :: sv.ownBlock.toList, ?_, ?_⟩, rfl, Nat.le_refl _, ⟨_, (World.putObj_heap_other hD1.symm).trans hb3, ?_⟩, (World.putObj_heap_other (by have := HD.out; omega)).trans hp3, World.putObj_heap_same (Array.getElem?_eq_some_iff.1 hz3).1, (World.putObj_heap_other (by omega)).trans hd3⟩
    · exact (((f1.sub (fun k hk => .inl (by simp at hk; simp [hk]))).trans (f2.sub (fun k hk => .inl (by simp at hk; simp [hk])))).trans (f3.sub (fun k hk => .inl (by simp at hk; simp [hk])))).trans ((Fr.putObj _).sub (fun k hk => .inl (by simp at hk; simp [hk])))
    · intro j hj
      simp only [List.mem_cons, Option.mem_toList] at hj
      have := HD.out
      rcases hj with rfl | rfl | hj
      · exact ⟨by omega, by omega, .inl (by omega)⟩
      · exact ⟨by omega, by omega, .inl (by omega)⟩
      · obtain ⟨c, z, h26⟩ := hn26 j hj
        exact ⟨(ho.lt j hj).1, fun e => by subst e; exact hnp hj, .inr ⟨c, z, h26⟩⟩
    · have := own_fr hown3 (Fr.putObj (l := D + 1) (.loop (rec .ready none))) (fun k hk => by simp; intro e; subst e; exact hno1 hk)
      simpa using this
  · rintro e W2 ⟨hv, hF, hE⟩
    have HD : Hid (D = W.heap.size + 3) := hD
    clear hD HS1
    have hG : RG W.heap.size W.heap.size (W.heap.size + 1) h (D + 1) D rec ys W2 := hE
    refine ⟨hv, .inl ⟨hG.rd, ?_⟩⟩
    obtain ⟨sv, hb, ho⟩ := hG.box
    have hno : sv.ownBlock ≠ some (D + 1) := by
      intro e
      rcases ho.2 with ⟨e', _⟩ | ⟨g', cap, cur, e', _, hgg, _⟩
      · rw [e'] at e; simp [Value.ownBlock] at e
      · rw [e'] at e
        simp [Value.ownBlock] at e
        subst e
        rw [hG.rd] at hgg
        simp at hgg
    have hnD : sv.ownBlock ≠ some D := by
      intro e
      rcases ho.2 with ⟨e', _⟩ | ⟨g', cap, cur, e', _, hgg, _⟩
      · rw [e'] at e; simp [Value.ownBlock] at e
      · rw [e'] at e
        simp [Value.ownBlock] at e
        subst e
        rw [hG.dfr] at hgg
        simp at hgg
    have hK : (W2.putObj (D + 1) (.loop (rec .exhausted none))).heap[D]? = some (.deferred (some [])) := (World.putObj_heap_other (by have := HD.out; omega)).trans hG.dfr
    have hB : (W2.putObj (D + 1) (.loop (rec .exhausted none))).heap[W.heap.size]? = some (.cells #[sv] 33 (0, 0)) := (World.putObj_heap_other (by have := HD.out; omega)).trans hb
    have hO := own_fr ho (Fr.putObj (l := D + 1) (.loop (rec .exhausted none))) (fun k hk => by simp; intro e; subst e; exact hno hk)
    have hF3 : Fr [] W (W2.putObj (D + 1) (.loop (rec .exhausted none))) := ((hF.sub (T := [D + 1]) (by simp)).trans (Fr.putObj _)).sub (fun k hk => .inr (by have := HD.out; simp at hk; omega))
    generalize W2.putObj (D + 1) (.loop (rec .exhausted none)) = W3 at *
    have ca := at_cells hB 0 rfl
    gi_wp2
    refine ⟨by simp, .inl ⟨_, _, rfl, run_takeDeferred hK, ?_⟩⟩
    exact ⟨_, results_tmp rfl _ _ _, sv, rfl, ((hF3.sub (T := [D]) (by simp)).trans (Fr.putObj _)).sub (fun k hk => .inr (by have := HD.out; simp at hk; omega)), own_fr hO (Fr.putObj _) (fun k hk => by simp; intro e; subst e; exact hnD hk)⟩
end Go.Proofs.YtefkcmeeagflmaaDoor
namespace Go.Proofs.YtefkcmeeagflmaaDoor
open Go.RowKit

/-- A thing of the list that is handed in. -/
structure OR where
  r : Int
  a : Option Addr
  m : Nat
  c : Nat
  xs : List (Int × Int)

/-- A thing lies at a place. -/
structure AtOR (w : World) (g o : Nat) (x : OR) : Prop where
  c0 : w.cell? ⟨g, o, none⟩ = some (.int .i64 x.r)
  c1 : w.cell? ⟨g, o + 1, none⟩ = some (.slice x.a x.m x.c)

theorem AtOR.below {w w' : World} {B g o : Nat} {x : OR} (h : AtOR w g o x) (b : Below B w w') (hg : g < B) : AtOR w' g o x :=
  ⟨(b.cell (p := ⟨g, o, none⟩) hg).trans h.c0, (b.cell (p := ⟨g, o + 1, none⟩) hg).trans h.c1⟩

/-- All of a list of things. -/
def ORs (B : Nat) (w : World) (a0 : Option Addr) (L : List OR) : Prop := ∀ i x, L[i]? = some x → ∃ g o, a0 = some ⟨g, o, none⟩ ∧ g < B ∧ AtOR w g (o + i * 2) x

theorem ORs.below {B : Nat} {w w' : World} {a0 : Option Addr} {L : List OR} (h : ORs B w a0 L) (b : Below B w w') : ORs B w' a0 L := fun i x hx => by
  obtain ⟨g, o, e, hg, hA⟩ := h i x hx
  exact ⟨g, o, e, hg, hA.below b hg⟩

/-- How many cells the things have, and one more each. -/
def totO : List OR → Nat
  | [] => 0
  | x :: r => x.m + 1 + totO r

theorem totO_take_succ : ∀ (L : List OR) (k : Nat) (x : OR), L[k]? = some x → totO (L.take (k + 1)) = totO (L.take k) + (x.m + 1)
  | [], _, _, h => by simp at h
  | y :: r, 0, x, h => by simp at h; subst h; simp [totO]
  | y :: r, k + 1, x, h => by
      have := totO_take_succ r k x (by simpa using h)
      simp only [List.take_succ_cons, totO, this]
      omega
theorem totO_take_le : ∀ (L : List OR) (k : Nat), totO (L.take k) ≤ totO L
  | [], _ => by simp [totO]
  | y :: r, 0 => by simp [totO]
  | y :: r, k + 1 => by
      have := totO_take_le r k
      simp only [List.take_succ_cons, totO]
      omega
theorem totO_len : ∀ (L : List OR), L.length ≤ totO L
  | [] => by simp [totO]
  | y :: r => by
      have := totO_len r
      simp only [List.length_cons, totO]
      omega
theorem totO_at : ∀ (L : List OR) (k : Nat) (x : OR), L[k]? = some x → x.m ≤ totO L
  | [], _, _, h => by simp at h
  | y :: r, 0, x, h => by simp at h; subst h; simp [totO]; omega
  | y :: r, k + 1, x, h => by
      have := totO_at r k x (by simpa using h)
      simp only [totO]
      omega

set_option maxRecDepth 100000 in
set_option maxHeartbeats 1000000 in
theorem few_any (L : List OR) (w : World) (a0 : Option Addr) (len cap : Nat) (ax : Option Addr) (n cx : Nat) (B : Nat) (hB : B ≤ w.heap.size) (hlen : L.length = len) (hL : ORs B w a0 L) (ht : totO L ≤ 2000000) (hn : n ≤ 2000000) :
    Calls Tryd.prog 10 #[.slice a0 len cap, .slice ax n cx] w fun e w' => e = .returned (.bool (decide (n + totO L ≤ 300))) ∧ Below B w w' := by
  have HT : Hid (totO L ≤ 2000000) := ht
  have HN : Hid (L.length = len) := hlen
  have hlen2 : (len : Int) ≤ 2000000 := by have := totO_len L; omega
  have hn2 : (n : Int) ≤ 2000000 := by omega
  clear ht hlen hn
  go_enter Tryd.func10, Tryd.ntmps10
  go_wp2
  go_loopw [5, 12] (fun s i wr => ∃ k : Nat, k ≤ len ∧ i = .int .i64 k ∧ s = .int .i64 ((n + totO (L.take k) : Nat) : Int) ∧ Below B w wr) (fun _ i _ => len - (intOf i).toNat)
  case atStart => exact ⟨0, Nat.zero_le _, rfl, by simp [totO], Below.refl _ _⟩
  case round =>
    obtain ⟨k, hk, rfl, rfl, bw⟩ := hrel
    by_cases hlt : k < len
    · have hx : L[k]? = some (L[k]'(by rw [HN.out]; exact hlt)) := List.getElem?_eq_getElem _
      have HS : Hid (totO (L.take (k + 1)) = totO (L.take k) + ((L[k]'(by rw [HN.out]; exact hlt)).m + 1)) := totO_take_succ L k _ hx
      have hle := totO_take_le L (k + 1)
      obtain ⟨g, o, rfl, hg, hA0⟩ := hL k _ hx
      have hA := hA0.below bw hg
      generalize L[k]'(by rw [HN.out]; exact hlt) = x at *
      obtain ⟨c0, c1⟩ := hA
      have HLE : Hid (totO (L.take k) + (x.m + 1) ≤ 2000000) := by have := HS.out; have := HT.out; unfold Hid; omega
      obtain ⟨S, hS⟩ : ∃ S, n + totO (L.take k) = S := ⟨_, rfl⟩
      rw [hS]
      have hs1 : ((S : Nat) : Int) + ((x.m : Int) + 1) ≤ 4000000 := by have := HLE.out; omega
      have hm1 : (x.m : Int) ≤ 2000000 := by have := HLE.out; omega
      have HQ : Hid (n + totO (L.take (k + 1)) = S + (x.m + 1)) := by have := HS.out; unfold Hid; omega
      have hkn : (k : Int) < (len : Int) := by omega
      have hBs : B ≤ wr.heap.size := by have := bw.size; omega
      clear hle hA0 hL hx HS HLE HT HN hS
      go_wp2
      go_roundw
      case rel => exact ⟨k + 1, by omega, by go_num, by rw [HQ.out]; go_num, bw.alloc hBs _⟩
      case measure => simp [intOf]; omega
    · have hkl : k = len := by omega
      have HE : Hid (totO (L.take k) = totO L) := by unfold Hid; rw [List.take_of_length_le (by rw [HN.out]; omega)]
      rw [HE.out]
      have hT2 := HT.out
      go_wp2
      go_ret
      exact ⟨by congr 3; simp; omega, bw⟩

/-- How a thing that is handed in is told. -/
def OR.abs (x : OR) : Int × List (Int × Int) := (laySort x.r, x.xs)

/-- Both heaps with the first things of a list. -/
def LaidK (B b r : Nat) (L : List OR) (k : Nat) (W : World) : Prop := ∃ sv sr T U, JI W B b r (cap0 0) 0 0 0 sv sr T U ∧ T.map Thing.abs = (L.take k).map OR.abs

theorem laid_len {L : List OR} {k : Nat} {T : List Thing} (h : T.map Thing.abs = (L.take k).map OR.abs) : T.length ≤ k := by
  have := congrArg List.length h
  simp at this
  omega

set_option maxRecDepth 100000 in
set_option maxHeartbeats 4000000 in
theorem laid_any (L : List OR) (w : World) (a0 : Option Addr) (len cap : Nat) (hlen : L.length = len) (hL : ORs w.heap.size w a0 L) (ht : totO L ≤ 300) (hsrc : ∀ (i : Nat) (x : OR), L[i]? = some x → Src w.heap.size w x.a x.m x.c x.xs) :
    Calls Tryd.prog 11 #[.slice a0 len cap] w fun e w' => e = .returned (.tuple #[.pointer (some ⟨w.heap.size, 0, none⟩), .pointer (some ⟨w.heap.size + 1, 0, none⟩)]) ∧ LaidK w.heap.size w.heap.size (w.heap.size + 1) L len w' ∧ Fr [] w w' := by
  have HN : Hid (L.length = len) := hlen
  have hlen2 : (len : Int) ≤ 300 := by have := totO_len L; omega
  have HV : Hid (∀ (i : Nat) (x : OR), L[i]? = some x → x.m ≤ 300) := fun i x hx => by have := totO_at L i x hx; omega
  clear ht hlen
  go_enter Tryd.func11, Tryd.ntmps11
  go_wp2_with fail
  refine (new_any 0 _).mono ?_
  rintro e w3 ⟨rfl, rfl⟩
  go_wp2_with fail
  refine (RNew_any 0 _).mono ?_
  rintro e w4 ⟨rfl, rfl⟩
  have J4 := JI.new w w.heap.size 0 (Nat.le_refl _)
  have f4 : Fr [] w ((w.alloc (.cells #[.bool true, .int .i64 (cap0 0), .int .i64 0, .slice none 0 0, .int .i64 0, .int .i64 0] 100)).alloc (.cells #[.slice none 0 0, .int .i64 (cap0 0), .int .i64 0, .int .i64 0, .int .i64 0] 70)) := ((Fr.refl _ _).alloc _).alloc _
  have hsz : (w.alloc (.cells #[.bool true, .int .i64 (cap0 0), .int .i64 0, .slice none 0 0, .int .i64 0, .int .i64 0] 100)).heap.size = w.heap.size + 1 := by simp
  rw [hsz]
  generalize (w.alloc (.cells #[.bool true, .int .i64 (cap0 0), .int .i64 0, .slice none 0 0, .int .i64 0, .int .i64 0] 100)).alloc (.cells #[.slice none 0 0, .int .i64 (cap0 0), .int .i64 0, .int .i64 0, .int .i64 0] 70) = w4 at *
  clear hsz
  go_wp2
  go_loopw [14] (fun i wr => ∃ k : Nat, k ≤ len ∧ i = .int .i64 k ∧ LaidK w.heap.size w.heap.size (w.heap.size + 1) L k wr ∧ Fr [] w wr) (fun i _ => len - (intOf i).toNat)
  case atStart => exact ⟨0, Nat.zero_le _, rfl, ⟨_, _, _, _, J4, by simp⟩, f4⟩
  case round =>
    obtain ⟨k, hk, rfl, ⟨sv, sr, T, U, J, hab⟩, fw⟩ := hrel
    clear J4 f4
    by_cases hlt : k < len
    · have hx : L[k]? = some (L[k]'(by rw [HN.out]; exact hlt)) := List.getElem?_eq_getElem _
      obtain ⟨g, o, rfl, hg, hA0⟩ := hL k _ hx
      have X0 := (hsrc k _ hx).fr fw (by simp)
      have hm := HV.out k _ hx
      have hA := hA0.below (fw.below (Nat.le_refl _) (by simp)) hg
      have HT : Hid (L.take (k + 1) = L.take k ++ [L[k]'(by rw [HN.out]; exact hlt)]) := by unfold Hid; rw [List.take_add_one, hx]; rfl
      generalize L[k]'(by rw [HN.out]; exact hlt) = x at *
      obtain ⟨c0, c1⟩ := hA
      have hkn : (k : Int) < (len : Int) := by omega
      have hTl := laid_len hab
      have hTU := J.len
      clear hA0 hL hx hsrc HV
      go_wp2_with fail
      have f0 : Fr [] wr (wr.alloc (.cells #[.int .i64 x.r, .slice x.a x.m x.c] 41)) := (Fr.refl _ _).alloc _
      have A0 : (wr.alloc (.cells #[.int .i64 x.r, .slice x.a x.m x.c] 41)).heap[wr.heap.size]? = some (.cells #[.int .i64 x.r, .slice x.a x.m x.c] 41) := heap_alloc_new wr _
      have J0 := J.frame f0 (by simp)
      have X1 := X0.fr f0 (by simp)
      have fb : ∀ k', sv.ownBlock = some k' → k' < wr.heap.size := fun k' hk' => (J.R.row.lt k' hk').2
      have fr : ∀ k', sr.ownBlock = some k' → k' < wr.heap.size := fun k' hk' => (J.Q.row.lt k' hk').2
      have hbl : w.heap.size < wr.heap.size := J.R.hb.lt
      have hrl : w.heap.size + 1 < wr.heap.size := J.Q.lt _ (by simp [rfoot])
      generalize wr.alloc (.cells #[.int .i64 x.r, .slice x.a x.m x.c] 41) = w0 at *
      have HB0 : Hid (w.heap.size + 1 < wr.heap.size) := hrl
      obtain ⟨kb, hkb⟩ : ∃ kb, wr.heap.size = kb := ⟨_, rfl⟩
      rw [hkb] at A0 fb fr hbl hrl ⊢
      refine (Lay_any J0.R x.r X1 (by omega) (by omega)).mono ?_
      rintro e w1 ⟨rfl, sv1, t, R1, s1, e1, n1, f1, k1⟩
      have Q1 := J0.Q.fr f1 (past_code J0.R J0.Q)
      have A1 := (f1.block _ (Array.getElem?_eq_some_iff.1 A0).1 (by simp only [List.mem_cons, Option.mem_toList, not_or]; exact ⟨by omega, fun e => by have := fb _ e; omega⟩)).trans A0
      have X2 := X1.fr f1 J0.R.low_foot
      have d0 := at_cells A1 0 (u := .int .i64 x.r) rfl
      have d1 := at_cells A1 1 (u := .slice x.a x.m x.c) rfl
      have hl0 := J0.R.low_foot
      clear c0 c1 hbl hrl fb
      go_wp2_with fail
      refine (rLay_any Q1 x.r X2 (by omega) T.length hTU (by omega)).mono ?_
      rintro e w2 ⟨rfl, sr2, u, Q2, s2, e2, n2, f2, k2⟩
      have J2 := J0.push (used' := 0) J.hu J.hul R1 f1 n1 Q2 f2 n2 (by simp [Thing.abs, RT.abs, s1, e1, s2, e2]) (by rw [s2]; unfold laySort; split <;> omega)
      have F2 : Fr [] w w2 := by
        have g1 : Fr [] w w1 := ((fw.trans f0).sub (T := w.heap.size :: sv.ownBlock.toList) (by simp) |>.trans f1).sub (fun k' hk' => .inr (hl0 k' hk'))
        exact (g1.sub (T := (w.heap.size + 1) :: sr.ownBlock.toList) (by simp) |>.trans f2).sub (fun k' hk' => .inr (Q1.low_foot k' hk'))
      have hab2 : (T ++ [t]).map Thing.abs = (L.take (k + 1)).map OR.abs := by
        rw [HT.out, List.map_append, List.map_append, hab]
        simp [Thing.abs, OR.abs, s1, e1]
      clear d0 d1 HT
      go_wp2
      go_roundw
      case rel => exact ⟨k + 1, by omega, by go_num, ⟨_, _, _, _, J2, hab2⟩, F2⟩
      case measure => simp [intOf]; omega
    · obtain rfl : k = len := by omega
      go_wp2
      refine bodyPost_ret (v := .tuple #[.pointer (some ⟨w.heap.size, 0, none⟩), .pointer (some ⟨w.heap.size + 1, 0, none⟩)]) (by simp [results, Tryd.results11, go_sem]) rfl ?_
      exact ⟨rfl, ⟨_, _, _, _, J, hab⟩, fw⟩
end Go.Proofs.YtefkcmeeagflmaaDoor
namespace Go.Proofs.YtefkcmeeagflmaaDoor
open Go.RowKit Go.Shelf

theorem under86 : Tryd.prog.underlying 86 = some (.slice 85) := by kernel_rfl
theorem info85 : (Tryd.prog.info? 85).map (fun i => (i.zero, i.size, i.bytes)) = some (some (.agg #[.string ⟨#[]⟩, .bool false, .int .i64 0, .int .i64 0]), 4, 40) := by kernel_rfl

/-- A blank. -/
def blank : ByteArray := ⟨#[32]⟩

/-- What stands ahead of the value at a place. -/
def lead (s : ByteArray) (k : Nat) : ByteArray := if k = 0 then s else blank

/-- A piece that tells a value. -/
def told (s : ByteArray) (x : Int × Int) : List Value := [.string s, .bool true, .int .i64 x.1, .int .i64 x.2]

/-- A piece that tells none. -/
def bare (s : ByteArray) : List Value := [.string s, .bool false, .int .i64 0, .int .i64 0]

/-- The pieces of a list of values. -/
def tolds (s : ByteArray) : List (Int × Int) → List (List Value)
  | [] => []
  | x :: r => told s x :: tolds blank r

theorem tolds_take : ∀ (xs : List (Int × Int)) (s : ByteArray) (k : Nat) (x : Int × Int), xs[k]? = some x → tolds s (xs.take (k + 1)) = tolds s (xs.take k) ++ [told (lead s k) x]
  | [], _, _, _, h => by simp at h
  | y :: r, s, 0, x, h => by simp at h; subst h; simp [tolds, lead]
  | y :: r, s, k + 1, x, h => by
      have h1 := tolds_take r blank k x (by simpa using h)
      have h2 : lead blank k = lead s (k + 1) := by unfold lead; split <;> simp
      rw [h2] at h1
      simp only [List.take_succ_cons, tolds, h1, List.cons_append]

theorem tolds_ok : ∀ (xs : List (Int × Int)) (s : ByteArray), s.size ≤ 100 → (∀ c, c ∈ xs → (Lit.int .i64 c.2).wf = true) → ∀ z : List Value, z ∈ tolds s xs → okT z
  | [], _, _, _, z, h => by simp [tolds] at h
  | y :: r, s, hs, hx, z, h => by
      simp only [tolds, List.mem_cons] at h
      rcases h with rfl | h
      · exact ⟨_, _, _, _, rfl, hx y (by simp), hs⟩
      · exact tolds_ok r blank (by decide) (fun c hc => hx c (by simp [hc])) z h

theorem tolds_length : ∀ (xs : List (Int × Int)) (s : ByteArray), (tolds s xs).length = xs.length
  | [], _ => rfl
  | y :: r, s => by simp [tolds, tolds_length r]

set_option maxRecDepth 100000 in
set_option maxHeartbeats 1000000 in
theorem pieces_any (W : World) (s e : ByteArray) (xs : List (Int × Int)) (n : Nat) (hxn : xs.length = n) (a1 : Option Addr) (c1 : Nat) (h1 : Lies W a1 xs) (hn : (n : Int) ≤ 1000000) :
    Calls Tryd.prog 31 #[.string s, .slice a1 n c1, .string e] W fun en W' => ∃ v, en = .returned v ∧ Fr [] W W' ∧ W'.ownsRow W.heap.size 85 4 v (n + 1) (tolds s xs ++ [bare e]).flatten := by
  obtain ⟨i, hi, hz, hs, hby⟩ := info_parts info85
  have HX : Hid (xs.length = n) := hxn
  clear hxn
  have hl0 : Value.string s = Value.string (lead s 0) := rfl
  go_enter Tryd.func31, Tryd.ntmps31
  go_wp2
  go_loopw [0, 7, 12] (fun t l i wr => ∃ k : Nat, k ≤ n ∧ i = .int .i64 k ∧ t = .string (lead s k) ∧ Fr [] W wr ∧ wr.ownsRow W.heap.size 85 4 l k (tolds s (xs.take k)).flatten) (fun _ _ i _ => n - (intOf i).toNat)
  case atStart => exact ⟨0, Nat.zero_le _, rfl, rfl, Fr.refl _ _, by simpa [tolds] using World.ownsRow_nil _ _ _ _⟩
  case round =>
    obtain ⟨k, hk, rfl, rfl, fw, ho⟩ := hrel
    by_cases hlt : k < n
    · have hx : xs[k]? = some (xs[k]'(by rw [HX.out]; exact hlt)) := List.getElem?_eq_getElem _
      have HZ : Hid (tolds s (xs.take (k + 1)) = tolds s (xs.take k) ++ [told (lead s k) (xs[k]'(by rw [HX.out]; exact hlt))]) := tolds_take _ _ _ _ hx
      obtain ⟨g1, o1, e1, p0, p1⟩ := (h1.fr fw (by simp)).at hx
      generalize xs[k]'(by rw [HX.out]; exact hlt) = p at *
      obtain ⟨la, lc, rfl, _⟩ := own_slice ho
      subst e1
      have hkn : (k : Int) < (n : Int) := by omega
      have f2 : Fr [] wr (wr.alloc (.cells #[.int .i64 p.1, .int .i64 p.2] 45)) := (Fr.refl _ _).alloc _
      have ho2 : (wr.alloc (.cells #[.int .i64 p.1, .int .i64 p.2] 45)).ownsRow W.heap.size 85 4 (.slice la k lc) k (tolds s (xs.take k)).flatten := ho.alloc _
      have hb2 : (wr.alloc (.cells #[.int .i64 p.1, .int .i64 p.2] 45)).heap[wr.heap.size]? = some (.cells #[.int .i64 p.1, .int .i64 p.2] 45) := heap_alloc_new wr _
      have b0 := at_cells hb2 0 (u := .int .i64 p.1) rfl
      have b1 := at_cells hb2 1 (u := .int .i64 p.2) rfl
      have F2 := fw.trans f2
      have hBs : W.heap.size ≤ (wr.alloc (.cells #[.int .i64 p.1, .int .i64 p.2] 45)).heap.size := F2.size
      have hmx : k + 1 ≤ maxLen := by have : maxLen = 9223372036854775807 := rfl; omega
      clear ho hb2
      go_wp2_with (at_builtin; go_loud (refine wpList_append_fp _ rfl _ _ 86 rfl W.heap.size 85 i _ 4 40 under86 hi hz hs hby rfl (by decide) (.slice la k lc) k (tolds s (xs.take k)).flatten rfl ?own _ 1 _ (told (lead s k) p) rfl rfl ?news ?one ?max (by omega) ?base ?_))
      case own => exact ho2.alloc _
      case news =>
        have q := cell_four_new (wr.alloc (.cells #[.int .i64 p.1, .int .i64 p.2] 45)) (.string (lead s k)) (.bool true) (.int .i64 p.1) (.int .i64 p.2) 85
        rw [World.size_alloc] at q
        exact q
      case one => simp [Value.oneCell', told]
      case max => exact hmx
      case base => simp; simp at hBs; omega
      intro v3 w3 ho3 hg3 hk3
      obtain ⟨a3, c3, rfl, _⟩ := own_slice ho3
      have F3 : Fr (Value.slice la k lc).ownBlock.toList W w3 := Fr.trans (Fr.sub (S := []) (F2.alloc _) (by simp)) (Fr.ofGrown hg3)
      have f3 : Fr [] W w3 := F3.sub (fun j hj => .inr (by simp only [Option.mem_toList] at hj; exact (ho2.lt j hj).1))
      clear b0 b1 p0 p1 hg3 hk3 ho2
      go_wp2
      go_roundw
      case rel => exact ⟨k + 1, by omega, by go_num, by simp [lead, blank], f3, by rw [HZ.out]; simpa using ho3⟩
      case measure => simp [intOf]; omega
    · obtain rfl : k = n := by omega
      have HE : Hid (xs.take k = xs) := by unfold Hid; rw [List.take_of_length_le (by rw [HX.out]; omega)]
      rw [HE.out] at ho
      obtain ⟨la, lc, rfl, _⟩ := own_slice ho
      have hmx : k + 1 ≤ maxLen := by have : maxLen = 9223372036854775807 := rfl; omega
      have hBs : W.heap.size ≤ wr.heap.size := fw.size
      go_wp2_with (at_builtin; go_loud (refine wpList_append_fp _ rfl _ _ 86 rfl W.heap.size 85 i _ 4 40 under86 hi hz hs hby rfl (by decide) (.slice la k lc) k (tolds s xs).flatten rfl ?own _ 1 _ (bare e) rfl rfl ?news ?one ?max (by omega) ?base ?_))
      case own => exact ho.alloc _
      case news => exact cell_four_new _ _ _ _ _ _
      case one => simp [Value.oneCell', bare]
      case max => exact hmx
      case base => simp; omega
      intro v3 w3 ho3 hg3 hk3
      obtain ⟨a3, c3, rfl, _⟩ := own_slice ho3
      have F3 : Fr (Value.slice la k lc).ownBlock.toList W w3 := Fr.trans (Fr.sub (S := []) (fw.alloc _) (by simp)) (Fr.ofGrown hg3)
      have f3 : Fr [] W w3 := F3.sub (fun j hj => .inr (by simp only [Option.mem_toList] at hj; exact (ho.lt j hj).1))
      go_wp2
      go_ret
      exact ⟨_, rfl, f3, by simpa using ho3⟩
end Go.Proofs.YtefkcmeeagflmaaDoor
