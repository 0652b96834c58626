/-
  All tokens of a text, or the first fault, by the program; conditions: the tables lie as the program's text lays them, the text is not too long.
-/
import Derived.Test.YtekjfddcbcijdaaGreatDoorLexR
namespace Go.Proofs.YtekjfddcbcijdaaGreatDoor
open Go.RowKit Go.Shelf
set_option maxRecDepth 100000
attribute [local go_sem] Oper.semAt_some store_func

theorem under42 : Tryz.prog.underlying 32 = some (.slice 43) := by kernel_rfl
theorem info56 : (Tryz.prog.info? 43).map (fun i => (i.zero, i.size, i.bytes)) = some (some (.agg #[.int .i64 0, .string ⟨#[]⟩, .int .i64 0, .int .i64 0, .int .i64 0]), 5, 48) := by kernel_rfl

/-- Tokens as cells. -/
def flatT : List Tok → List Value
  | [] => []
  | t :: r => (tokA t).toList ++ flatT r
theorem flatT_append (a b : List Tok) : flatT (a ++ b) = flatT a ++ flatT b := by
  induction a with
  | nil => rfl
  | cons t r ih => simp [flatT, ih]
theorem flatT_one (t : Tok) : flatT [t] = (tokA t).toList := by simp [flatT]
theorem tok_new (w : World) (v0 v1 v2 v3 v4 : Value) : ∀ j u, [v0, v1, v2, v3, v4][j]? = some u → (w.alloc (.cells #[v0, v1, v2, v3, v4] 43)).cell? ((⟨w.heap.size, 0, none⟩ : Addr).add j) = some u := by
  intro j u hu
  have hadd : (⟨w.heap.size, 0, none⟩ : Addr).add j = ⟨w.heap.size, j, none⟩ := by unfold Addr.add; split <;> simp_all
  rw [hadd]
  exact at_cells (heap_alloc_new w _) j (by simpa using hu)

/-- What Scan keeps from round to round. -/
structure SG (w0 : World) (N l D : Nat) (rec : LoopState → Option Code → Loop) (d : List Tok) (W : World) : Prop where
  old : Fr [] w0 W
  r0 : W.heap[N]? = some (.cells #[.slice none 0 0] 32 (0, 0))
  r1 : W.heap[N + 1]? = some (.cells #[.int .i64 0] 3 (0, 0))
  r2 : W.heap[N + 1 + 1]? = some (.cells #[.int .i64 0] 24 (0, 0))
  box : ∃ sv, W.heap[N + 1 + 1 + 1]? = some (.cells #[sv] 32 (0, 0)) ∧ W.ownsRow (N + 7) 43 5 sv d.length (flatT d)
  rd : W.heap[l]? = some (.loop (rec .ready none))
  dfr : W.heap[D]? = some (.deferred (some []))
  len : d.length ≤ 200000

/-- How its loop ends. -/
def SQ (w0 : World) (N l D : Nat) (rec : LoopState → Option Code → Loop) : Res → World → Prop
  | .inl d, W => SG w0 N l D rec d W
  | .inr (.inl (_, p, e)), W => Fr [] w0 W ∧ W.heap[N]? = some (.cells #[.slice none 0 0] 32 (0, 0)) ∧ W.heap[N + 1]? = some (.cells #[.int .i64 (p : Nat)] 3 (0, 0)) ∧ W.heap[N + 1 + 1]? = some (.cells #[.int .i64 (e : Nat)] 24 (0, 0)) ∧ W.heap[l]? = some (.loop (rec .done (some .ret))) ∧ W.heap[D]? = some (.deferred (some []))
  | .inr (.inr _), _ => False

theorem SG.fr {w0 : World} {N l D : Nat} {rec : LoopState → Option Code → Loop} {d : List Tok} {W W' : World} (h : SG w0 N l D rec d W) (f : Fr [] W W') : SG w0 N l D rec d W' := by
  have kp : ∀ {k o}, W.heap[k]? = some o → W'.heap[k]? = some o := fun hk => (f.block _ (Array.getElem?_eq_some_iff.1 hk).1 (by simp)).trans hk
  obtain ⟨sv, hb, ho⟩ := h.box
  exact ⟨h.old.trans f, kp h.r0, kp h.r1, kp h.r2, ⟨sv, kp hb, own_fr ho f (fun _ _ => by simp)⟩, kp h.rd, kp h.dfr, h.len⟩

/-- What Scan hands back. -/
def scOut (s : ByteArray) (w w' : World) (e : Ending) : Prop :=
  match sc s 0 with
  | (ts, none) => ∃ v, e = .returned (.tuple #[v, .int .i64 0, .int .i64 0]) ∧ w'.ownsRow w.heap.size 43 5 v (ts.length + 1) (flatT (ts ++ [⟨0, [], s.size, s.size, 0⟩]))
  | (_, some (p, c)) => e = .returned (.tuple #[.slice none 0 0, .int .i64 (p : Nat), .int .i64 (c : Nat)])

theorem scOut_some {s : ByteArray} {w w' : World} {ts : List Tok} {p c : Nat} (h : sc s 0 = (ts, some (p, c))) : scOut s w w' (.returned (.tuple #[.slice none 0 0, .int .i64 (p : Nat), .int .i64 (c : Nat)])) := by
  unfold scOut; rw [h]
theorem scOut_none {s : ByteArray} {w w' : World} {ts : List Tok} {v : Value} (h : sc s 0 = (ts, none)) (ho : w'.ownsRow w.heap.size 43 5 v (ts.length + 1) (flatT (ts ++ [⟨0, [], s.size, s.size, 0⟩]))) : scOut s w w' (.returned (.tuple #[v, .int .i64 0, .int .i64 0])) := by
  unfold scOut; rw [h]; exact ⟨v, rfl, ho⟩

theorem blkN (w : World) (a b c d : Obj) : (((((w.alloc a).alloc b).alloc c).alloc d)).heap.size = w.heap.size + 4 := by simp

theorem walkT_all (d ts : List Tok) (er : Option (Nat × Nat)) : walkT (fun _ => true) d ts er = match er with | none => .inl (d ++ ts) | some x => .inr (.inl ((d ++ ts), x.1, x.2)) := by
  induction ts generalizing d with
  | nil => cases er <;> simp [walkT]
  | cons t ts ih =>
    simp only [walkT, if_true]
    rw [ih]
    cases er <;> simp

theorem own_low {w : World} {B B' n : Nat} {e : TypeId} {size : Nat} {v : Value} {xs : List Value} (h : w.ownsRow B e size v n xs) (hB : B' ≤ B) : w.ownsRow B' e size v n xs :=
  ⟨h.1, h.2.imp id (fun ⟨g, cap, cur, e1, e2, r⟩ => ⟨g, cap, cur, e1, Nat.le_trans hB e2, r⟩)⟩

theorem set_same {W : World} {k : Nat} {u v : Value} {t : TypeId} {z : Nat × Nat} (h : W.heap[k]? = some (.cells #[u] t z)) : (W.setCell ⟨k, 0, none⟩ v).heap[k]? = some (.cells #[v] t z) := by simp [World.setCell, Array.getElem?_modify, h]
theorem set_other {W : World} {k j : Nat} {v : Value} {o : Obj} (hk : k ≠ j) (h : W.heap[k]? = some o) : (W.setCell ⟨j, 0, none⟩ v).heap[k]? = some o := (Below.heap_setCell _ _ _ _ (by simpa using hk)).trans h

/-- Three cells are written. -/
theorem set3 {w X1 : World} {N l D : Nat} {p er : Int} {r : Loop} {r' : Loop} (hN : N = w.heap.size) (q0 : X1.heap[N]? = some (.cells #[.slice none 0 0] 32 (0, 0))) (q1 : X1.heap[N + 1]? = some (.cells #[.int .i64 0] 3 (0, 0))) (q2 : X1.heap[N + 1 + 1]? = some (.cells #[.int .i64 0] 24 (0, 0)))
    (hl : X1.heap[l]? = some (.loop r)) (hd : X1.heap[D]? = some (.deferred (some []))) (l1 : N + 1 + 1 < l) (l2 : N + 1 + 1 < D) (l3 : D ≠ l) (hO : Fr [] w X1) (X2 : World) (hX : X2 = (((X1.setCell ⟨N, 0, none⟩ (.slice none 0 0)).setCell ⟨N + 1, 0, none⟩ (.int .i64 p)).setCell ⟨N + 1 + 1, 0, none⟩ (.int .i64 er)).drew) :
    X2.heap[l]? = some (.loop r) ∧ Fr [] w (X2.putObj l (.loop r')) ∧ (X2.putObj l (.loop r')).heap[N]? = some (.cells #[.slice none 0 0] 32 (0, 0)) ∧ (X2.putObj l (.loop r')).heap[N + 1]? = some (.cells #[.int .i64 p] 3 (0, 0)) ∧ (X2.putObj l (.loop r')).heap[N + 1 + 1]? = some (.cells #[.int .i64 er] 24 (0, 0)) ∧ (X2.putObj l (.loop r')).heap[l]? = some (.loop r') ∧ (X2.putObj l (.loop r')).heap[D]? = some (.deferred (some [])) := by
  have A0 : X2.heap[N]? = some (.cells #[.slice none 0 0] 32 (0, 0)) := by
    rw [hX]; exact set_other (by omega) (set_other (by omega) (set_same q0))
  have A1 : X2.heap[N + 1]? = some (.cells #[.int .i64 p] 3 (0, 0)) := by
    rw [hX]; exact set_other (by omega) (set_same (set_other (by omega) q1))
  have A2 : X2.heap[N + 1 + 1]? = some (.cells #[.int .i64 er] 24 (0, 0)) := by
    rw [hX]; exact set_same (set_other (by omega) (set_other (by omega) q2))
  have f5 : Fr [N, N + 1, N + 1 + 1] X1 X2 := by
    rw [hX]; exact ((((Fr.refl _ _).setCell (.inl (by simp)) _).setCell (.inl (by simp)) _).setCell (.inl (by simp)) _).drew
  have D2 := (f5.block _ (Array.getElem?_eq_some_iff.1 hd).1 (by simp; omega)).trans hd
  have L2 := (f5.block _ (Array.getElem?_eq_some_iff.1 hl).1 (by simp; omega)).trans hl
  have O2 : Fr [] w X2 := ((hO.sub (T := [N, N + 1, N + 1 + 1]) (by simp)).trans f5).sub (fun k hk => .inr (by simp at hk; omega))
  have f6 := Fr.putObj (W := X2) (l := l) (.loop r')
  have k6 : ∀ {k : Nat} {o : Obj}, k ≠ l → X2.heap[k]? = some o → (X2.putObj l (.loop r')).heap[k]? = some o := fun hk h1 => (World.putObj_heap_other hk).trans h1
  exact ⟨L2, ((O2.sub (T := [l]) (by simp)).trans f6).sub (fun k hk => .inr (by simp at hk; omega)), k6 (by omega) A0, k6 (by omega) A1, k6 (by omega) A2, World.putObj_heap_same (Array.getElem?_eq_some_iff.1 L2).1, k6 l3 D2⟩

set_option maxRecDepth 100000 in
set_option maxHeartbeats 4000000 in
theorem scan_any (s : ByteArray) (w : World) (hs : s.size ≤ 200000) (T : Tabs w) :
    Calls Tryz.prog 7 #[.string s] w fun e w' => scOut s w w' e ∧ Fr [] w w' := by
  obtain ⟨i5, hi, hz, hz1, hby⟩ := info_parts info56
  have HS : Hid (s.size ≤ 200000) := hs
  refine callsIn_wide.1 (callsIn_of_wp_marks (n := 0) Tryz.func7 rfl trivial ?_ rfl)
  simp only [Tryz.ntmps7, List.size_toArray, List.length_cons, List.length_nil, Nat.reduceAdd, Nat.reduceSub, Array.replicate_succ, Array.replicate_zero, List.push_toArray, List.append_toArray, List.nil_append, List.cons_append]
  gi_wp2
  have F0 : Fr [] w ((((w.alloc (.cells #[.slice none 0 0] 32)).alloc (.cells #[.int .i64 0] 3)).alloc (.cells #[.int .i64 0] 24)).alloc (.cells #[.slice none 0 0] 32)) := ((((Fr.refl _ _).alloc _).alloc _).alloc _).alloc _
  have R0 : ((((w.alloc (.cells #[.slice none 0 0] 32)).alloc (.cells #[.int .i64 0] 3)).alloc (.cells #[.int .i64 0] 24)).alloc (.cells #[.slice none 0 0] 32)).heap[w.heap.size]? = some (.cells #[.slice none 0 0] 32 (0, 0)) := by
    rw [Below.heap_alloc _ _ _ (by simp; omega), Below.heap_alloc _ _ _ (by simp; omega), Below.heap_alloc _ _ _ (by simp)]
    exact heap_alloc_new w _
  have R1 : ((((w.alloc (.cells #[.slice none 0 0] 32)).alloc (.cells #[.int .i64 0] 3)).alloc (.cells #[.int .i64 0] 24)).alloc (.cells #[.slice none 0 0] 32)).heap[w.heap.size + 1]? = some (.cells #[.int .i64 0] 3 (0, 0)) := by
    rw [Below.heap_alloc _ _ _ (by simp), Below.heap_alloc _ _ _ (by simp)]
    exact blk2 w _ _
  have R2 : ((((w.alloc (.cells #[.slice none 0 0] 32)).alloc (.cells #[.int .i64 0] 3)).alloc (.cells #[.int .i64 0] 24)).alloc (.cells #[.slice none 0 0] 32)).heap[w.heap.size + 1 + 1]? = some (.cells #[.int .i64 0] 24 (0, 0)) := by
    rw [Below.heap_alloc _ _ _ (by simp)]
    have := blk2 (w.alloc (.cells #[.slice none 0 0] 32)) (.cells #[.int .i64 0] 3) (.cells #[.int .i64 0] 24)
    simpa using this
  have R3 : ((((w.alloc (.cells #[.slice none 0 0] 32)).alloc (.cells #[.int .i64 0] 3)).alloc (.cells #[.int .i64 0] 24)).alloc (.cells #[.slice none 0 0] 32)).heap[w.heap.size + 1 + 1 + 1]? = some (.cells #[.slice none 0 0] 32 (0, 0)) := by
    have := blk2 ((w.alloc (.cells #[.slice none 0 0] 32)).alloc (.cells #[.int .i64 0] 3)) (.cells #[.int .i64 0] 24) (.cells #[.slice none 0 0] 32)
    simpa using this
  have hs0 := blkN w (.cells #[.slice none 0 0] 32) (.cells #[.int .i64 0] 3) (.cells #[.int .i64 0] 24) (.cells #[.slice none 0 0] 32)
  generalize (((w.alloc (.cells #[.slice none 0 0] 32)).alloc (.cells #[.int .i64 0] 3)).alloc (.cells #[.int .i64 0] 24)).alloc (.cells #[.slice none 0 0] 32) = w0 at *
  refine ⟨trivial, rfl, (callsIn_wide.2 (tokens_any s w0)).mono ?_⟩
  rintro e w1 ⟨rfl, rfl⟩
  have F1 : Fr [] w0 (w0.alloc (.cells #[.string s] 9)) := (Fr.refl _ _).alloc _
  have B1 : (w0.alloc (.cells #[.string s] 9)).heap[w0.heap.size]? = some (.cells #[.string s] 9 (0, 0)) := heap_alloc_new w0 _
  have hs1 : (w0.alloc (.cells #[.string s] 9)).heap.size = w.heap.size + 5 := by simp [hs0]
  rw [hs0] at B1 ⊢
  have G1 := F0.trans F1
  have kp : ∀ {k o}, w0.heap[k]? = some o → (w0.alloc (.cells #[.string s] 9)).heap[k]? = some o := fun hk => (F1.block _ (Array.getElem?_eq_some_iff.1 hk).1 (by simp)).trans hk
  have R0 := kp R0
  have R1 := kp R1
  have R2 := kp R2
  have R3 := kp R3
  clear kp
  generalize w0.alloc (.cells #[.string s] 9) = w1 at *
  have HS1 : Hid (w1.heap.size = w.heap.size + 5) := hs1
  clear hs1 hs0 F0 F1
  gi_wp2
  refine range_outer (gf := 17) (lb := #[.pointer (some ⟨w.heap.size + 4, 0, none⟩)]) rfl (enters_of Tryz.func17 (by kernel_rfl) rfl) ?_
  intro rec hYr
  show CallsIn Fence.wide 0 Tryz.prog 17 #[.func (.yield (w1.heap.size + 1)) #[] #[], .pointer (some ⟨w.heap.size + 4, 0, none⟩)] _ _
  have f2 : Fr [] w1 ((w1.alloc (.deferred (some []))).alloc (.loop (rec .ready none))) := ((Fr.refl _ _).alloc _).alloc _
  have hL2 := blk2 w1 (.deferred (some [])) (.loop (rec .ready none))
  have hD2 : ((w1.alloc (.deferred (some []))).alloc (.loop (rec .ready none))).heap[w1.heap.size]? = some (.deferred (some [])) := (Below.heap_alloc _ _ _ (by simp)).trans (heap_alloc_new w1 _)
  have hs2 : ((w1.alloc (.deferred (some []))).alloc (.loop (rec .ready none))).heap.size = w1.heap.size + 2 := by simp
  generalize (w1.alloc (.deferred (some []))).alloc (.loop (rec .ready none)) = w2 at *
  have hD : w1.heap.size = w.heap.size + 5 := HS1.out
  rw [hD] at hL2 hD2 hs2 hYr ⊢
  have G2 := G1.trans f2
  have kp : ∀ {k o}, w1.heap[k]? = some o → w2.heap[k]? = some o := fun hk => (f2.block _ (Array.getElem?_eq_some_iff.1 hk).1 (by simp)).trans hk
  have T2 := T.fr G2 (by simp)
  have hN3 : 6 ≤ w.heap.size := T.len
  refine (tokens1 (fun _ => true) (SG w w.heap.size (w.heap.size + 5 + 1) (w.heap.size + 5) rec) (SQ w w.heap.size (w.heap.size + 5 + 1) (w.heap.size + 5) rec) s hs (w.heap.size + 4) (w.heap.size + 5 + 1)
    (fun d W h => h) ?_ ?_ w2 ⟨G2, kp R0, kp R1, kp R2, ⟨_, kp R3, World.ownsRow_nil _ _ _ _⟩, hL2, hD2, by simp⟩ T2 (kp B1)).mono ?_
  · intro d t X0 X hdl hg0 hF hT
    have hg := hg0.fr hF
    have hta : Hid (flatT (d ++ [t]) = flatT d ++ [.int .i64 t.kind, .string ⟨t.text.toArray⟩, .int .i64 t.frm, .int .i64 t.to, .int .i64 t.n]) := by
      show _ = _
      rw [flatT_append, flatT_one]
      rfl
    unfold tokA
    generalize (t.kind : Int) = x0 at hta ⊢
    generalize (⟨t.text.toArray⟩ : ByteArray) = x1 at hta ⊢
    generalize (t.frm : Int) = x2 at hta ⊢
    generalize (t.to : Int) = x3 at hta ⊢
    generalize (t.n : Int) = x4 at hta ⊢
    have HD : Hid (w1.heap.size = w.heap.size + 5) := hD
    have HDL : Hid (d.length + 1 ≤ 200000) := Nat.le_trans hdl HS.out
    have HX0 : Hid (w.heap.size + 6 < X0.heap.size) := (Array.getElem?_eq_some_iff.1 hg0.rd).1
    clear hD HS1 hdl
    refine hYr _ X _ rfl hg.rd ?_
    clear hYr
    gi_wp2
    have hgA := hg.fr (Fr.alloc (Fr.refl _ X) (.cells #[.int .i64 x0, .string x1, .int .i64 x2, .int .i64 x3, .int .i64 x4] 43))
    have uA := TB.new X (.int .i64 x0) (.string x1) (.int .i64 x2) (.int .i64 x3) (.int .i64 x4)
    have fA : Fr [] X (X.alloc (.cells #[.int .i64 x0, .string x1, .int .i64 x2, .int .i64 x3, .int .i64 x4] 43)) := (Fr.refl _ _).alloc _
    refine ⟨hgA.rd, ?_⟩
    have hXs : Hid (w.heap.size + 6 < X.heap.size) := (Array.getElem?_eq_some_iff.1 hg.rd).1
    have hloX : ∃ sv0, Hid (∀ k, sv0.ownBlock = some k → w.heap.size + 7 ≤ k ∧ k < X0.heap.size) ∧ X.heap[w.heap.size + 1 + 1 + 1]? = some (.cells #[sv0] 32 (0, 0)) := by
      obtain ⟨sv0, hb0, ho0⟩ := hg0.box
      exact ⟨sv0, fun k hk => ho0.lt k hk, (hF.block _ (Array.getElem?_eq_some_iff.1 hb0).1 (by simp)).trans hb0⟩
    obtain ⟨sv0, hl0, hb0⟩ := hloX
    generalize X.alloc (.cells #[.int .i64 x0, .string x1, .int .i64 x2, .int .i64 x3, .int .i64 x4] 43) = XA at *
    obtain ⟨sv, hb, ho⟩ := hgA.box
    obtain rfl : sv0 = sv := by
      have := (fA.block _ (Array.getElem?_eq_some_iff.1 hb0).1 (by simp)).trans hb0
      rw [hb] at this
      simp at this
      exact this.symm
    clear hb0
    generalize hCC : X.heap.size = C at *
    have hbl := (Array.getElem?_eq_some_iff.1 hgA.rd).1
    have f1 := Fr.putObj (W := XA) (l := w.heap.size + 5 + 1) (.loop (rec .busy none))
    have hz1' := World.putObj_heap_same (w := XA) (r := w.heap.size + 5 + 1) (o := .loop (rec .busy none)) hbl
    have q0 : (XA.putObj (w.heap.size + 5 + 1) (.loop (rec .busy none))).heap[w.heap.size]? = _ := (World.putObj_heap_other (by omega)).trans hgA.r0
    have q1 : (XA.putObj (w.heap.size + 5 + 1) (.loop (rec .busy none))).heap[w.heap.size + 1]? = _ := (World.putObj_heap_other (by omega)).trans hgA.r1
    have q2 : (XA.putObj (w.heap.size + 5 + 1) (.loop (rec .busy none))).heap[w.heap.size + 1 + 1]? = _ := (World.putObj_heap_other (by omega)).trans hgA.r2
    have hb1 : (XA.putObj (w.heap.size + 5 + 1) (.loop (rec .busy none))).heap[w.heap.size + 1 + 1 + 1]? = _ := (World.putObj_heap_other (by omega)).trans hb
    have hd1 : (XA.putObj (w.heap.size + 5 + 1) (.loop (rec .busy none))).heap[w.heap.size + 5]? = _ := (World.putObj_heap_other (by omega)).trans hgA.dfr
    have u1 : TB (XA.putObj (w.heap.size + 5 + 1) (.loop (rec .busy none))) C _ _ _ _ _ := uA.fr f1 (by simp; have := hXs.out; omega)
    have ho1 := own_fr ho f1 (fun k hk => by simp; have := (hl0.out k hk).1; omega)
    have f01 : Fr [w.heap.size + 5 + 1] X (XA.putObj (w.heap.size + 5 + 1) (.loop (rec .busy none))) := (fA.sub (by simp)).trans f1
    have hO1 : Fr [] w (XA.putObj (w.heap.size + 5 + 1) (.loop (rec .busy none))) := ((hgA.old.sub (T := [w.heap.size + 5 + 1]) (by simp)).trans f1).sub (fun k hk => .inr (by simp at hk; omega))
    have ca := at_cells hb1 0 rfl
    have hsz : Hid (C < (XA.putObj (w.heap.size + 5 + 1) (.loop (rec .busy none))).heap.size) := u1.lt
    generalize XA.putObj (w.heap.size + 5 + 1) (.loop (rec .busy none)) = X1 at *
    clear hbl f1 uA fA hb ho hgA hg
    have e0 := u1.c0
    have e1 := u1.c1
    have e2 := u1.c2
    have e3 := u1.c3
    have e4 := u1.c4
    have hnew := tok_new X1 (.int .i64 x0) (.string x1) (.int .i64 x2) (.int .i64 x3) (.int .i64 x4)
    have HCC : Hid (X.heap.size = C) := hCC
    clear hCC
    gi_wp2_with (gi_at_builtin; refine wpListIn_append_own_at _ rfl _ _ 32 rfl (w.heap.size + 7) 43 i5 (.agg #[.int .i64 0, .string ⟨#[]⟩, .int .i64 0, .int .i64 0, .int .i64 0]) 5 48 under42 hi hz hz1 hby rfl (by decide) sv0 d.length (flatT d) rfl (ho1.alloc _) ⟨X1.heap.size, 0, none⟩ 1 1 [.int .i64 x0, .string x1, .int .i64 x2, .int .i64 x3, .int .i64 x4] rfl rfl hnew (by simp [Value.oneCell']) (by have := HDL.out; have : maxLen = 9223372036854775807 := rfl; omega) (by have := HDL.out; omega) (by have := hXs.out; have := hsz.out; simp; omega) ?_)
    intro v1 w3 hown1 hgrow hnil hloc
    have f2 : Fr sv0.ownBlock.toList X1 w3 := ((Fr.refl _ _).alloc _).trans ((Fr.ofGrown hgrow).sub (fun k hk => .inl hk))
    have keep : ∀ {k : Nat} {o : Obj}, k < w.heap.size + 7 → X1.heap[k]? = some o → w3.heap[k]? = some o := fun hk h1 => (f2.block _ (Array.getElem?_eq_some_iff.1 h1).1 (fun hm => by have := (hl0.out _ (by simpa using hm)).1; omega)).trans h1
    have q0' := keep (by omega) q0
    have q1' := keep (by omega) q1
    have q2' := keep (by omega) q2
    have hb2 := keep (by omega) hb1
    have hd2 := keep (by omega) hd1
    have hz2 := keep (by omega) hz1'
    have cb1 := at_cells hb2 0 rfl
    have fb1 : w3.frozen? ⟨w.heap.size + 1 + 1 + 1, 0, none⟩ = false := by simp [World.frozen?, hb2]
    obtain ⟨av, cv, hv, _⟩ := own_slice hown1
    subst hv
    have hlo1 : Hid (∀ k, (Value.slice av (d.length + 1) cv).ownBlock = some k → w.heap.size + 7 ≤ k) := fun k hk => (hown1.lt k hk).1
    clear ca hgrow e0 e1 e2 e3 e4 hnew keep u1
    gi_wp2
    have f3 : Fr [w.heap.size + 1 + 1 + 1] w3 (w3.setCell ⟨w.heap.size + 1 + 1 + 1, 0, none⟩ (.slice av (d.length + 1) cv)) := Fr.setCell (Fr.refl _ _) (.inl (by simp)) _
    have hb3 : (w3.setCell ⟨w.heap.size + 1 + 1 + 1, 0, none⟩ (.slice av (d.length + 1) cv)).heap[w.heap.size + 1 + 1 + 1]? = some (.cells #[.slice av (d.length + 1) cv] 32 (0, 0)) := by simp [World.setCell, Array.getElem?_modify, hb2]
    have keep3 : ∀ {k : Nat} {o : Obj}, k ≠ w.heap.size + 1 + 1 + 1 → w3.heap[k]? = some o → (w3.setCell ⟨w.heap.size + 1 + 1 + 1, 0, none⟩ (.slice av (d.length + 1) cv)).heap[k]? = some o := fun hk h1 => (f3.block _ (Array.getElem?_eq_some_iff.1 h1).1 (by simpa using hk)).trans h1
    have q0'' := keep3 (by omega) q0'
    have q1'' := keep3 (by omega) q1'
    have q2'' := keep3 (by omega) q2'
    have hd3 := keep3 (by omega) hd2
    have hz3 := keep3 (by omega) hz2
    have hown3 := own_fr hown1 f3 (fun k hk => by simp; have := hlo1.out k hk; omega)
    have hO3 : Fr [] w (w3.setCell ⟨w.heap.size + 1 + 1 + 1, 0, none⟩ (.slice av (d.length + 1) cv)) := ((hO1.sub (T := (w.heap.size + 1 + 1 + 1) :: sv0.ownBlock.toList) (by simp)).trans ((f2.sub (fun k hk => .inl (by simp at hk; simp [hk]))).trans (f3.sub (fun k hk => .inl (by simp at hk; simp [hk]))))).sub (fun k hk => .inr (by
      simp only [List.mem_cons, Option.mem_toList] at hk
      rcases hk with rfl | hk
      · omega
      · have := (hl0.out k hk).1; omega))
    have hM3 : Fr ((w.heap.size + 5 + 1) :: (w.heap.size + 1 + 1 + 1) :: sv0.ownBlock.toList) X (w3.setCell ⟨w.heap.size + 1 + 1 + 1, 0, none⟩ (.slice av (d.length + 1) cv)) :=
      (f01.sub (fun k hk => .inl (by simp at hk; simp [hk]))).trans ((f2.sub (fun k hk => .inl (by simp at hk; simp [hk]))).trans (f3.sub (fun k hk => .inl (by simp at hk; simp [hk]))))
    clear keep3
    generalize w3.setCell ⟨w.heap.size + 1 + 1 + 1, 0, none⟩ (.slice av (d.length + 1) cv) = w4 at *
    have hl4 := (Array.getElem?_eq_some_iff.1 hz3).1
    refine ⟨hz3, rfl, ⟨(w.heap.size + 5 + 1) :: (w.heap.size + 1 + 1 + 1) :: sv0.ownBlock.toList, ?_, ?_⟩, ?_⟩
    · exact hM3.trans ((Fr.putObj _).sub (fun k hk => .inl (by simp at hk; simp [hk])))
    · intro j hj
      simp only [List.mem_cons, Option.mem_toList] at hj
      have h0 := HX0.out
      have hC := HCC.out
      rcases hj with rfl | rfl | hj
      · exact ⟨by omega, by omega, by omega⟩
      · exact ⟨by omega, by omega, by omega⟩
      · have := hl0.out j hj
        exact ⟨by omega, by omega, by omega⟩
    · have f4 := Fr.putObj (W := w4) (l := w.heap.size + 5 + 1) (.loop (rec .ready none))
      have k4 : ∀ {k : Nat} {o : Obj}, k ≠ w.heap.size + 5 + 1 → w4.heap[k]? = some o → (w4.putObj (w.heap.size + 5 + 1) (.loop (rec .ready none))).heap[k]? = some o := fun hk h1 => (World.putObj_heap_other hk).trans h1
      have hown4 := own_fr hown3 f4 (fun k hk => by simp; have := hlo1.out k hk; omega)
      refine ⟨((hO3.sub (T := [w.heap.size + 5 + 1]) (by simp)).trans f4).sub (fun k hk => .inr (by simp at hk; omega)), k4 (by omega) q0'', k4 (by omega) q1'', k4 (by omega) q2'', ⟨_, k4 (by omega) hb3, ?_⟩, World.putObj_heap_same hl4, k4 (by omega) hd3, by have := HDL.out; simp; omega⟩
      rw [hta.out]
      simpa using hown4
  · intro d p er X0 X hg0 hF hT hne
    have hg := hg0.fr hF
    have hne' : ((er : Int) != 0) = true := by simp; omega
    have HD : Hid (w1.heap.size = w.heap.size + 5) := hD
    clear hD HS1 hne
    generalize hP : (p : Int) = p' at *
    generalize hErr : (er : Int) = er' at *
    refine hYr _ X _ rfl hg.rd ?_
    clear hYr
    gi_wp2
    have hgA := hg.fr (Fr.alloc (Fr.refl _ X) (.cells #[.int .i64 0, .string ⟨#[]⟩, .int .i64 p', .int .i64 0, .int .i64 0] 43))
    have uA := TB.new X (.int .i64 0) (.string ⟨#[]⟩) (.int .i64 p') (.int .i64 0) (.int .i64 0)
    have fA : Fr [] X (X.alloc (.cells #[.int .i64 0, .string ⟨#[]⟩, .int .i64 p', .int .i64 0, .int .i64 0] 43)) := (Fr.refl _ _).alloc _
    refine ⟨hgA.rd, ?_⟩
    have hXs : Hid (w.heap.size + 6 < X.heap.size) := (Array.getElem?_eq_some_iff.1 hg.rd).1
    generalize X.alloc (.cells #[.int .i64 0, .string ⟨#[]⟩, .int .i64 p', .int .i64 0, .int .i64 0] 43) = XA at *
    generalize hCC : X.heap.size = C at *
    have hbl := (Array.getElem?_eq_some_iff.1 hgA.rd).1
    have f1 := Fr.putObj (W := XA) (l := w.heap.size + 5 + 1) (.loop (rec .busy none))
    have hz1' := World.putObj_heap_same (w := XA) (r := w.heap.size + 5 + 1) (o := .loop (rec .busy none)) hbl
    have q0 : (XA.putObj (w.heap.size + 5 + 1) (.loop (rec .busy none))).heap[w.heap.size]? = _ := (World.putObj_heap_other (by omega)).trans hgA.r0
    have q1 : (XA.putObj (w.heap.size + 5 + 1) (.loop (rec .busy none))).heap[w.heap.size + 1]? = _ := (World.putObj_heap_other (by omega)).trans hgA.r1
    have q2 : (XA.putObj (w.heap.size + 5 + 1) (.loop (rec .busy none))).heap[w.heap.size + 1 + 1]? = _ := (World.putObj_heap_other (by omega)).trans hgA.r2
    have hd1 : (XA.putObj (w.heap.size + 5 + 1) (.loop (rec .busy none))).heap[w.heap.size + 5]? = _ := (World.putObj_heap_other (by omega)).trans hgA.dfr
    have u1 : TB (XA.putObj (w.heap.size + 5 + 1) (.loop (rec .busy none))) C _ _ _ _ _ := uA.fr f1 (by simp; have := hXs.out; omega)
    have hO1 : Fr [] w (XA.putObj (w.heap.size + 5 + 1) (.loop (rec .busy none))) := ((hgA.old.sub (T := [w.heap.size + 5 + 1]) (by simp)).trans f1).sub (fun k hk => .inr (by simp at hk; omega))
    have hCl : Hid (w.heap.size + 6 < C) := hXs
    generalize XA.putObj (w.heap.size + 5 + 1) (.loop (rec .busy none)) = X1 at *
    clear hbl f1 uA fA hgA hg hCC
    have e2 := u1.c2
    have c0 := at_cells q0 0 rfl
    have c1 := at_cells q1 0 rfl
    have c2 := at_cells q2 0 rfl
    have z0 : X1.frozen? ⟨w.heap.size, 0, none⟩ = false := by simp [World.frozen?, q0]
    have z1 : X1.frozen? ⟨w.heap.size + 1, 0, none⟩ = false := by simp [World.frozen?, q1]
    have z2 : X1.frozen? ⟨w.heap.size + 1 + 1, 0, none⟩ = false := by simp [World.frozen?, q2]
    have n0 : C ≠ w.heap.size := by have := hCl.out; omega
    have n1 : C ≠ w.heap.size + 1 := by have := hCl.out; omega
    have n2 : C ≠ w.heap.size + 1 + 1 := by have := hCl.out; omega
    have hfin := set3 (p := p') (er := er') (r' := rec .done (some .ret)) rfl q0 q1 q2 hz1' hd1 (by omega) (by omega) (by omega) hO1
    gi_wp2
    gi_region
    all_goals
      gi_wp2
      obtain ⟨a1, a2, a3, a4, a5, a6, a7⟩ := hfin _ rfl
      refine ⟨a1, ⟨false, rfl⟩, a2, a3, ?_, ?_, a6, a7⟩
      · rw [hP]; exact a4
      · rw [hErr]; exact a5
  · rintro e W2 ⟨hv, hQ⟩
    rw [walkT_all] at hQ
    refine ⟨hv, ?_⟩
    have HD : Hid (w1.heap.size = w.heap.size + 5) := hD
    obtain ⟨ts, er, hsc⟩ : ∃ ts er, sc s 0 = (ts, er) := ⟨_, _, rfl⟩
    rw [hsc] at hQ
    have HSC : Hid (sc s 0 = (ts, er)) := hsc
    clear hD HS1 hYr hsc
    cases er with
    | some x =>
      obtain ⟨p, c⟩ := x
      obtain ⟨hO, q0, q1, q2, hl, hd⟩ := hQ
      refine .inr ⟨hl, ?_⟩
      have hlt := (Array.getElem?_eq_some_iff.1 hl).1
      have f6 := Fr.putObj (W := W2) (l := w.heap.size + 5 + 1) (.loop (rec .exhausted (some .ret)))
      have k6 : ∀ {k : Nat} {o : Obj}, k ≠ w.heap.size + 5 + 1 → W2.heap[k]? = some o → (W2.putObj (w.heap.size + 5 + 1) (.loop (rec .exhausted (some .ret)))).heap[k]? = some o := fun hk h1 => (World.putObj_heap_other hk).trans h1
      have q0 := k6 (by omega) q0
      have q1 := k6 (by omega) q1
      have q2 := k6 (by omega) q2
      have hd := k6 (by omega) hd
      have hO := ((hO.sub (T := [w.heap.size + 5 + 1]) (by simp)).trans f6).sub (T := []) (fun k hk => .inr (by simp at hk; omega))
      clear k6 f6
      generalize W2.putObj (w.heap.size + 5 + 1) (.loop (rec .exhausted (some .ret))) = W3 at *
      gi_wp2
      refine ⟨by simp, .inl ⟨_, _, rfl, run_takeDeferred hd, ?_⟩⟩
      have f7 := Fr.putObj (W := W3) (l := w.heap.size + 5) (.deferred none)
      have k7 : ∀ {k : Nat} {o : Obj}, k ≠ w.heap.size + 5 → W3.heap[k]? = some o → (W3.putObj (w.heap.size + 5) (.deferred none)).heap[k]? = some o := fun hk h1 => (World.putObj_heap_other hk).trans h1
      have c0 := at_cells (k7 (by omega) q0) 0 rfl
      have c1 := at_cells (k7 (by omega) q1) 0 rfl
      have c2 := at_cells (k7 (by omega) q2) 0 rfl
      have hO7 := ((hO.sub (T := [w.heap.size + 5]) (by simp)).trans f7).sub (T := []) (fun k hk => .inr (by simp at hk; omega))
      refine ⟨.tuple #[.slice none 0 0, .int .i64 (p : Nat), .int .i64 (c : Nat)], ?_, scOut_some HSC.out, hO7⟩
      clear k7 f7 hO7
      generalize W3.putObj (w.heap.size + 5) (.deferred none) = W4 at *
      simp [results, Tryz.results7, go_sem, c0, c1, c2]
    | none =>
      have hG : SG w w.heap.size (w.heap.size + 5 + 1) (w.heap.size + 5) rec ts W2 := hQ
      refine .inl ⟨hG.rd, ?_⟩
      obtain ⟨sv, hb, ho⟩ := hG.box
      have hlt := (Array.getElem?_eq_some_iff.1 hG.rd).1
      have f6 := Fr.putObj (W := W2) (l := w.heap.size + 5 + 1) (.loop (rec .exhausted none))
      have k6 : ∀ {k : Nat} {o : Obj}, k ≠ w.heap.size + 5 + 1 → W2.heap[k]? = some o → (W2.putObj (w.heap.size + 5 + 1) (.loop (rec .exhausted none))).heap[k]? = some o := fun hk h1 => (World.putObj_heap_other hk).trans h1
      have q0 := k6 (by omega) hG.r0
      have q1 := k6 (by omega) hG.r1
      have q2 := k6 (by omega) hG.r2
      have hb := k6 (by omega) hb
      have hd := k6 (by omega) hG.dfr
      have hlo : Hid (∀ k, sv.ownBlock = some k → w.heap.size + 7 ≤ k) := fun k hk => (ho.lt k hk).1
      have ho := own_fr ho f6 (fun k hk => by simp; have := hlo.out k hk; omega)
      have hO := ((hG.old.sub (T := [w.heap.size + 5 + 1]) (by simp)).trans f6).sub (T := []) (fun k hk => .inr (by simp at hk; omega))
      have hln : Hid (ts.length ≤ 200000) := hG.len
      have hsz : Hid (w.heap.size + 6 < (W2.putObj (w.heap.size + 5 + 1) (.loop (rec .exhausted none))).heap.size) := Nat.lt_of_lt_of_le hlt f6.size
      clear k6 f6 hlt hG hQ
      generalize W2.putObj (w.heap.size + 5 + 1) (.loop (rec .exhausted none)) = W3 at *
      have ca := at_cells hb 0 rfl
      have c0 := at_cells q0 0 rfl
      have c1 := at_cells q1 0 rfl
      have c2 := at_cells q2 0 rfl
      have hnew := tok_new W3 (.int .i64 0) (.string ⟨#[]⟩) (.int .i64 s.size) (.int .i64 s.size) (.int .i64 0)
      gi_wp2_with (gi_at_builtin; refine wpListIn_append_own_at _ rfl _ _ 32 rfl (w.heap.size + 7) 43 i5 (.agg #[.int .i64 0, .string ⟨#[]⟩, .int .i64 0, .int .i64 0, .int .i64 0]) 5 48 under42 hi hz hz1 hby rfl (by decide) sv ts.length (flatT ts) rfl (ho.alloc _) ⟨W3.heap.size, 0, none⟩ 1 1 [.int .i64 0, .string ⟨#[]⟩, .int .i64 s.size, .int .i64 s.size, .int .i64 0] rfl rfl hnew (by simp [Value.oneCell']) (by have := hln.out; have : maxLen = 9223372036854775807 := rfl; omega) (by have := hln.out; omega) (by have := hsz.out; simp; omega) ?_)
      intro v1 w3 hown1 hgrow hnil hloc
      have f2 : Fr sv.ownBlock.toList W3 w3 := ((Fr.refl _ _).alloc _).trans ((Fr.ofGrown hgrow).sub (fun k hk => .inl hk))
      have keep : ∀ {k : Nat} {o : Obj}, k < w.heap.size + 7 → W3.heap[k]? = some o → w3.heap[k]? = some o := fun hk h1 => (f2.block _ (Array.getElem?_eq_some_iff.1 h1).1 (fun hm => by have := (hlo.out _ (by simpa using hm)); omega)).trans h1
      have q0 := keep (by omega) q0
      have q1 := keep (by omega) q1
      have q2 := keep (by omega) q2
      have hd := keep (by omega) hd
      have hO3 : Fr [] w w3 := ((hO.sub (T := sv.ownBlock.toList) (by simp)).trans f2).sub (fun k hk => .inr (by simp only [Option.mem_toList] at hk; have := hlo.out k hk; omega))
      obtain ⟨av, cv, hv, _⟩ := own_slice hown1
      subst hv
      have hlo1 : Hid (∀ k, (Value.slice av (ts.length + 1) cv).ownBlock = some k → w.heap.size + 7 ≤ k) := fun k hk => (hown1.lt k hk).1
      clear ca hgrow hnew keep c0 c1 c2
      have c0 := at_cells q0 0 rfl
      have c1 := at_cells q1 0 rfl
      have c2 := at_cells q2 0 rfl
      have z0 : w3.frozen? ⟨w.heap.size, 0, none⟩ = false := by simp [World.frozen?, q0]
      have z1 : w3.frozen? ⟨w.heap.size + 1, 0, none⟩ = false := by simp [World.frozen?, q1]
      have z2 : w3.frozen? ⟨w.heap.size + 1 + 1, 0, none⟩ = false := by simp [World.frozen?, q2]
      gi_wp2
      have A0 : (((w3.setCell ⟨w.heap.size, 0, none⟩ (.slice av (ts.length + 1) cv)).setCell ⟨w.heap.size + 1, 0, none⟩ (.int .i64 0)).setCell ⟨w.heap.size + 1 + 1, 0, none⟩ (.int .i64 0)).heap[w.heap.size]? = some (.cells #[.slice av (ts.length + 1) cv] 32 (0, 0)) := set_other (by omega) (set_other (by omega) (set_same q0))
      have A1 : (((w3.setCell ⟨w.heap.size, 0, none⟩ (.slice av (ts.length + 1) cv)).setCell ⟨w.heap.size + 1, 0, none⟩ (.int .i64 0)).setCell ⟨w.heap.size + 1 + 1, 0, none⟩ (.int .i64 0)).heap[w.heap.size + 1]? = some (.cells #[.int .i64 0] 3 (0, 0)) := set_other (by omega) (set_same (set_other (by omega) q1))
      have A2 : (((w3.setCell ⟨w.heap.size, 0, none⟩ (.slice av (ts.length + 1) cv)).setCell ⟨w.heap.size + 1, 0, none⟩ (.int .i64 0)).setCell ⟨w.heap.size + 1 + 1, 0, none⟩ (.int .i64 0)).heap[w.heap.size + 1 + 1]? = some (.cells #[.int .i64 0] 24 (0, 0)) := set_same (set_other (by omega) (set_other (by omega) q2))
      have f5 : Fr [w.heap.size, w.heap.size + 1, w.heap.size + 1 + 1] w3 (((w3.setCell ⟨w.heap.size, 0, none⟩ (.slice av (ts.length + 1) cv)).setCell ⟨w.heap.size + 1, 0, none⟩ (.int .i64 0)).setCell ⟨w.heap.size + 1 + 1, 0, none⟩ (.int .i64 0)) := (((Fr.refl _ _).setCell (.inl (by simp)) _).setCell (.inl (by simp)) _).setCell (.inl (by simp)) _
      generalize ((w3.setCell ⟨w.heap.size, 0, none⟩ (.slice av (ts.length + 1) cv)).setCell ⟨w.heap.size + 1, 0, none⟩ (.int .i64 0)).setCell ⟨w.heap.size + 1 + 1, 0, none⟩ (.int .i64 0) = w5 at *
      have hd5 := (f5.block _ (Array.getElem?_eq_some_iff.1 hd).1 (by simp)).trans hd
      have ho5 := own_fr hown1 f5 (fun k hk => by simp; have := hlo1.out k hk; omega)
      have hO5 : Fr [] w w5 := ((hO3.sub (T := [w.heap.size, w.heap.size + 1, w.heap.size + 1 + 1]) (by simp)).trans f5).sub (fun k hk => .inr (by simp at hk; omega))
      refine ⟨by simp, .inl ⟨_, _, rfl, run_takeDeferred hd5, ?_⟩⟩
      have f7 := Fr.putObj (W := w5) (l := w.heap.size + 5) (.deferred none)
      have k7 : ∀ {k : Nat} {o : Obj}, k ≠ w.heap.size + 5 → w5.heap[k]? = some o → (w5.putObj (w.heap.size + 5) (.deferred none)).heap[k]? = some o := fun hk h1 => (World.putObj_heap_other hk).trans h1
      have c0 := at_cells (k7 (by omega) A0) 0 rfl
      have c1 := at_cells (k7 (by omega) A1) 0 rfl
      have c2 := at_cells (k7 (by omega) A2) 0 rfl
      have hO7 := ((hO5.sub (T := [w.heap.size + 5]) (by simp)).trans f7).sub (T := []) (fun k hk => .inr (by simp at hk; omega))
      have ho7 := own_fr ho5 f7 (fun k hk => by simp; have := hlo1.out k hk; omega)
      refine ⟨.tuple #[.slice av (ts.length + 1) cv, .int .i64 0, .int .i64 0], ?_, scOut_none HSC.out ?_, hO7⟩
      · clear k7 f7 hO7 ho7
        generalize w5.putObj (w.heap.size + 5) (.deferred none) = W4 at *
        simp [results, Tryz.results7, go_sem, c0, c1, c2]
      · rw [flatT_append, flatT_one]
        exact own_low ho7 (by omega)
end Go.Proofs.YtekjfddcbcijdaaGreatDoor
