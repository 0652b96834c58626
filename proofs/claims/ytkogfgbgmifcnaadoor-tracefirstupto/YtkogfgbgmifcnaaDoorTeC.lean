/-
  Uses of an operation, and of Back: condition: the trace may be.
-/
import Derived.Test.YtkogfgbgmifcnaaDoorTeB
namespace Go.Proofs.YtkogfgbgmifcnaaDoor
open Go.RowKit Go.Shelf Go.Maps Go.ChangeShapes
set_option linter.unusedVariables false
set_option linter.unusedSimpArgs false
attribute [local go_sem] Oper.semAt_some store_func
/-- An iterator of what operation i takes tells these sources. -/
def Takes (t : Tr) (w0 : World) (i : Nat) (own : List Sr) : Prop := ∀ (l bt ba : Nat) (G : List Sr → List Nat → World → Prop) (Wi : World), Wi.heap[bt]? = some (.cells t.arr 33 (0, 0)) → Wi.heap[ba]? = some (.cells #[.int .i64 i] 3 (0, 0)) → G [] [bt, ba] Wi →
    (∀ pre O W, G pre O W → Fr [] w0 W) → (∀ pre O O' W W', G pre O W → Fr O W W' → (∀ k ∈ O', k ∈ O ∨ W.heap.size ≤ k) → (∀ k ∈ O', k < W'.heap.size) → G pre O' W') →
    (∀ pre x O W, G pre O W → (pre ++ [x]) <+: own → YieldAt Fence.wide 0 Tryd.prog l #[.agg x.cl.toArray] W fun e W' => e = .returned (.bool true) ∧ G (pre ++ [x]) O W' ∧ W.heap.size ≤ W'.heap.size ∧ ∀ k ∈ O, k < W.heap.size → W'.heap[k]? = W.heap[k]?) →
    Calls Tryd.prog 61 #[.func (.yield l) #[] #[], .pointer (some ⟨bt, 0, none⟩), .pointer (some ⟨ba, 0, none⟩)] Wi fun e W' => e = .returned (.tuple #[]) ∧ ∃ O', G own O' W'
/-- What operation i takes, or Back. -/
def toldP (a : AT) (i : Nat) : List Sr := match a.ops[i]? with
  | some e => e.l ++ (walkP a (MK.start a) (e.q.getD 2 0)).1
  | none => a.back ++ (walkP a (MK.start a) (-1)).1
/-- What Uses answers. -/
def usesP (a : AT) (i : Int) : List Int := if i < 0 ∨ (a.ops.length : Int) < i ∨ wholeP a ≠ none then [] else Lib.compact ((vr (toldP a i.toNat)).mergeSort fun x y => decide (x ≤ y))
/-- The answer's cells. -/
def IntsAt (w : World) (v : Value) (L : List Int) : Prop := ∃ a c, v = .slice a L.length c ∧ ∀ j x, L[j]? = some x → ∃ b, a = some ⟨b, 0, none⟩ ∧ w.cell? ⟨b, j, none⟩ = some (.int .i64 x)
set_option maxRecDepth 100000 in
set_option maxHeartbeats 16000000 in
theorem uses18g {w : World} {B : Nat} {t : Tr} (sp : TellSpec t) (ht : Tab w) (hT : TrOk w B t) (ha : ATOk t.abs) (hok : wholeP t.abs = none) {i : Nat} (hi : i ≤ t.ops.length) {own : List Sr} (hwn : own.length * 32 ≤ 140737488355328) (H61 : Takes t w i own) :
    Calls Tryd.prog 18 #[.agg t.arr, .int .i64 i] w fun e w' => ∃ a' c', e = .returned (.slice a' (Lib.compact ((vr own).mergeSort fun x y => decide (x ≤ y))).length c') ∧ (∀ j x, (Lib.compact ((vr own).mergeSort fun x y => decide (x ≤ y)))[j]? = some x → ∃ b, a' = some ⟨b, 0, none⟩ ∧ w'.cell? ⟨b, j, none⟩ = some (.int .i64 x)) ∧ Fr [] w w' := by
  obtain ⟨R, hR⟩ : ∃ R : Ending → World → Prop, R = fun e w' => ∃ a' c', e = .returned (.slice a' (Lib.compact ((vr own).mergeSort fun x y => decide (x ≤ y))).length c') ∧ (∀ j x, (Lib.compact ((vr own).mergeSort fun x y => decide (x ≤ y)))[j]? = some x → ∃ b, a' = some ⟨b, 0, none⟩ ∧ w'.cell? ⟨b, j, none⟩ = some (.int .i64 x)) ∧ Fr [] w w' := ⟨_, rfl⟩
  rw [← hR]
  have HR : Hid (R = fun e w' => ∃ a' c', e = .returned (.slice a' (Lib.compact ((vr own).mergeSort fun x y => decide (x ≤ y))).length c') ∧ (∀ j x, (Lib.compact ((vr own).mergeSort fun x y => decide (x ≤ y)))[j]? = some x → ∃ b, a' = some ⟨b, 0, none⟩ ∧ w'.cell? ⟨b, j, none⟩ = some (.int .i64 x)) ∧ Fr [] w w') := hR
  have F1 : Fr [] w (w.alloc (.cells t.arr 33)) := (Fr.refl _ _).alloc _
  have hx := heap_alloc_new w (.cells t.arr 33)
  have hiI : (i : Int) ≤ t.ops.length := by omega
  have nO : (t.ops.length : Int) ≤ 140737488355328 := by have := hT.ops.fit; omega
  have c13 : (w.alloc (.cells t.arr 33)).cell? ⟨w.heap.size, 13, none⟩ = some (.slice t.oa t.ops.length t.oc) := at_cells hx 13 t.at_ops
  have CK := check23 sp (ht.fr0 F1) (hT.fr0 F1) ha
  rw [show chkAt t.abs = 0 by unfold chkAt; rw [hok]; rfl, show chkE t.abs = 0 by unfold chkE; rw [hok]; rfl] at CK
  have HP : Hid (Takes t w i own ∧ own.length * 32 ≤ 140737488355328) := ⟨H61, hwn⟩
  have HX : Hid ((w.alloc (.cells t.arr 33)).heap[w.heap.size]? = some (.cells t.arr 33 (0, 0)) ∧ Fr [] w (w.alloc (.cells t.arr 33))) := ⟨hx, F1⟩
  have d1 : decide ((i : Int) < 0) = false := decide_eq_false (by omega)
  have d2 : decide ((t.ops.length : Int) < i) = false := decide_eq_false (by omega)
  clear sp ht hT ha hok hx F1 hi hwn hR H61
  refine calls_of_wpAt Tryd.func18 rfl ?_
  simp only [Tryd.ntmps18, List.size_toArray, List.length_cons, List.length_nil, Nat.reduceAdd, Nat.reduceSub, Array.replicate_succ, Array.replicate_zero, List.push_toArray, List.append_toArray, List.nil_append, List.cons_append]
  refine wpAt_seq_k ?_
  intro K hKs
  go_wp2
  generalize w.alloc (.cells t.arr 33) = W0 at *
  generalize hbt : w.heap.size = b2 at *
  have HBT : Hid (w.heap.size = b2) := hbt
  clear hbt
  refine wpAt_seq_k ?_
  intro K hKs
  go_wp2
  clear c13 d1 d2
  refine wpAt_seq_k ?_
  intro K hKs
  go_wp2_with (first
    | refine wpList_ld33 rfl (.tmp 2) rfl b2 rfl t.arr t.arr_size HX.out.1 ?_
    | (go_at_call 23; refine CK.mono ?_; rintro e W2 ⟨rfl, f2⟩; have HX2 : Hid (W2.heap[b2]? = some (.cells t.arr 33 (0, 0)) ∧ Fr [] w W2) := ⟨(f2.block _ (at_lt HX.out.1) (by simp)).trans HX.out.1, HX.out.2.trans f2⟩; clear f2 CK HX))
  refine wpAt_seq_k ?_
  intro K hKs
  go_wp2
  have bl0 := heap_alloc_new W2 (.cells #[.slice none 0 0] 27)
  have fl : Fr [] W2 (W2.alloc (.cells #[.slice none 0 0] 27)) := (Fr.refl _ _).alloc _
  have HX3 : Hid ((W2.alloc (.cells #[.slice none 0 0] 27)).heap[b2]? = some (.cells t.arr 33 (0, 0)) ∧ Fr [] w (W2.alloc (.cells #[.slice none 0 0] 27)) ∧ (W2.alloc (.cells #[.slice none 0 0] 27)).heap[W2.heap.size]? = some (.cells #[.slice none 0 0] 27 (0, 0)) ∧ w.heap.size ≤ W2.heap.size) := ⟨(fl.block _ (at_lt HX2.out.1) (by simp)).trans HX2.out.1, HX2.out.2.trans fl, bl0, HX2.out.2.size⟩
  clear bl0 fl HX2
  generalize W2.alloc (.cells #[.slice none 0 0] 27) = W3 at *
  generalize W2.heap.size = bl at *
  refine wpAt_seqA ?_
  refine wpAt_seq_k ?_
  intro K hKs
  have CT := taken33 W3 t i
  go_wp2_with (first
    | refine wpList_ld33 rfl (.tmp 2) rfl b2 rfl t.arr t.arr_size HX3.out.1 ?_
    | (go_at_call 33; refine CT.mono ?_; rintro e Z ⟨rfl, hz⟩))
  have q1 : Z.heap[W3.heap.size]? = some (.cells t.arr 33 (0, 0)) := by rw [hz]; exact (((Fr.refl [] (W3.alloc (.cells t.arr 33))).alloc _).block _ (by simp) (by simp)).trans (heap_alloc_new W3 _)
  have q2 : Z.heap[W3.heap.size + 1]? = some (.cells #[.int .i64 i] 3 (0, 0)) := by rw [hz]; exact blk2 W3 _ _
  have fZ : Fr [] W3 Z := by rw [hz]; exact ((Fr.refl _ _).alloc _).alloc _
  rw [← hz]
  clear hz CT
  have HX4 : Hid (Fr [] w Z ∧ Z.heap[bl]? = some (.cells #[.slice none 0 0] 27 (0, 0)) ∧ w.heap.size ≤ bl ∧ bl < W3.heap.size ∧ w.heap.size ≤ W3.heap.size) := ⟨HX3.out.2.1.trans fZ, (fZ.block _ (at_lt HX3.out.2.2.1) (by simp)).trans HX3.out.2.2.1, HX3.out.2.2.2, at_lt HX3.out.2.2.1, HX3.out.2.1.size⟩
  clear HX3 fZ
  generalize W3.heap.size = c1 at *
  refine wpAt_block ?_
  refine range_thr (gf := 61) (lb := #[.pointer (some ⟨c1, 0, none⟩), .pointer (some ⟨c1 + 1, 0, none⟩)]) Tryd.func18 rfl (fun _ _ => rfl) ?_
  intro rec HY
  show CallsIn Fence.wide 0 Tryd.prog 61 #[.func (.yield (Z.heap.size + 1)) #[] #[], .pointer (some ⟨c1, 0, none⟩), .pointer (some ⟨c1 + 1, 0, none⟩)] _ _
  have f5 : Fr [] Z ((Z.alloc (.deferred (some []))).alloc (.loop (rec .ready none))) := ((Fr.refl _ _).alloc _).alloc _
  have hL5 := blk2 Z (.deferred (some [])) (.loop (rec .ready none))
  have hD5 : ((Z.alloc (.deferred (some []))).alloc (.loop (rec .ready none))).heap[Z.heap.size]? = some (.deferred (some [])) := (Below.heap_alloc _ _ _ (by simp)).trans (heap_alloc_new Z _)
  generalize (Z.alloc (.deferred (some []))).alloc (.loop (rec .ready none)) = Z5 at *
  obtain ⟨d0, hd0⟩ : ∃ d0, d0 = Z.heap.size := ⟨_, rfl⟩
  rw [← hd0] at hL5 hD5 HY ⊢
  have zl : ∀ {k : Nat} {o : Obj}, Z.heap[k]? = some o → k < d0 := fun h => by rw [hd0]; exact at_lt h
  have zk : ∀ {k : Nat} {o : Obj}, Z.heap[k]? = some o → Z5.heap[k]? = some o := fun h => (f5.block _ (at_lt h) (by simp)).trans h
  have hxx := HX4.out
  have l1 := zl q1
  have l2 := zl q2
  have l3 := zl HX4.out.2.1
  have hfs := HX4.out.1.size
  have G0 : GU w bl d0 (d0 + 1) (d0 + 2) (rec .ready none) [] [c1, c1 + 1] Z5 := by
    refine ⟨HX4.out.1.trans f5, hD5, hL5, ⟨none, 0, zk HX4.out.2.1, ⟨rfl, .inl ⟨rfl, rfl⟩⟩, fun k _ e => by cases e⟩, ⟨by omega, by omega, by omega, by omega, by omega, by omega, by omega, by omega, by omega⟩, fun k hk => ?_, fun k hk => ?_⟩
    · simp only [List.mem_cons, List.not_mem_nil, or_false] at hk
      omega
    · have := at_lt hL5
      simp only [List.mem_cons, List.not_mem_nil, or_false] at hk
      omega
  have HYh : Hid _ := HY
  clear HY
  refine (callsIn_wide.2 (HP.out.1 (d0 + 1) c1 (c1 + 1) (GU w bl d0 (d0 + 1) (d0 + 2) (rec .ready none)) Z5 (zk q1) (zk q2) G0 (fun _ _ _ g => g.fr) (fun pre O O' W W' g f h h' => g.step f h h') ?_)).mono ?_
  · clear G0 hL5 hD5 zl zk f5 q1 q2 l1 l2 l3 hfs hxx hd0
    intro pre x O W g hpre
    refine HYh.out #[.agg x.cl.toArray] W _ rfl g.lp ?_
    clear HYh
    have hpl : (vr pre).length * 32 ≤ 140737488355328 := by
      have h1 := vr_len pre
      have h2 := hpre.length_le
      have h3 := HP.out.2
      simp at h2
      omega
    have bA := heap_alloc_new W (.cells #[.int .i64 0, .int .i64 0, .int .i64 0, .int .i64 0] 51)
    have HA : Hid ((W.alloc (.cells #[.int .i64 0, .int .i64 0, .int .i64 0, .int .i64 0] 51)).heap[W.heap.size]? = some (.cells #[.int .i64 0, .int .i64 0, .int .i64 0, .int .i64 0] 51 (0, 0))) := bA
    have fA : Fr [] W ((W.alloc (.cells #[.int .i64 0, .int .i64 0, .int .i64 0, .int .i64 0] 51)).setRow W.heap.size x.cl.toArray) := ((Fr.refl _ _).alloc _).setRow (.inr (Nat.le_refl _)) _
    have bB := setRow_heap (W.alloc (.cells #[.int .i64 0, .int .i64 0, .int .i64 0, .int .i64 0] 51)) W.heap.size _ x.cl.toArray _ _ bA
    have hlp : ((W.alloc (.cells #[.int .i64 0, .int .i64 0, .int .i64 0, .int .i64 0] 51)).setRow W.heap.size x.cl.toArray).heap[d0 + 1]? = some (.loop (rec .ready none)) := (fA.block _ (at_lt g.lp) (by simp)).trans g.lp
    have HLP : Hid (W.heap.size ≠ d0 + 1 ∧ d0 + 1 < W.heap.size) := ⟨by have := at_lt g.lp; omega, at_lt g.lp⟩
    gi_wp2_with (refine in_store rfl 51 (.tmp 8) (.tmp 28) rfl W.heap.size x.cl.toArray rfl rfl 51 _ HA.out (by rw [info51]; rfl) rfl (by simp [Sr.cl, Sr.il, Value.oneCell']) ?_)
    refine ⟨hlp, ?_⟩
    have fP := Fr.putObj (W := (W.alloc (.cells #[.int .i64 0, .int .i64 0, .int .i64 0, .int .i64 0] 51)).setRow W.heap.size x.cl.toArray) (l := d0 + 1) (.loop (rec .busy none))
    have hbz := World.putObj_heap_same (w := (W.alloc (.cells #[.int .i64 0, .int .i64 0, .int .i64 0, .int .i64 0] 51)).setRow W.heap.size x.cl.toArray) (r := d0 + 1) (o := .loop (rec .busy none)) (at_lt hlp)
    have F2 : Fr [d0 + 1] W (((W.alloc (.cells #[.int .i64 0, .int .i64 0, .int .i64 0, .int .i64 0] 51)).setRow W.heap.size x.cl.toArray).putObj (d0 + 1) (.loop (rec .busy none))) := (fA.sub (by simp)).trans fP
    have bX : (((W.alloc (.cells #[.int .i64 0, .int .i64 0, .int .i64 0, .int .i64 0] 51)).setRow W.heap.size x.cl.toArray).putObj (d0 + 1) (.loop (rec .busy none))).heap[W.heap.size]? = some (.cells x.cl.toArray 51 (0, 0)) := (fP.block _ (at_lt bB) (by simpa using HLP.out.1)).trans bB
    generalize ((W.alloc (.cells #[.int .i64 0, .int .i64 0, .int .i64 0, .int .i64 0] 51)).setRow W.heap.size x.cl.toArray).putObj (d0 + 1) (.loop (rec .busy none)) = W2' at *
    generalize hbx : W.heap.size = bx at *
    have HBX : Hid (W.heap.size = bx) := hbx
    clear hbx bA HA fA bB hlp fP
    obtain ⟨xk, xvk, xvn, xn⟩ := x
    have e0 : W2'.cell? ⟨bx, 0, none⟩ = some (.int .i64 xk) := at_cells bX 0 rfl
    have e3 : W2'.cell? ⟨bx, 3, none⟩ = some (.int .i64 xn) := at_cells bX 3 rfl
    have HGW : Hid (GU w bl d0 (d0 + 1) (d0 + 2) (rec .ready none) pre O W ∧ Fr [d0 + 1] W W2' ∧ W2'.heap[d0 + 1]? = some (.loop (rec .busy none))) := ⟨g, F2, hbz⟩
    clear g F2 hbz bX hpre
    by_cases hk1 : xk = 1
    · subst hk1
      have HV : Hid (vr (pre ++ [(⟨1, xvk, xvn, xn⟩ : Sr)]) = vr pre ++ [xn]) := vr_yes rfl
      obtain ⟨av, cv, hb, ho, hxo⟩ := HGW.out.1.row
      have hhl := HGW.out.1.hl
      have y3 := (HGW.out.2.1.block _ (at_lt hb) (by have := hhl.2.2.2.2.2.1; simpa using this)).trans hb
      have ho2 := own_fr ho HGW.out.2.1 (fun k hk hm => by simp at hm; subst hm; exact own_notloop ho HGW.out.1.lp (fun _ _ _ => by simp) hk)
      have ca : W2'.cell? ⟨bl, 0, none⟩ = some (.slice av (vr pre).length cv) := at_cells y3 0 rfl
      have HROW : Hid (W2'.heap[bl]? = some (.cells #[.slice av (vr pre).length cv] 27 (0, 0)) ∧ W2'.ownsRow (d0 + 2) 3 1 (.slice av (vr pre).length cv) (vr pre).length ((vr pre).map (Value.int .i64)) ∧ (∀ k ∈ O, (Value.slice av (vr pre).length cv).ownBlock ≠ some k)) := ⟨y3, ho2, hxo⟩
      obtain ⟨i3, hi3, hz3, hs3, hb3⟩ := info_parts ci3
      have hsz : d0 + 2 ≤ W2'.heap.size := by have := at_lt HGW.out.2.2; omega
      have hnI : ((vr pre).length : Int) ≤ 140737488355328 := by omega
      have HPL : Hid ((vr pre).length * 32 ≤ 140737488355328) := hpl
      generalize hKK : vr pre = KK at *
      have HKK : Hid (vr pre = KK) := hKK
      clear hKK hb ho hxo y3 hhl hpl
      gi_wp2_with (gi_at_builtin; refine wpListIn_append_own_at _ rfl _ _ 27 rfl (d0 + 2) 3 i3 (.int .i64 0) 1 8 cu27 hi3 hz3 hs3 hb3 rfl (by decide) (.slice av KK.length cv) KK.length (KK.map (Value.int .i64)) rfl (ho2.alloc _) ⟨W2'.heap.size, 0, none⟩ 1 1 [.int .i64 xn] rfl rfl (one_new W2' _) (by simp [Value.oneCell']) (by have := HPL.out; unfold maxLen; omega) (by have := HPL.out; omega) (by simp; omega) ?_)
      intro v1 w3 hown1 hgrow hnil hloc
      have hhl := HGW.out.1.hl
      obtain ⟨a1, c1', rfl, _⟩ := own_slice hown1
      have f2 : Fr (Value.slice av KK.length cv).ownBlock.toList W2' w3 := ((Fr.refl _ _).alloc _).trans ((Fr.ofGrown hgrow).sub (fun k hk => .inl hk))
      have hnk : ∀ k, k < d0 + 2 → k ∉ (Value.slice av KK.length cv).ownBlock.toList := fun k hk hm => by have := (ho2.lt k (by simpa using hm)).1; omega
      have z1 := (f2.block bl (at_lt HROW.out.1) (hnk _ (by omega))).trans HROW.out.1
      have cb1 : w3.cell? ⟨bl, 0, none⟩ = some (.slice av KK.length cv) := at_cells z1 0 rfl
      have fb1 : w3.frozen? ⟨bl, 0, none⟩ = false := by simp [World.frozen?, z1]
      have HF2 : Hid (Fr (Value.slice av KK.length cv).ownBlock.toList W2' w3 ∧ w3.heap[bl]? = some (.cells #[.slice av KK.length cv] 27 (0, 0)) ∧ w3.ownsRow (d0 + 2) 3 1 (.slice a1 (KK.length + 1) c1') (KK.length + 1) (KK.map (Value.int .i64) ++ [Value.int .i64 xn]) ∧ (∀ k, (Value.slice a1 (KK.length + 1) c1').ownBlock = some k → (Value.slice av KK.length cv).ownBlock = some k ∨ k = W2'.heap.size + 1)) := ⟨f2, z1, hown1, fun k hk => by rcases hloc with h | h; exact .inl (h ▸ hk); exact .inr (by rw [h] at hk; exact (Option.some.inj hk).symm)⟩
      clear f2 z1 hown1 hgrow hnil hloc ho2 hnk ca e0 e3
      gi_wp2
      have f3 : Fr [bl] w3 (w3.setCell ⟨bl, 0, none⟩ (.slice a1 (KK.length + 1) c1')) := Fr.setCell (Fr.refl _ _) (.inl (by simp)) _
      have q3 : (w3.setCell ⟨bl, 0, none⟩ (.slice a1 (KK.length + 1) c1')).heap[bl]? = some (.cells #[.slice a1 (KK.length + 1) c1'] 27 (0, 0)) := set_same HF2.out.2.1
      obtain ⟨m1, m2, m3, m4⟩ := HF2.out
      have hlt2 := HROW.out.2.1.lt
      have hex := HGW.out.1.ex
      have hsz1 := HGW.out.2.1.size
      have hnl : d0 + 1 ∉ (Value.slice av KK.length cv).ownBlock.toList := fun hm => by have := (hlt2 _ (by simpa using hm)).1; omega
      generalize w3.setCell ⟨bl, 0, none⟩ (.slice a1 (KK.length + 1) c1') = w4 at *
      have q2 : w4.heap[d0 + 1]? = some (.loop (rec .busy none)) := (f3.block _ (Nat.lt_of_lt_of_le (at_lt HGW.out.2.2) m1.size) (by have := hhl.2.2.2.2.2.1; simp; omega)).trans ((m1.block _ (at_lt HGW.out.2.2) hnl).trans HGW.out.2.2)
      have f4 := Fr.putObj (W := w4) (l := d0 + 1) (.loop (rec .ready none))
      have f9 : Fr ((d0 + 1) :: bl :: (Value.slice av KK.length cv).ownBlock.toList) W (w4.putObj (d0 + 1) (.loop (rec .ready none))) := by
        refine (((HGW.out.2.1.sub (fun k hk => ?_)).trans (m1.sub (fun k hk => ?_))).trans (f3.sub (fun k hk => ?_))).trans (f4.sub (fun k hk => ?_))
        · simp at hk; subst hk; exact .inl (by simp)
        · exact .inl (by simp [hk])
        · simp at hk; subst hk; exact .inl (by simp)
        · simp at hk; subst hk; exact .inl (by simp)
      have hbd : ∀ k, (Value.slice a1 (KK.length + 1) c1').ownBlock = some k → d0 + 2 ≤ k := fun k hk => by
        rcases m4 k hk with h | h
        · exact (hlt2 k h).1
        · omega
      have q := HGW.out.1.told (pre' := pre ++ [(⟨1, xvk, xvn, xn⟩ : Sr)]) f9 (fun k hk => by
          rcases List.mem_cons.1 hk with rfl | hk
          · exact .inl rfl
          rcases List.mem_cons.1 hk with rfl | hk
          · exact .inr (.inl rfl)
          · have hk' : (Value.slice av KK.length cv).ownBlock = some k := by simpa using hk
            exact .inr (.inr ⟨(hlt2 k hk').1, fun hO => HROW.out.2.2 k hO hk'⟩)) (World.putObj_heap_same (at_lt q2)) (by
        rw [HV.out]
        rw [show (KK ++ [xn]).length = KK.length + 1 by simp]
        refine ⟨a1, c1', (f4.block _ (at_lt q3) (by have := hhl.2.2.2.2.2.1; simpa using this)).trans q3, ?_, fun k hk e => ?_⟩
        · rw [List.map_append, List.map_cons, List.map_nil]
          refine own_fr (own_fr m3 f3 (fun k hk hm => ?_)) f4 (fun k hk hm => ?_)
          · have := hbd k hk; simp at hm; omega
          · have := hbd k hk; simp at hm; omega
        · rcases m4 k e with h | h
          · exact HROW.out.2.2 k hk h
          · have := hex k hk; omega)
      rw [HBX.out] at q
      exact ⟨q2, rfl, q.1, q.2.1, q.2.2⟩
    · have hkf : (xk == 1) = false := beq_int_false hk1
      have HV : Hid (vr (pre ++ [(⟨xk, xvk, xvn, xn⟩ : Sr)]) = vr pre) := vr_no hk1
      clear hk1 e3
      gi_wp2
      have f9 : Fr [d0 + 1] W (W2'.putObj (d0 + 1) (.loop (rec .ready none))) := HGW.out.2.1.trans (Fr.putObj _)
      have q := HGW.out.1.told (pre' := pre ++ [(⟨xk, xvk, xvn, xn⟩ : Sr)]) f9 (fun k hk => by simp at hk; exact .inl hk) (World.putObj_heap_same (at_lt HGW.out.2.2)) (by
        rw [HV.out]
        obtain ⟨av, cv, hb, ho, hxo⟩ := HGW.out.1.row
        exact ⟨av, cv, (f9.block _ (at_lt hb) (by have := HGW.out.1.hl.2.2.2.2.2.1; simpa using this)).trans hb, own_fr ho f9 (fun k hk hm => by simp at hm; subst hm; exact own_notloop ho HGW.out.1.lp (fun _ _ _ => by simp) hk), hxo⟩)
      rw [HBX.out] at q
      exact ⟨HGW.out.2.2, rfl, q.1, q.2.1, q.2.2⟩
  · clear HYh G0 hL5 hD5 zl zk f5 q1 q2 l1 l2 l3 hfs hxx hd0
    rintro e Y ⟨rfl, O', g⟩
    refine .inl ⟨_, rfl, g.lp, ?_⟩
    obtain ⟨av, cv, hb, ho, hxo⟩ := g.row
    have hpl : (vr own).length * 32 ≤ 140737488355328 := by
      have h1 := vr_len own
      have h3 := HP.out.2
      omega
    obtain ⟨h1, h2, h3, h4, h5, h6, h7, h8, h9⟩ := g.hl
    have f0 := Fr.putObj (W := Y) (l := d0 + 1) (.loop (rec .exhausted none))
    have F0 := g.fr.over f0 (fun k hk => by simp at hk; omega)
    have hb1 := (f0.block _ (at_lt hb) (by simpa using h6)).trans hb
    have hd1 := (f0.block _ (at_lt g.d) (by simp)).trans g.d
    have ho1 := own_fr ho f0 (fun k hk hm => by have := (ho.lt k hk).1; simp at hm; omega)
    generalize Y.putObj (d0 + 1) (.loop (rec .exhausted none)) = Y0 at *
    clear g hb ho hxo f0
    generalize vr own = L at *
    have hlt := ho1.lt
    have ca : Y0.cell? ⟨bl, 0, none⟩ = some (.slice av L.length cv) := at_cells hb1 0 rfl
    have CS := sort34 ho1 (by omega)
    show wpAt 18 Tryd.prog _ _ _ _
    refine wpAt_seq_k ?_
    intro K hKs
    go_wp2_with (go_at_call 34; refine CS.mono ?_; rintro e Y1 ⟨rfl, fs, ho2⟩)
    have hnb : ∀ k, k < d0 + 2 → k ∉ (Value.slice av L.length cv).ownBlock.toList := fun k hk hm => by have := (hlt k (by simpa using hm)).1; omega
    have hM : (L.mergeSort fun x y => decide (x ≤ y)).length = L.length := by simp
    have hb2 := (fs.block _ (at_lt hb1) (hnb _ (by omega))).trans hb1
    have hd2 := (fs.block _ (at_lt hd1) (hnb _ (by omega))).trans hd1
    have F1 := F0.over fs (fun k hk => by have := (hlt k (by simpa using hk)).1; omega)
    generalize (L.mergeSort fun x y => decide (x ≤ y)) = M at *
    rw [← hM] at ho2 hb2 hlt hnb hpl
    clear ca CS F0 hb1 hd1 ho1 fs hM
    have hlt2 := ho2.lt
    have cc : Y1.cell? ⟨bl, 0, none⟩ = some (.slice av M.length cv) := at_cells hb2 0 rfl
    have CC := compact35 ho2 (by omega)
    generalize Lib.compact M = C at *
    refine wpAt_seq_k ?_
    intro K hKs
    have HKs : Hid _ := hKs
    clear hKs
    go_wp2_with (go_at_call 35; refine CC.mono ?_; rintro e Y2 ⟨rfl, fs, ho3⟩)
    refine HKs.out _ _ ?_
    clear HKs
    have hb3 := hnb
    have F2 := F1.over fs (fun k hk => by have := (hlt2 k (by simpa using hk)).1; omega)
    have hd3 := (fs.block _ (at_lt hd2) (hnb _ (by omega))).trans hd2
    refine wpAt_of_wp (wp_ret ?_)
    show LeavesInM Fence.wide 0 Tryd.prog Tryd.f18 _ R [{ target := .collected d0, args := #[] }] .returning _
    refine ⟨by simp, .inl ⟨_, _, rfl, run_takeDeferred hd3, ?_⟩⟩
    have F9 : Fr [d0] Y2 (Y2.putObj d0 (.deferred none)) := Fr.putObj _
    refine ⟨.slice av C.length cv, by simp [results, Tryd.results18], ?_⟩
    rw [HR.out]
    refine ⟨av, cv, rfl, fun j x hx => ?_, F2.over F9 (fun k hk => by simp at hk; omega)⟩
    have ho4 := own_fr ho3 F9 (fun k hk hm => by have := (ho3.lt k hk).1; simp at hm; omega)
    obtain ⟨g9, c9, e9, h9, _⟩ := own_cells ho4 (j := j) (x := .int .i64 x) (by rw [List.getElem?_map, hx]; rfl)
    cases e9
    exact ⟨g9, rfl, h9⟩

theorem takes_of {w : World} {B : Nat} {t : Tr} (sp : TellSpec t) (hT : TrOk w B t) (hg : GoodT t.abs) {i : Nat} (hi : i ≤ t.ops.length) (hsn : ∀ e, t.abs.ops[i]? = some e → -1 ≤ e.q.getD 2 0 ∧ e.q.getD 2 0 < t.links.length) : Takes t w i (toldP t.abs i) := by
  intro l bt ba G Wi h1 h2 g0 hK hG hY
  by_cases hlt : i < t.ops.length
  · obtain ⟨e, he⟩ : ∃ e, t.ops[i]? = some e := ⟨_, List.getElem?_eq_getElem hlt⟩
    have ok := hT.opl e (List.mem_of_getElem? he)
    obtain ⟨P, Q, a, c, own⟩ := e
    obtain ⟨o, rfl⟩ := len1 ok.hp
    obtain ⟨k, cc, sn, rfl⟩ := len3 ok.hq
    have hab : t.abs.ops[i]? = some (⟨[o], [k, cc, sn], own⟩ : AE) := by simp [Tr.abs, he, El.abs]
    have e1 : toldP t.abs i = own ++ (walkP t.abs (MK.start t.abs) sn).1 := by unfold toldP; rw [hab]; rfl
    rw [e1] at hY ⊢
    exact taken61g sp hT hg he (hsn _ hab) l bt ba G Wi h1 h2 g0 hK hG hY
  · obtain rfl : i = t.ops.length := by omega
    have hab : t.abs.ops[t.ops.length]? = none := by simp [Tr.abs]
    have e1 : toldP t.abs t.ops.length = t.back ++ (walkP t.abs (MK.start t.abs) (-1)).1 := by unfold toldP; rw [hab]; rfl
    rw [e1] at hY ⊢
    exact taken61b sp hT hg (Nat.zero_le _) l bt ba G Wi h1 h2 g0 hK hG hY
set_option maxRecDepth 100000 in
set_option maxHeartbeats 16000000 in
/-- Where Uses answers nothing. -/
theorem uses18n {w : World} {B : Nat} {t : Tr} (sp : TellSpec t) (ht : Tab w) (hT : TrOk w B t) (ha : ATOk t.abs) {i : Int} (h : i < 0 ∨ (t.ops.length : Int) < i ∨ wholeP t.abs ≠ none) :
    Calls Tryd.prog 18 #[.agg t.arr, .int .i64 i] w fun e w' => e = .returned (.slice none 0 0) ∧ Fr [] w w' := by
  have F1 : Fr [] w (w.alloc (.cells t.arr 33)) := (Fr.refl _ _).alloc _
  have hx := heap_alloc_new w (.cells t.arr 33)
  have nO : (t.ops.length : Int) ≤ 140737488355328 := by have := hT.ops.fit; omega
  have CK := check23 sp (ht.fr0 F1) (hT.fr0 F1) ha
  have HX : Hid ((w.alloc (.cells t.arr 33)).heap[w.heap.size]? = some (.cells t.arr 33 (0, 0)) ∧ Fr [] w (w.alloc (.cells t.arr 33))) := ⟨hx, F1⟩
  have c13 : (w.alloc (.cells t.arr 33)).cell? ⟨w.heap.size, 13, none⟩ = some (.slice t.oa t.ops.length t.oc) := at_cells hx 13 t.at_ops
  have hE : i < 0 ∨ (t.ops.length : Int) < i ∨ (chkE t.abs = 160 ∧ ¬ i < 0 ∧ ¬ (t.ops.length : Int) < i) := by
    rcases h with h | h | h
    · exact .inl h
    · exact .inr (.inl h)
    · by_cases h1 : i < 0
      · exact .inl h1
      by_cases h2 : (t.ops.length : Int) < i
      · exact .inr (.inl h2)
      refine .inr (.inr ⟨?_, h1, h2⟩)
      unfold chkE
      rw [if_pos]
      cases hq : wholeP t.abs with
      | none => exact absurd hq h
      | some v => rfl
  clear sp ht hT ha hx F1 h
  generalize chkE t.abs = ce at *
  generalize chkAt t.abs = ck at *
  rcases hE with h | h | ⟨rfl, h1, h2⟩
  · clear CK
    have d1 : decide (i < 0) = true := decide_eq_true h
    go_enter Tryd.func18, Tryd.ntmps18
    go_upto_region 3 with fail
    go_ret
    exact ⟨rfl, HX.out.2⟩
  · clear CK
    have d1 : decide (i < 0) = false := decide_eq_false (by omega)
    have d2 : decide ((t.ops.length : Int) < i) = true := decide_eq_true h
    go_enter Tryd.func18, Tryd.ntmps18
    go_upto_region 3 with fail
    go_ret
    exact ⟨rfl, HX.out.2⟩
  · have d1 : decide (i < 0) = false := decide_eq_false h1
    have d2 : decide ((t.ops.length : Int) < i) = false := decide_eq_false h2
    go_enter Tryd.func18, Tryd.ntmps18
    go_upto_region 3 with fail
    generalize w.alloc (.cells t.arr 33) = W0 at *
    generalize w.heap.size = b2 at *
    go_upto_region 6 with (first
      | refine wpList_ld33 rfl (.tmp 2) rfl b2 rfl t.arr t.arr_size HX.out.1 ?_
      | (go_at_call 23; refine CK.mono ?_; rintro e W2 ⟨rfl, f2⟩))
    go_ret
    exact ⟨rfl, HX.out.2.trans f2⟩
end Go.Proofs.YtkogfgbgmifcnaaDoor
