/-
  Texts of the proof, in their order: IsoN, IsoO, IsoP, PurA, PurB, AllT; conditions: as each says.
-/
import Derived.Test.YtefkcmeeagflmaaDoorMgCPNC
namespace Go.Proofs.YtefkcmeeagflmaaDoor
open Go.RowKit Go.Shelf

theorem under136 : Tryd.prog.underlying 136 = some (.slice 23) := by kernel_rfl
theorem info23 : (Tryd.prog.info? 23).map (fun i => (i.zero, i.size, i.bytes)) = some (some (.slice none 0 0), 1, 24) := by kernel_rfl

set_option maxRecDepth 100000 in
set_option maxHeartbeats 1000000 in
theorem add2 {W : World} {B bx : Nat} {sv : Value} {L : List Seg} (h : Stk 136 23 okV W B bx sv L) (s : Seg)
    (hl : ∀ j u, s.xs.flatten[j]? = some u → W.cell? ⟨s.g, s.o + j, none⟩ = some u) (hf : s.xs ≠ [] ∧ s.xs.length ≤ s.c ∧ ∀ x, x ∈ s.xs → okV x) (hoff : s.g ≠ bx ∧ sv.ownBlock ≠ some s.g ∧ s.g < W.heap.size) (hL : L.length ≤ 1000000000000) :
    Calls Tryd.prog 57 #[s.val, .pointer (some ⟨bx, 0, none⟩)] W fun e W' => e = .returned (.tuple #[]) ∧ ∃ sv', Stk 136 23 okV W' B bx sv' (L ++ [s]) ∧ Fr (bx :: sv.ownBlock.toList) W W' := by
  obtain ⟨i, hi, hz, hs, hby⟩ := info_parts info23
  have cb : W.cell? ⟨bx, 0, none⟩ = some sv := by have := h.box; simp [World.cell?, this]
  have hbs := (Array.getElem?_eq_some_iff.1 h.box).1
  have hbB := h.base
  have hP := fun o v1 W1 => Stk.push (W1 := W1) (v1 := v1) (by decide) okV_ne h o s hl hf hoff
  have hln : (0 : Int) < (s.xs.length : Int) := by
    have := hf.1
    cases hx : s.xs with
    | nil => exact absurd hx this
    | cons x r => simp
  have hrow := h.row
  have hL' : L.length + 1 ≤ maxLen := by have : maxLen = 9223372036854775807 := rfl; omega
  show Calls Tryd.prog 57 #[.slice (some ⟨s.g, s.o, none⟩) s.xs.length s.c, .pointer (some ⟨bx, 0, none⟩)] W _
  go_enter Tryd.func57, Tryd.ntmps57
  go_wp2_with (at_builtin; go_loud (refine wpList_append_fp _ rfl _ _ 136 rfl B 23 i (.slice none 0 0) 1 24 under136 hi hz hs hby rfl (by decide) sv L.length (L.map Seg.val) rfl ?own _ 1 _ [s.val] rfl rfl ?news ?one ?max (by omega) ?base ?_))
  case own => exact hrow.alloc _
  case news => exact cell_one_new W _ 23
  case one => simp [Value.oneCell', Seg.val]
  case max => exact hL'
  case base => simp; omega
  intro v1 w1 ho1 hg1 hk1
  obtain ⟨h1, h2⟩ := hP _ v1 w1 hg1 ho1 (by simpa using hk1)
  have f1 : Fr sv.ownBlock.toList W w1 := ((Fr.refl _ _).alloc _).trans ((Fr.ofGrown hg1).sub (fun k hk => .inl hk))
  have hb1 : w1.heap[bx]? = some (.cells #[sv] 136 (0, 0)) := (f1.block bx hbs (by simp only [Option.mem_toList]; exact h.ne (by decide))).trans h.box
  have cb1 : w1.cell? ⟨bx, 0, none⟩ = some sv := by simp [World.cell?, hb1]
  have fb1 : w1.frozen? ⟨bx, 0, none⟩ = false := by simp [World.frozen?, hb1]
  obtain ⟨g, c, hv⟩ : ∃ g c, v1 = .slice (some ⟨g, 0, none⟩) (L.length + 1) c := by
    rcases ho1.2 with ⟨_, e⟩ | ⟨g, cap, cur, e, _⟩
    · omega
    · exact ⟨g, cap, e⟩
  subst hv
  clear hP hg1 ho1 hk1
  go_wp2
  go_end0
  exact ⟨rfl, _, h1, h2⟩

theorem add2_none (W : World) (a : Option Addr) (c bx : Nat) :
    Calls Tryd.prog 57 #[.slice a 0 c, .pointer (some ⟨bx, 0, none⟩)] W fun e W' => e = .returned (.tuple #[]) ∧ W' = W := by
  go_enter Tryd.func57, Tryd.ntmps57
  go_wp2
  go_end0
  exact ⟨rfl, rfl⟩

theorem waiting2 (W : World) (B : Nat) (hB : B ≤ W.heap.size) :
    Calls Tryd.prog 47 #[] W fun e W' => e = .returned (.tuple #[.func (.func 57) #[] #[.pointer (some ⟨W.heap.size, 0, none⟩)], .func (.func 58) #[] #[.pointer (some ⟨W.heap.size, 0, none⟩)]]) ∧
      W' = W.alloc (.cells #[.slice none 0 0] 136) ∧ Stk 136 23 okV W' B W.heap.size (.slice none 0 0) [] := by
  go_enter Tryd.func47, Tryd.ntmps47
  go_wp2
  refine bodyPost_ret (v := .tuple #[.func (.func 57) #[] #[.pointer (some ⟨W.heap.size, 0, none⟩)], .func (.func 58) #[] #[.pointer (some ⟨W.heap.size, 0, none⟩)]]) (by simp [results, Tryd.results47, go_sem]) rfl ?_
  exact ⟨rfl, rfl, heap_alloc_new W _, World.ownsRow_nil _ _ _ _, by simp, by simp, by simp, hB⟩
end Go.Proofs.YtefkcmeeagflmaaDoor
namespace Go.Proofs.YtefkcmeeagflmaaDoor
open Go.RowKit Go.Shelf
attribute [local go_sem] Oper.semAt_some

/-- A piece of a text, by its cells. -/
def okT (x : List Value) : Prop := ∃ (t : ByteArray) (b : Bool) (p q : Int), x = [.string t, .bool b, .int .i64 p, .int .i64 q] ∧ ((Lit.int .i64 q).wf = true ∧ t.size ≤ 100)
theorem okT_ne (x : List Value) (h : okT x) : x ≠ [] := by obtain ⟨a, b, c, d, rfl, _⟩ := h; simp

set_option maxRecDepth 100000 in
set_option maxHeartbeats 1000000 in
theorem allT {σ : Type} (step : σ → List Value → Option (σ × List (List Value))) (G : σ → World → Prop) (Out : World → Prop) (Rd : World → Prop) (l B bx : Nat) (cnt : σ → Nat) (most : Nat) (hcnt : ∀ s x s' more, step s x = some (s', more) → cnt s' = cnt s + 1)
    (hG : ∀ s sv L W W', G s W → Stk 121 86 okT W B bx sv L → Fr (bx :: sv.ownBlock.toList) W W' → G s W') (hRd : ∀ sv L W W', Rd W → Stk 121 86 okT W B bx sv L → Fr (bx :: sv.ownBlock.toList) W W' → Rd W')
    (hY : ∀ s x W sv L, G s W → Rd W → Stk 121 86 okT W B bx sv L → cnt s < most → L.length ≤ cnt s + 1 → okT x → YieldAt Fence.wide 0 Tryd.prog l #[.agg x.toArray] W (Rounded 121 86 okT B bx G Rd Out (pend L) L.length (step s x)))
    (W : World) (s0 : σ) (sv0 : Value) (L0 : List Seg) (h0 : G s0 W) (r0 : Rd W) (k0 : Stk 121 86 okT W B bx sv0 L0) (n0 : Nat) (res : Option σ) (hrun : run step n0 s0 (pend L0) = some res) (hc0 : n0 + cnt s0 ≤ most) (hl0 : L0.length ≤ cnt s0 + 1) :
    CallsIn Fence.wide 0 Tryd.prog 50 #[.func (.yield l) #[] #[], .pointer (some ⟨bx, 0, none⟩)] W fun e W' => (∃ v, e = .returned v) ∧ Ends G Rd Out res W' := by
  obtain ⟨mu, hmu⟩ := rounds (fun n W => ∃ s sv L, G s W ∧ Rd W ∧ Stk 121 86 okT W B bx sv L ∧ run step n s (pend L) = some res ∧ n + cnt s ≤ most ∧ L.length ≤ cnt s + 1)
  refine callsIn_of_wp Tryd.func50 rfl trivial ?_ rfl
  simp only [Tryd.ntmps50, List.size_toArray, List.length_cons, List.length_nil, Nat.reduceAdd, Nat.reduceSub, Array.replicate_succ, Array.replicate_zero, List.push_toArray, List.append_toArray, List.nil_append, List.cons_append]
  gi_wp2
  gi_loopw [3] (fun _ wr => ∃ n s sv L, G s wr ∧ Rd wr ∧ Stk 121 86 okT wr B bx sv L ∧ run step n s (pend L) = some res ∧ n + cnt s ≤ most ∧ L.length ≤ cnt s + 1) (fun _ wr => mu wr)
  case atStart => exact ⟨n0, s0, sv0, L0, h0, r0, k0, hrun, hc0, hl0⟩
  case round =>
    obtain ⟨n, s1, sv1, L1, q1, q2, q3, q4, q5, q6⟩ := hrel
    obtain ⟨⟨s, sv, L, hg, hr, hk, hrun2, hct, hlc⟩, _⟩ := hmu wr n ⟨s1, sv1, L1, q1, q2, q3, q4, q5, q6⟩
    clear q5 q6
    by_cases hn : L = []
    · subst hn
      obtain ⟨a, c, rfl, _⟩ := own_slice hk.row
      have cb : wr.cell? ⟨bx, 0, none⟩ = some (.slice a 0 c) := by have := hk.box; simp at this; simp [World.cell?, this]
      gi_wp2
      go_end0
      have : res = some s := by
        cases hm : mu wr with
        | zero => rw [hm] at hrun2; simp [run] at hrun2
        | succ m => rw [hm] at hrun2; simpa [run, pend] using hrun2.symm
      subst this
      exact ⟨⟨_, rfl⟩, hg, hr⟩
    · obtain ⟨L0, sg, x, r, g, cap, rfl, hx, rfl, h1, h2, hB, hx4⟩ := hk.parts hn
      obtain ⟨x0, x1, x2, x3, rfl, hwx⟩ := hx4
      have hlen : (L0 ++ [sg]).length = L0.length + 1 := by simp
      rw [hlen] at h1 hk
      have cb : wr.cell? ⟨bx, 0, none⟩ = some (.slice (some ⟨g, 0, none⟩) (L0.length + 1) cap) := by have := hk.box; simp [World.cell?, this]
      have fb : wr.frozen? ⟨bx, 0, none⟩ = false := by have := hk.box; simp [World.frozen?, this]
      have hrow := hk.row
      rw [hlen] at hrow
      have cr : wr.cell? ⟨g, L0.length, none⟩ = some sg.val := by
        rw [hrow.cellAt L0.length (by omega)]
        simp
      have fr : wr.frozen? ⟨g, L0.length, none⟩ = false := hrow.frozenAt L0.length
      have hl := hk.lies sg (by simp)
      rw [hx] at hl
      have e0 : wr.cell? ⟨sg.g, sg.o, none⟩ = some (.string x0) := hl 0 (.string x0) (by simp)
      have e1 := hl 1 (.bool x1) (by simp)
      have e2 := hl 2 (.int .i64 x2) (by simp)
      have e3 := hl 3 (.int .i64 x3) (by simp)
      unfold Seg.val at cr
      have hxl : sg.xs.length = r.length + 1 := by rw [hx]; simp
      rw [hxl] at cr
      have hcap : (cap : Int) ≤ 9223372036854775807 := by have : maxLen = 9223372036854775807 := rfl; omega
      have hll : (L0.length : Int) + 1 ≤ (cap : Int) := by omega
      have hsc : r.length + 1 ≤ sg.c := by have := (hk.full sg (by simp)).2.1; omega
      have hsc2 : ((r.length : Int) + 1) ≤ (sg.c : Int) := by omega
      have f1 : Fr [] wr (wr.alloc (.cells #[.string x0, .bool x1, .int .i64 x2, .int .i64 x3] 85)) := (Fr.refl _ _).alloc _
      have nb : (wr.alloc (.cells #[.string x0, .bool x1, .int .i64 x2, .int .i64 x3] 85)).heap[wr.heap.size]? = some (.cells #[.string x0, .bool x1, .int .i64 x2, .int .i64 x3] 85) := heap_alloc_new wr _
      gi_wp2
      generalize wr.alloc (.cells #[.string x0, .bool x1, .int .i64 x2, .int .i64 x3] 85) = w1 at *
      have k1 : wr.heap.size < w1.heap.size := (Array.getElem?_eq_some_iff.1 nb).1
      generalize wr.heap.size = kn at *
      have q1' := hk.frame f1
      have cb1 : w1.cell? ⟨bx, 0, none⟩ = some (.slice (some ⟨g, 0, none⟩) (L0.length + 1) cap) := f1.cell1 cb (by simp)
      have cr1 : w1.cell? ⟨g, L0.length, none⟩ = some (.slice (some ⟨sg.g, sg.o, none⟩) (r.length + 1) sg.c) := f1.cell1 cr (by simp)
      have hrow1 := q1'.row
      rw [hlen] at hrow1
      have fr1 : w1.frozen? ⟨g, L0.length, none⟩ = false := hrow1.frozenAt L0.length
      have g1 := hG s _ _ _ _ hg hk (f1.sub (by simp))
      have rd1 := hRd _ _ _ _ hr hk (f1.sub (by simp))
      have hpend : pend (L0 ++ [sg]) = [.string x0, .bool x1, .int .i64 x2, .int .i64 x3] :: (r ++ pend L0) := by rw [pend_snoc, hx]; rfl
      rw [hpend] at hrun2
      obtain ⟨m, hm⟩ : ∃ m, mu wr = m + 1 := by
        cases hmu' : mu wr with
        | zero => rw [hmu'] at hrun2; simp [run] at hrun2
        | succ m => exact ⟨m, rfl⟩
      have HM : Hid (mu wr = m + 1) := hm
      rw [hm] at hrun2 hct
      rw [hlen] at hlc
      have HC : Hid (m + 1 + cnt s ≤ most) := hct
      have HLC : Hid (L0.length + 1 ≤ cnt s + 1) := hlc
      clear hct hlc
      have hl1 : ∀ j u, r.flatten[j]? = some u → w1.cell? ⟨sg.g, sg.o + 4 + j, none⟩ = some u := fun j u hu => by
        have := q1'.lies sg (by simp) (4 + j) u (by rw [hx]; simpa [List.getElem?_append, Nat.add_comm] using hu)
        rwa [← Nat.add_assoc] at this
      have hkn0 : kn ≠ bx := fun e => by have a := q1'.box; rw [← e, nb] at a; simp at a
      have hkg : kn ≠ g := fun e => by
        have a := own_ne hrow1 nb (by decide)
        exact a (by rw [e]; rfl)
      clear cb cr fb fr e0 e1 e2 e3 hl hn hk hrow
      have hbg : bx ≠ g := fun e => q1'.ne (by decide) (by rw [e]; rfl)
      cases r with
      | nil =>
        simp only [List.length_nil, Nat.zero_add] at cr1 hsc hsc2
        have fbx1 : w1.frozen? ⟨bx, 0, none⟩ = false := by have := q1'.box; simp [World.frozen?, this]
        gi_region
        generalize (if sg.c = 1 then some (⟨sg.g, sg.o, none⟩ : Addr) else some ⟨sg.g, sg.o + 4, none⟩) = pp
        have S2 : Stk 121 86 okT ((w1.setCell ⟨g, L0.length, none⟩ (.slice pp 0 (sg.c - 1))).setCell ⟨bx, 0, none⟩ (.slice (some ⟨g, 0, none⟩) L0.length cap)).drew B bx (.slice (some ⟨g, 0, none⟩) L0.length cap) L0 := q1'.gone (by decide) _
        have F2 : Fr (bx :: (Value.slice (some ⟨g, 0, none⟩) (L0.length + 1) cap).ownBlock.toList) w1 ((w1.setCell ⟨g, L0.length, none⟩ (.slice pp 0 (sg.c - 1))).setCell ⟨bx, 0, none⟩ (.slice (some ⟨g, 0, none⟩) L0.length cap)).drew :=
          (Fr.setCell (Fr.setCell (Fr.refl _ _) (.inl (by simp [Value.ownBlock])) _) (.inl (by simp)) _).drew
        have g2 := hG s _ _ _ _ g1 q1' F2
        have rd2 := hRd _ _ _ _ rd1 q1' F2
        have nb2 := (F2.block kn k1 (by simp [Value.ownBlock]; exact ⟨hkn0, hkg⟩)).trans nb
        have cb2 : ((w1.setCell ⟨g, L0.length, none⟩ (.slice pp 0 (sg.c - 1))).drew).cell? ⟨bx, 0, none⟩ = some (.slice (some ⟨g, 0, none⟩) (L0.length + 1) cap) :=
          ((Fr.setCell (S := [g]) (Fr.refl _ w1) (.inl (by simp)) _).drew).cell1 cb1 (by simpa using hbg)
        have hY2 := hY s [.string x0, .bool x1, .int .i64 x2, .int .i64 x3] _ _ _ g2 rd2 S2 (by have := HC.out; omega) (by have := HLC.out; omega) ⟨_, _, _, _, rfl, hwx⟩
        have n0' : ((w1.setCell ⟨g, L0.length, none⟩ (.slice pp 0 (sg.c - 1))).setCell ⟨bx, 0, none⟩ (.slice (some ⟨g, 0, none⟩) L0.length cap)).drew.cell? ⟨kn, 0, none⟩ = some (.string x0) := by simp [World.cell?, nb2]
        have n1' : ((w1.setCell ⟨g, L0.length, none⟩ (.slice pp 0 (sg.c - 1))).setCell ⟨bx, 0, none⟩ (.slice (some ⟨g, 0, none⟩) L0.length cap)).drew.cell? ⟨kn, 1, none⟩ = some (.bool x1) := by simp [World.cell?, nb2]
        have n2' : ((w1.setCell ⟨g, L0.length, none⟩ (.slice pp 0 (sg.c - 1))).setCell ⟨bx, 0, none⟩ (.slice (some ⟨g, 0, none⟩) L0.length cap)).drew.cell? ⟨kn, 2, none⟩ = some (.int .i64 x2) := by simp [World.cell?, nb2]
        have n3' : ((w1.setCell ⟨g, L0.length, none⟩ (.slice pp 0 (sg.c - 1))).setCell ⟨bx, 0, none⟩ (.slice (some ⟨g, 0, none⟩) L0.length cap)).drew.cell? ⟨kn, 3, none⟩ = some (.int .i64 x3) := by simp [World.cell?, nb2]
        obtain ⟨fn, tmps, assign, body, hy, hR⟩ := hY2
        gi_wp2
        refine ⟨rfl, hR.mono ?_⟩
        rintro e W' h
        clear hR hy n0' n1' n2' n3' nb2 F2 S2 g2 rd2 cb2 q1' cb1 cr1 fr1 fbx1 g1 rd1 nb
        simp only [run] at hrun2
        cases hst : step s [.string x0, .bool x1, .int .i64 x2, .int .i64 x3] with
        | none =>
          rw [hst] at h hrun2
          obtain ⟨rfl, hO⟩ := h
          simp only [Option.some.injEq] at hrun2
          subst hrun2
          gi_wp2
          refine bodyPost_ret (results_none rfl _ _ _) rfl ?_
          exact ⟨⟨_, rfl⟩, hO⟩
        | some sm =>
          obtain ⟨s', more⟩ := sm
          rw [hst] at h hrun2
          obtain ⟨rfl, hG', hRd', sv', L', hS', hp', hl'⟩ := h
          simp only at hrun2
          have hct' := hcnt s _ s' more hst
          have hq : ∃ s sv L, G s W' ∧ Rd W' ∧ Stk 121 86 okT W' B bx sv L ∧ run step m s (pend L) = some res ∧ m + cnt s ≤ most ∧ L.length ≤ cnt s + 1 := ⟨s', sv', L', hG', hRd', hS', by rw [hp']; exact hrun2, by have := HC.out; omega, by have := HLC.out; first | omega | (simp at hl'; omega)⟩
          have hless := (hmu W' m hq).2
          gi_wp2
          go_roundw
          case rel => exact ⟨m, hq⟩
          case measure => have := HM.out; omega
      | cons y r' =>
        have hc1 : sg.c ≠ 1 := by simp at hsc; omega
        have hcc : ¬ (sg.c = 1) := hc1
        gi_region
        have S2 : Stk 121 86 okT (w1.setCell ⟨g, L0.length, none⟩ (.slice (some ⟨sg.g, sg.o + 4, none⟩) (r'.length + 1) (sg.c - 1))).drew B bx (.slice (some ⟨g, 0, none⟩) (L0.length + 1) cap) (L0 ++ [⟨sg.g, sg.o + 4, sg.c - 1, y :: r'⟩]) :=
          Stk.frame (q1'.less (s' := ⟨sg.g, sg.o + 4, sg.c - 1, y :: r'⟩) (by decide) hl1 ⟨by simp, by simp at hsc ⊢; omega, fun x hxm => (q1'.full sg (by simp)).2.2 x (by rw [hx]; simp at hxm ⊢; exact .inr hxm)⟩ rfl) (Fr.drew (Fr.refl _ _))
        have F2 : Fr (bx :: (Value.slice (some ⟨g, 0, none⟩) (L0.length + 1) cap).ownBlock.toList) w1 (w1.setCell ⟨g, L0.length, none⟩ (.slice (some ⟨sg.g, sg.o + 4, none⟩) (r'.length + 1) (sg.c - 1))).drew :=
          (Fr.setCell (Fr.refl _ _) (.inl (by simp [Value.ownBlock])) _).drew
        have g2 := hG s _ _ _ _ g1 q1' F2
        have rd2 := hRd _ _ _ _ rd1 q1' F2
        have nb2 := (F2.block kn k1 (by simp [Value.ownBlock]; exact ⟨hkn0, hkg⟩)).trans nb
        have cb2 : ((w1.setCell ⟨g, L0.length, none⟩ (.slice (some ⟨sg.g, sg.o + 4, none⟩) (r'.length + 1) (sg.c - 1))).drew).cell? ⟨bx, 0, none⟩ = some (.slice (some ⟨g, 0, none⟩) (L0.length + 1) cap) :=
          ((Fr.setCell (S := [g]) (Fr.refl _ w1) (.inl (by simp)) _).drew).cell1 cb1 (by simpa using hbg)
        have hY2 := hY s [.string x0, .bool x1, .int .i64 x2, .int .i64 x3] _ _ _ g2 rd2 S2 (by have := HC.out; omega) (by have := HLC.out; simp; omega) ⟨_, _, _, _, rfl, hwx⟩
        have n0' : (w1.setCell ⟨g, L0.length, none⟩ (.slice (some ⟨sg.g, sg.o + 4, none⟩) (r'.length + 1) (sg.c - 1))).drew.cell? ⟨kn, 0, none⟩ = some (.string x0) := by simp [World.cell?, nb2]
        have n1' : (w1.setCell ⟨g, L0.length, none⟩ (.slice (some ⟨sg.g, sg.o + 4, none⟩) (r'.length + 1) (sg.c - 1))).drew.cell? ⟨kn, 1, none⟩ = some (.bool x1) := by simp [World.cell?, nb2]
        have n2' : (w1.setCell ⟨g, L0.length, none⟩ (.slice (some ⟨sg.g, sg.o + 4, none⟩) (r'.length + 1) (sg.c - 1))).drew.cell? ⟨kn, 2, none⟩ = some (.int .i64 x2) := by simp [World.cell?, nb2]
        have n3' : (w1.setCell ⟨g, L0.length, none⟩ (.slice (some ⟨sg.g, sg.o + 4, none⟩) (r'.length + 1) (sg.c - 1))).drew.cell? ⟨kn, 3, none⟩ = some (.int .i64 x3) := by simp [World.cell?, nb2]
        obtain ⟨fn, tmps, assign, body, hy, hR⟩ := hY2
        rw [pend_snoc] at hR
        have hln' : (((r'.length : Int) + 1) == 0) = false := by simp; omega
        gi_wp2
        refine ⟨rfl, hR.mono ?_⟩
        rintro e W' h
        clear hR hy n0' n1' n2' n3' nb2 F2 S2 g2 rd2 cb2 q1' cb1 cr1 fr1 g1 rd1 nb
        simp only [run] at hrun2
        cases hst : step s [.string x0, .bool x1, .int .i64 x2, .int .i64 x3] with
        | none =>
          rw [hst] at h hrun2
          obtain ⟨rfl, hO⟩ := h
          simp only [Option.some.injEq] at hrun2
          subst hrun2
          gi_wp2
          refine bodyPost_ret (results_none rfl _ _ _) rfl ?_
          exact ⟨⟨_, rfl⟩, hO⟩
        | some sm =>
          obtain ⟨s', more⟩ := sm
          rw [hst] at h hrun2
          obtain ⟨rfl, hG', hRd', sv', L', hS', hp', hl'⟩ := h
          simp only at hrun2
          have hct' := hcnt s _ s' more hst
          have hq : ∃ s sv L, G s W' ∧ Rd W' ∧ Stk 121 86 okT W' B bx sv L ∧ run step m s (pend L) = some res ∧ m + cnt s ≤ most ∧ L.length ≤ cnt s + 1 := ⟨s', sv', L', hG', hRd', hS', by rw [hp']; exact hrun2, by have := HC.out; omega, by have := HLC.out; first | omega | (simp at hl'; omega)⟩
          have hless := (hmu W' m hq).2
          gi_wp2
          go_roundw
          case rel => exact ⟨m, hq⟩
          case measure => have := HM.out; omega
end Go.Proofs.YtefkcmeeagflmaaDoor
namespace Go.Proofs.YtefkcmeeagflmaaDoor
open Go.RowKit Go.Shelf

theorem under121 : Tryd.prog.underlying 121 = some (.slice 86) := by kernel_rfl
theorem info86 : (Tryd.prog.info? 86).map (fun i => (i.zero, i.size, i.bytes)) = some (some (.slice none 0 0), 1, 24) := by kernel_rfl

set_option maxRecDepth 100000 in
set_option maxHeartbeats 1000000 in
theorem addT {W : World} {B bx : Nat} {sv : Value} {L : List Seg} (h : Stk 121 86 okT W B bx sv L) (s : Seg)
    (hl : ∀ j u, s.xs.flatten[j]? = some u → W.cell? ⟨s.g, s.o + j, none⟩ = some u) (hf : s.xs ≠ [] ∧ s.xs.length ≤ s.c ∧ ∀ x, x ∈ s.xs → okT x) (hoff : s.g ≠ bx ∧ sv.ownBlock ≠ some s.g ∧ s.g < W.heap.size) (hL : L.length ≤ 1000000000000) :
    Calls Tryd.prog 49 #[s.val, .pointer (some ⟨bx, 0, none⟩)] W fun e W' => e = .returned (.tuple #[]) ∧ ∃ sv', Stk 121 86 okT W' B bx sv' (L ++ [s]) ∧ Fr (bx :: sv.ownBlock.toList) W W' := by
  obtain ⟨i, hi, hz, hs, hby⟩ := info_parts info86
  have cb : W.cell? ⟨bx, 0, none⟩ = some sv := by have := h.box; simp [World.cell?, this]
  have hbs := (Array.getElem?_eq_some_iff.1 h.box).1
  have hbB := h.base
  have hP := fun o v1 W1 => Stk.push (W1 := W1) (v1 := v1) (by decide) okT_ne h o s hl hf hoff
  have hln : (0 : Int) < (s.xs.length : Int) := by
    have := hf.1
    cases hx : s.xs with
    | nil => exact absurd hx this
    | cons x r => simp
  have hrow := h.row
  have hL' : L.length + 1 ≤ maxLen := by have : maxLen = 9223372036854775807 := rfl; omega
  show Calls Tryd.prog 49 #[.slice (some ⟨s.g, s.o, none⟩) s.xs.length s.c, .pointer (some ⟨bx, 0, none⟩)] W _
  go_enter Tryd.func49, Tryd.ntmps49
  go_wp2_with (at_builtin; go_loud (refine wpList_append_fp _ rfl _ _ 121 rfl B 86 i (.slice none 0 0) 1 24 under121 hi hz hs hby rfl (by decide) sv L.length (L.map Seg.val) rfl ?own _ 1 _ [s.val] rfl rfl ?news ?one ?max (by omega) ?base ?_))
  case own => exact hrow.alloc _
  case news => exact cell_one_new W _ 86
  case one => simp [Value.oneCell', Seg.val]
  case max => exact hL'
  case base => simp; omega
  intro v1 w1 ho1 hg1 hk1
  obtain ⟨h1, h2⟩ := hP _ v1 w1 hg1 ho1 (by simpa using hk1)
  have f1 : Fr sv.ownBlock.toList W w1 := ((Fr.refl _ _).alloc _).trans ((Fr.ofGrown hg1).sub (fun k hk => .inl hk))
  have hb1 : w1.heap[bx]? = some (.cells #[sv] 121 (0, 0)) := (f1.block bx hbs (by simp only [Option.mem_toList]; exact h.ne (by decide))).trans h.box
  have cb1 : w1.cell? ⟨bx, 0, none⟩ = some sv := by simp [World.cell?, hb1]
  have fb1 : w1.frozen? ⟨bx, 0, none⟩ = false := by simp [World.frozen?, hb1]
  obtain ⟨g, c, hv⟩ : ∃ g c, v1 = .slice (some ⟨g, 0, none⟩) (L.length + 1) c := by
    rcases ho1.2 with ⟨_, e⟩ | ⟨g, cap, cur, e, _⟩
    · omega
    · exact ⟨g, cap, e⟩
  subst hv
  clear hP hg1 ho1 hk1
  go_wp2
  go_end0
  exact ⟨rfl, _, h1, h2⟩

theorem addT_none (W : World) (a : Option Addr) (c bx : Nat) :
    Calls Tryd.prog 49 #[.slice a 0 c, .pointer (some ⟨bx, 0, none⟩)] W fun e W' => e = .returned (.tuple #[]) ∧ W' = W := by
  go_enter Tryd.func49, Tryd.ntmps49
  go_wp2
  go_end0
  exact ⟨rfl, rfl⟩

theorem waitingT (W : World) (B : Nat) (hB : B ≤ W.heap.size) :
    Calls Tryd.prog 30 #[] W fun e W' => e = .returned (.tuple #[.func (.func 49) #[] #[.pointer (some ⟨W.heap.size, 0, none⟩)], .func (.func 50) #[] #[.pointer (some ⟨W.heap.size, 0, none⟩)]]) ∧
      W' = W.alloc (.cells #[.slice none 0 0] 121) ∧ Stk 121 86 okT W' B W.heap.size (.slice none 0 0) [] := by
  go_enter Tryd.func30, Tryd.ntmps30
  go_wp2
  refine bodyPost_ret (v := .tuple #[.func (.func 49) #[] #[.pointer (some ⟨W.heap.size, 0, none⟩)], .func (.func 50) #[] #[.pointer (some ⟨W.heap.size, 0, none⟩)]]) (by simp [results, Tryd.results30, go_sem]) rfl ?_
  exact ⟨rfl, rfl, heap_alloc_new W _, World.ownsRow_nil _ _ _ _, by simp, by simp, by simp, hB⟩
end Go.Proofs.YtefkcmeeagflmaaDoor
namespace Go.Proofs.YtefkcmeeagflmaaDoor
open Go.RowKit

/-- Values may stand for one another. -/
def OkV (A B : List (Int × List (Int × Int))) (R : Int → Int → Prop) (p q : Int × Int) : Prop :=
  match thingAt A p, thingAt B q with
  | none, none => p = q
  | some _, some _ => R p.2 q.2
  | _, _ => False

/-- Lists of values, likewise. -/
def OkL (A B : List (Int × List (Int × Int))) (R : Int → Int → Prop) : List (Int × Int) → List (Int × Int) → Prop
  | [], [] => True
  | p :: x, q :: y => OkV A B R p q ∧ OkL A B R x y
  | _, _ => False

/-- A relation of things that is one-to-one, of things that are alike. -/
structure OkR (A B : List (Int × List (Int × Int))) (R : Int → Int → Prop) : Prop where
  one : ∀ i j k, R i j → R i k → j = k
  uno : ∀ i j k, R i k → R j k → i = j
  alike : ∀ i j, R i j → ∃ a b, thingAt A (2, i) = some a ∧ thingAt B (2, j) = some b ∧ a.1 = b.1 ∧ OkL A B R a.2 b.2

/-- Alike as seen from values. -/
def Alike (A : List (Int × List (Int × Int))) (x : List (Int × Int)) (B : List (Int × List (Int × Int))) (y : List (Int × Int)) : Prop := ∃ R, OkR A B R ∧ OkL A B R x y

theorem OkV.mono {A B : List (Int × List (Int × Int))} {R S : Int → Int → Prop} (h : ∀ i j, R i j → S i j) {p q : Int × Int} (k : OkV A B R p q) : OkV A B S p q := by
  unfold OkV at k ⊢
  split at k <;> simp_all
theorem OkL.len {A B : List (Int × List (Int × Int))} {R : Int → Int → Prop} : ∀ {x y : List (Int × Int)}, OkL A B R x y → x.length = y.length
  | [], [], _ => rfl
  | p :: x, q :: y, h => by simp [OkL.len h.2]
  | [], _ :: _, h => by cases h
  | _ :: _, [], h => by cases h
theorem OkL.zip {A B : List (Int × List (Int × Int))} {R : Int → Int → Prop} : ∀ {x y : List (Int × Int)}, OkL A B R x y → ∀ z, z ∈ zipP x y → OkV A B R (dec z).1 (dec z).2
  | [], [], _, z, hz => by simp [zipP] at hz
  | p :: x, q :: y, h, z, hz => by
    simp only [zipP, List.mem_cons] at hz
    rcases hz with rfl | hz
    · exact h.1
    · exact OkL.zip h.2 z hz
theorem OkL.of_zip {A B : List (Int × List (Int × Int))} {R : Int → Int → Prop} : ∀ {x y : List (Int × Int)}, x.length = y.length → (∀ z, z ∈ zipP x y → OkV A B R (dec z).1 (dec z).2) → OkL A B R x y
  | [], [], _, _ => trivial
  | p :: x, q :: y, h, k => ⟨k (pc p q) (by simp [zipP]), OkL.of_zip (by simpa using h) (fun z hz => k z (by simp [zipP, hz]))⟩
  | [], _ :: _, h, _ => by simp at h
  | _ :: _, [], h, _ => by simp at h

theorem thing_two {A : List (Int × List (Int × Int))} {p : Int × Int} {a : Int × List (Int × Int)} (h : thingAt A p = some a) : p = (2, p.2) := by
  unfold thingAt at h
  split at h
  · rename_i h2
    rw [← h2.1]
  · cases h
theorem thing_ne {A : List (Int × List (Int × Int))} {p : Int × Int} (h : p.1 ≠ 2) : thingAt A p = none := by
  unfold thingAt
  rw [if_neg (fun e => h e.1)]

/-- What is left, by weight, of things that aren't met. -/
def wg (wt : Int × List (Int × Int) → Nat) (met : Int → Bool) : Nat → List (Int × List (Int × Int)) → Nat
  | _, [] => 0
  | k, a :: r => (if met k then 0 else wt a) + wg wt met (k + 1) r

theorem wg_eq (wt : Int × List (Int × Int) → Nat) (met met' : Int → Bool) : ∀ (k : Nat) (A : List (Int × List (Int × Int))), (∀ j : Nat, k ≤ j → met' j = met j) → wg wt met' k A = wg wt met k A
  | _, [], _ => rfl
  | k, a :: r, h => by
    rw [wg, wg, h k (Nat.le_refl _), wg_eq wt met met' (k + 1) r (fun j hj => h j (by omega))]
theorem wg_put (wt : Int × List (Int × Int) → Nat) (met met' : Int → Bool) : ∀ (A : List (Int × List (Int × Int))) (k i : Nat) (a : Int × List (Int × Int)), A[i]? = some a → met (k + i : Nat) = false → met' (k + i : Nat) = true → (∀ j : Nat, j ≠ k + i → met' j = met j) → wg wt met' k A + wt a = wg wt met k A
  | [], k, i, a, h, _, _, _ => by simp at h
  | b :: r, k, 0, a, h, h1, h2, h3 => by
    simp at h
    subst h
    simp only [Nat.add_zero] at h1 h2
    rw [wg, wg, wg_eq wt met met' (k + 1) r (fun j hj => h3 j (by omega)), h1, h2]
    simp
    omega
  | b :: r, k, i + 1, a, h, h1, h2, h3 => by
    have := wg_put wt met met' r (k + 1) i a (by simpa using h) (by rw [show k + 1 + i = k + (i + 1) by omega]; exact h1) (by rw [show k + 1 + i = k + (i + 1) by omega]; exact h2) (fun j hj => h3 j (by omega))
    rw [wg, wg, h3 k (by omega)]
    omega
theorem wg_met {wt : Int × List (Int × Int) → Nat} {met met' : Int → Bool} {A : List (Int × List (Int × Int))} {p : Int × Int} {a : Int × List (Int × Int)} (h : thingAt A p = some a) (h1 : met p.2 = false) (h2 : met' p.2 = true) (h3 : ∀ j, j ≠ p.2 → met' j = met j) : wg wt met' 0 A + wt a = wg wt met 0 A := by
  unfold thingAt at h
  split at h
  · rename_i h4
    have e : ((0 + p.2.toNat : Nat) : Int) = p.2 := by omega
    refine wg_put wt met met' A 0 p.2.toNat a h (by rw [e]; exact h1) (by rw [e]; exact h2) (fun j hj => h3 j (by omega))
  · cases h

/-- A run that gets less each round comes to an end. -/
theorem run_ends {σ : Type} (step : σ → List Value → Option (σ × List (List Value))) (mu : σ → Nat) (I : σ → Prop) (h : ∀ s x s' more, I s → step s x = some (s', more) → I s' ∧ mu s' + more.length ≤ mu s) : ∀ (n : Nat) (s : σ) (p : List (List Value)), I s → mu s + p.length < n → ∃ r, run step n s p = some r
  | 0, s, p, _, hn => by omega
  | n + 1, s, [], _, _ => ⟨_, rfl⟩
  | n + 1, s, x :: p, hi, hn => by
    rw [run]
    cases hst : step s x with
    | none => exact ⟨_, rfl⟩
    | some q =>
      obtain ⟨s', more⟩ := q
      obtain ⟨h1, h2⟩ := h s x s' more hi hst
      exact run_ends step mu I h n s' (more ++ p) h1 (by simp at hn ⊢; omega)

theorem zipP_len : ∀ (x y : List (Int × Int)), x.length = y.length → (zipP x y).length = x.length := zipP_length

theorem stepS_less (A B : List (Int × List (Int × Int))) (s : (Bool → Int → Option Int) × Nat) (x : List Value) (s' : (Bool → Int → Option Int) × Nat) (more : List (List Value)) (h : stepS A B s x = some (s', more)) :
    wg (fun a => a.2.length) (fun i => (s'.1 false i).isSome) 0 A + more.length ≤ wg (fun a => a.2.length) (fun i => (s.1 false i).isSome) 0 A := by
  unfold stepS at h
  split at h
  · cases h
  · rename_i f m hm
    simp only [Option.some.injEq, Prod.mk.injEq] at h
    obtain ⟨rfl, rfl⟩ := h
    unfold mateStep at hm
    split at hm
    · split at hm
      · rename_i h1 h2
        unfold joinStep at hm
        split at hm
        · split at hm
          · simp only [Option.some.injEq, Prod.mk.injEq] at hm
            obtain ⟨rfl, rfl⟩ := hm
            simp
          · cases hm
        · rename_i a b ha hb
          split at hm
          · rename_i h3
            simp only [Option.some.injEq, Prod.mk.injEq] at hm
            obtain ⟨rfl, rfl⟩ := hm
            rw [zipP_length _ _ h3.2]
            have := wg_met (wt := fun a => a.2.length) (met := fun i => (s.1 false i).isSome) (met' := fun i => (upd (upd s.1 false (dec x).1.2 (dec x).2.2) true (dec x).2.2 (dec x).1.2 false i).isSome) ha (by simp [h1]) (by simp [upd]) (fun j hj => by simp [upd, hj])
            exact Nat.le_of_eq this
          · cases hm
        · cases hm
      · split at hm
        · simp only [Option.some.injEq, Prod.mk.injEq] at hm
          obtain ⟨rfl, rfl⟩ := hm
          simp
        · cases hm
      · cases hm
    · split at hm
      · simp only [Option.some.injEq, Prod.mk.injEq] at hm
        obtain ⟨rfl, rfl⟩ := hm
        simp
      · cases hm
end Go.Proofs.YtefkcmeeagflmaaDoor
namespace Go.Proofs.YtefkcmeeagflmaaDoor
open Go.RowKit

/-- The relation that is noted. -/
def rel (f : Bool → Int → Option Int) (i j : Int) : Prop := f false i = some j

/-- What is noted on the way. -/
structure Snd (A B : List (Int × List (Int × Int))) (P0 : List (List Value)) (f : Bool → Int → Option Int) (p : List (List Value)) : Prop where
  sym : ∀ i j, f false i = some j ↔ f true j = some i
  th : ∀ i j, f false i = some j → ∃ a b, thingAt A (2, i) = some a ∧ thingAt B (2, j) = some b ∧ a.1 = b.1 ∧ a.2.length = b.2.length ∧ ∀ z, z ∈ zipP a.2 b.2 → OkV A B (rel f) (dec z).1 (dec z).2 ∨ z ∈ p
  st : ∀ z, z ∈ P0 → OkV A B (rel f) (dec z).1 (dec z).2 ∨ z ∈ p

theorem Snd.next {A B : List (Int × List (Int × Int))} {P0 : List (List Value)} {f f' : Bool → Int → Option Int} {z : List Value} {p more : List (List Value)} (h : Snd A B P0 f (z :: p)) (hs : ∀ i j, f' false i = some j ↔ f' true j = some i) (hm : ∀ i j, f false i = some j → f' false i = some j)
    (hz : OkV A B (rel f') (dec z).1 (dec z).2) (hn : ∀ i j, f' false i = some j → f false i = some j ∨ ∃ a b, thingAt A (2, i) = some a ∧ thingAt B (2, j) = some b ∧ a.1 = b.1 ∧ a.2.length = b.2.length ∧ ∀ z, z ∈ zipP a.2 b.2 → z ∈ more) : Snd A B P0 f' (more ++ p) := by
  have key : ∀ u, (OkV A B (rel f) (dec u).1 (dec u).2 ∨ u ∈ z :: p) → OkV A B (rel f') (dec u).1 (dec u).2 ∨ u ∈ more ++ p := by
    intro u hu
    rcases hu with hu | hu
    · exact .inl (hu.mono hm)
    · simp only [List.mem_cons] at hu
      rcases hu with rfl | hu
      · exact .inl hz
      · exact .inr (by simp [hu])
  refine ⟨hs, fun i j hij => ?_, fun u hu => key u (h.st u hu)⟩
  rcases hn i j hij with h1 | ⟨a, b, h1, h2, h3, h4, h5⟩
  · obtain ⟨a, b, k1, k2, k3, k4, k5⟩ := h.th i j h1
    exact ⟨a, b, k1, k2, k3, k4, fun u hu => key u (k5 u hu)⟩
  · exact ⟨a, b, h1, h2, h3, h4, fun u hu => .inr (by simp [h5 u hu])⟩

theorem pair_two {p : Int × Int} (h : p.1 = 2) : p = (2, p.2) := by rw [← h]

theorem Snd.step {A B : List (Int × List (Int × Int))} {P0 : List (List Value)} {f f' : Bool → Int → Option Int} {z : List Value} {p more : List (List Value)} (h : Snd A B P0 f (z :: p)) (hm : mateStep A B f (dec z).1 (dec z).2 = some (f', more)) : Snd A B P0 f' (more ++ p) := by
  unfold mateStep at hm
  split at hm
  · rename_i h2
    split at hm
    · rename_i n1 n2
      unfold joinStep at hm
      split at hm
      · rename_i t1 t2
        split at hm
        · rename_i he
          simp only [Option.some.injEq, Prod.mk.injEq] at hm
          obtain ⟨rfl, rfl⟩ := hm
          refine h.next h.sym (fun _ _ h => h) ?_ (fun i j hij => .inl hij)
          unfold OkV
          rw [t1, t2]
          show (dec z).1 = (dec z).2
          rw [pair_two h2.1, pair_two h2.2, he]
        · cases hm
      · rename_i a b t1 t2
        split at hm
        · rename_i he
          simp only [Option.some.injEq, Prod.mk.injEq] at hm
          obtain ⟨rfl, rfl⟩ := hm
          have e1 : ∀ i, upd (upd f false (dec z).1.2 (dec z).2.2) true (dec z).2.2 (dec z).1.2 false i = if i = (dec z).1.2 then some (dec z).2.2 else f false i := by intro i; simp [upd]
          have e2 : ∀ j, upd (upd f false (dec z).1.2 (dec z).2.2) true (dec z).2.2 (dec z).1.2 true j = if j = (dec z).2.2 then some (dec z).1.2 else f true j := by intro i; simp [upd]
          refine h.next ?_ ?_ ?_ ?_
          · intro i j
            rw [e1, e2]
            by_cases hi : i = (dec z).1.2
            · by_cases hj : j = (dec z).2.2
              · simp [hi, hj]
              · simp only [hi, hj, if_true, if_false, Option.some.injEq]
                constructor
                · intro e; exact absurd e.symm hj
                · intro e
                  have := (h.sym _ _).2 e
                  rw [n1] at this
                  cases this
            · by_cases hj : j = (dec z).2.2
              · simp only [hi, hj, if_true, if_false, Option.some.injEq]
                constructor
                · intro e
                  have := (h.sym _ _).1 e
                  rw [n2] at this
                  cases this
                · intro e; exact absurd e.symm hi
              · simp only [hi, hj, if_false]
                exact h.sym i j
          · intro i j hij
            rw [e1]
            by_cases hi : i = (dec z).1.2
            · rw [hi, n1] at hij; cases hij
            · simp [hi, hij]
          · unfold OkV
            rw [t1, t2]
            show rel _ _ _
            unfold rel
            rw [e1]
            simp
          · intro i j hij
            rw [e1] at hij
            by_cases hi : i = (dec z).1.2
            · simp only [hi, if_true, Option.some.injEq] at hij
              subst hi hij
              exact .inr ⟨a, b, by rw [← pair_two h2.1]; exact t1, by rw [← pair_two h2.2]; exact t2, he.1, he.2, fun u hu => hu⟩
            · simp only [hi, if_false] at hij
              exact .inl hij
        · cases hm
      · cases hm
    · rename_i m o n1 n2
      split at hm
      · rename_i he
        simp only [Option.some.injEq, Prod.mk.injEq] at hm
        obtain ⟨rfl, rfl⟩ := hm
        obtain ⟨rfl, rfl⟩ := he
        refine h.next h.sym (fun _ _ h => h) ?_ (fun i j hij => .inl hij)
        obtain ⟨a, b, k1, k2, _⟩ := h.th _ _ n1
        rw [← pair_two h2.1] at k1
        rw [← pair_two h2.2] at k2
        unfold OkV
        rw [k1, k2]
        exact n1
      · cases hm
    · cases hm
  · rename_i h2
    split at hm
    · rename_i he
      simp only [Option.some.injEq, Prod.mk.injEq] at hm
      obtain ⟨rfl, rfl⟩ := hm
      refine h.next h.sym (fun _ _ h => h) ?_ (fun i j hij => .inl hij)
      have hn : (dec z).1.1 ≠ 2 := fun e => h2 ⟨e, by rw [← he]; exact e⟩
      unfold OkV
      rw [← he, thing_ne hn, thing_ne hn]
    · cases hm

theorem sound (A B : List (Int × List (Int × Int))) (P0 : List (List Value)) : ∀ (n : Nat) (s s' : (Bool → Int → Option Int) × Nat) (p : List (List Value)), Snd A B P0 s.1 p → run (stepS A B) n s p = some (some s') → Snd A B P0 s'.1 []
  | 0, s, s', p, _, hr => by simp [run] at hr
  | n + 1, s, s', [], h, hr => by
    simp only [run, Option.some.injEq] at hr
    subst hr
    exact h
  | n + 1, s, s', z :: p, h, hr => by
    rw [run] at hr
    unfold stepS at hr
    cases hm : mateStep A B s.1 (dec z).1 (dec z).2 with
    | none => rw [hm] at hr; simp at hr
    | some q =>
      obtain ⟨f', more⟩ := q
      rw [hm] at hr
      exact sound A B P0 n _ s' _ (h.step hm) hr

/-- What there is, where heaps are alike. -/
structure Cmp (A B : List (Int × List (Int × Int))) (R : Int → Int → Prop) (f : Bool → Int → Option Int) (p : List (List Value)) : Prop where
  sym : ∀ i j, f false i = some j ↔ f true j = some i
  sub : ∀ i j, f false i = some j → R i j
  ok : ∀ z, z ∈ p → OkV A B R (dec z).1 (dec z).2

theorem Cmp.step {A B : List (Int × List (Int × Int))} {R : Int → Int → Prop} (hR : OkR A B R) {f : Bool → Int → Option Int} {z : List Value} {p : List (List Value)} (h : Cmp A B R f (z :: p)) : ∃ f' more, mateStep A B f (dec z).1 (dec z).2 = some (f', more) ∧ Cmp A B R f' (more ++ p) := by
  have hz := h.ok z (by simp)
  have hp : ∀ u, u ∈ p → OkV A B R (dec u).1 (dec u).2 := fun u hu => h.ok u (by simp [hu])
  have thA : ∀ i j, R i j → ∃ a, thingAt A (2, i) = some a := fun i j hij => by obtain ⟨a, b, k1, _⟩ := hR.alike i j hij; exact ⟨a, k1⟩
  have thB : ∀ i j, R i j → ∃ b, thingAt B (2, j) = some b := fun i j hij => by obtain ⟨a, b, _, k2, _⟩ := hR.alike i j hij; exact ⟨b, k2⟩
  unfold mateStep
  split
  · rename_i h2
    split
    · rename_i n1 n2
      unfold joinStep
      unfold OkV at hz
      cases t1 : thingAt A (dec z).1 with
      | none =>
        cases t2 : thingAt B (dec z).2 with
        | none =>
          rw [t1, t2] at hz
          simp only at hz ⊢
          rw [if_pos (by rw [hz])]
          exact ⟨f, [], rfl, h.sym, h.sub, by simpa using hp⟩
        | some b => rw [t1, t2] at hz; exact hz.elim
      | some a =>
        cases t2 : thingAt B (dec z).2 with
        | none => rw [t1, t2] at hz; exact hz.elim
        | some b =>
          rw [t1, t2] at hz
          simp only at hz ⊢
          obtain ⟨a', b', k1, k2, k3, k4⟩ := hR.alike _ _ hz
          rw [← pair_two h2.1, t1] at k1
          rw [← pair_two h2.2, t2] at k2
          injection k1 with k1
          injection k2 with k2
          subst k1 k2
          rw [if_pos ⟨k3, k4.len⟩]
          have e1 : ∀ i, upd (upd f false (dec z).1.2 (dec z).2.2) true (dec z).2.2 (dec z).1.2 false i = if i = (dec z).1.2 then some (dec z).2.2 else f false i := by intro i; simp [upd]
          have e2 : ∀ j, upd (upd f false (dec z).1.2 (dec z).2.2) true (dec z).2.2 (dec z).1.2 true j = if j = (dec z).2.2 then some (dec z).1.2 else f true j := by intro i; simp [upd]
          refine ⟨_, _, rfl, ?_, ?_, ?_⟩
          · intro i j
            rw [e1, e2]
            by_cases hi : i = (dec z).1.2
            · by_cases hj : j = (dec z).2.2
              · simp [hi, hj]
              · simp only [hi, hj, if_true, if_false, Option.some.injEq]
                constructor
                · intro e; exact absurd e.symm hj
                · intro e
                  have := (h.sym _ _).2 e
                  rw [n1] at this
                  cases this
            · by_cases hj : j = (dec z).2.2
              · simp only [hi, hj, if_true, if_false, Option.some.injEq]
                constructor
                · intro e
                  have := (h.sym _ _).1 e
                  rw [n2] at this
                  cases this
                · intro e; exact absurd e.symm hi
              · simp only [hi, hj, if_false]
                exact h.sym i j
          · intro i j hij
            rw [e1] at hij
            by_cases hi : i = (dec z).1.2
            · simp only [hi, if_true, Option.some.injEq] at hij
              subst hi hij
              exact hz
            · simp only [hi, if_false] at hij
              exact h.sub i j hij
          · intro u hu
            simp only [List.mem_append] at hu
            rcases hu with hu | hu
            · exact k4.zip u hu
            · exact hp u hu
    · rename_i m o n1 n2
      have r1 := h.sub _ _ n1
      have r2 := h.sub _ _ ((h.sym _ _).2 n2)
      obtain ⟨a, t1⟩ := thA _ _ r1
      obtain ⟨b, t2⟩ := thB _ _ r2
      rw [← pair_two h2.1] at t1
      rw [← pair_two h2.2] at t2
      unfold OkV at hz
      rw [t1, t2] at hz
      simp only at hz
      rw [if_pos ⟨hR.one _ _ _ r1 hz, hR.uno _ _ _ r2 hz⟩]
      exact ⟨f, [], rfl, h.sym, h.sub, by simpa using hp⟩
    · rename_i n0 n1
      exfalso
      cases c1 : f false (dec z).1.2 with
      | none =>
        cases c2 : f true (dec z).2.2 with
        | none => exact n0 c1 c2
        | some o =>
          have r2 := h.sub _ _ ((h.sym _ _).2 c2)
          obtain ⟨b, t2⟩ := thB _ _ r2
          rw [← pair_two h2.2] at t2
          unfold OkV at hz
          rw [t2] at hz
          split at hz
          · rename_i _ e; cases e
          · have e := hR.uno _ _ _ r2 hz
            have := (h.sym _ _).2 c2
            rw [e, c1] at this
            cases this
          · exact hz
      | some m =>
        cases c2 : f true (dec z).2.2 with
        | none =>
          have r1 := h.sub _ _ c1
          obtain ⟨a, t1⟩ := thA _ _ r1
          rw [← pair_two h2.1] at t1
          unfold OkV at hz
          rw [t1] at hz
          split at hz
          · rename_i e _; cases e
          · have e := hR.one _ _ _ r1 hz
            rw [e] at c1
            have := (h.sym _ _).1 c1
            rw [c2] at this
            cases this
          · exact hz
        | some o => exact n1 m o c1 c2
  · rename_i h2
    have he : (dec z).1 = (dec z).2 := by
      unfold OkV at hz
      by_cases h1 : (dec z).1.1 = 2
      · have h3 : (dec z).2.1 ≠ 2 := fun e => h2 ⟨h1, e⟩
        rw [thing_ne h3] at hz
        split at hz
        · exact hz
        · rename_i e; cases e
        · exact hz.elim
      · rw [thing_ne h1] at hz
        split at hz
        · exact hz
        · rename_i e _; cases e
        · exact hz.elim
    rw [if_pos he]
    exact ⟨f, [], rfl, h.sym, h.sub, by simpa using hp⟩

theorem complete {A B : List (Int × List (Int × Int))} {R : Int → Int → Prop} (hR : OkR A B R) : ∀ (n : Nat) (s : (Bool → Int → Option Int) × Nat) (p : List (List Value)) (res : Option ((Bool → Int → Option Int) × Nat)), Cmp A B R s.1 p → run (stepS A B) n s p = some res → res.isSome = true
  | 0, s, p, res, _, hr => by simp [run] at hr
  | n + 1, s, [], res, h, hr => by
    simp only [run, Option.some.injEq] at hr
    subst hr
    rfl
  | n + 1, s, z :: p, res, h, hr => by
    obtain ⟨f', more, hm, h'⟩ := h.step hR
    rw [run] at hr
    unfold stepS at hr
    rw [hm] at hr
    exact complete hR n _ _ res h' hr

theorem same_alike {A B : List (Int × List (Int × Int))} {x y : List (Int × Int)} (hl : x.length = y.length) {n : Nat} {res : Option ((Bool → Int → Option Int) × Nat)} (hr : run (stepS A B) n (fun _ _ => none, 0) (zipP x y) = some res) : res.isSome = true ↔ Alike A x B y := by
  constructor
  · intro h
    obtain ⟨s', rfl⟩ := Option.isSome_iff_exists.1 h
    have hS : Snd A B (zipP x y) (fun _ _ => none) (zipP x y) := ⟨by simp, by simp, fun z hz => .inr hz⟩
    have hE := sound A B (zipP x y) n _ s' _ hS hr
    refine ⟨rel s'.1, ⟨fun i j k h1 h2 => ?_, fun i j k h1 h2 => ?_, fun i j hij => ?_⟩, OkL.of_zip hl (fun z hz => ?_)⟩
    · unfold rel at h1 h2
      rw [h1] at h2
      injection h2
    · have e1 := (hE.sym _ _).1 h1
      have e2 := (hE.sym _ _).1 h2
      rw [e1] at e2
      injection e2
    · obtain ⟨a, b, k1, k2, k3, k4, k5⟩ := hE.th i j hij
      exact ⟨a, b, k1, k2, k3, OkL.of_zip k4 (fun z hz => (k5 z hz).elim id (by simp))⟩
    · exact (hE.st z hz).elim id (by simp)
  · rintro ⟨R, hR, hx⟩
    exact complete hR n _ _ res ⟨by simp, by simp, hx.zip⟩ hr

/-- How many cells there are. -/
def tot (A : List (Int × List (Int × Int))) : Nat := wg (fun a => a.2.length) (fun _ => false) 0 A

theorem same_ends (A B : List (Int × List (Int × Int))) (x y : List (Int × Int)) (hl : x.length = y.length) (n : Nat) (hn : tot A + x.length < n) : ∃ res, run (stepS A B) n (fun _ _ => none, 0) (zipP x y) = some res := by
  refine run_ends (stepS A B) (fun s => wg (fun a => a.2.length) (fun i => (s.1 false i).isSome) 0 A) (fun _ => True) (fun s z s' more _ h => ⟨trivial, stepS_less A B s z s' more h⟩) n _ _ trivial ?_
  rw [zipP_length _ _ hl]
  exact hn

theorem OkV.symm {A B : List (Int × List (Int × Int))} {R : Int → Int → Prop} {p q : Int × Int} (h : OkV A B R p q) : OkV B A (fun i j => R j i) q p := by
  unfold OkV at h ⊢
  split at h <;> simp_all
theorem OkL.symm {A B : List (Int × List (Int × Int))} {R : Int → Int → Prop} : ∀ {x y : List (Int × Int)}, OkL A B R x y → OkL B A (fun i j => R j i) y x
  | [], [], _ => trivial
  | p :: x, q :: y, h => ⟨h.1.symm, OkL.symm h.2⟩
  | [], _ :: _, h => by cases h
  | _ :: _, [], h => by cases h
theorem Alike.symm {A B : List (Int × List (Int × Int))} {x y : List (Int × Int)} (h : Alike A x B y) : Alike B y A x := by
  obtain ⟨R, hR, hx⟩ := h
  refine ⟨fun i j => R j i, ⟨fun i j k h1 h2 => hR.uno _ _ _ h1 h2, fun i j k h1 h2 => hR.one _ _ _ h1 h2, fun i j hij => ?_⟩, hx.symm⟩
  obtain ⟨a, b, k1, k2, k3, k4⟩ := hR.alike _ _ hij
  exact ⟨b, a, k2, k1, k3.symm, k4.symm⟩
theorem OkV.refl (A : List (Int × List (Int × Int))) (p : Int × Int) : OkV A A (fun i j => i = j ∧ ∃ a, thingAt A (2, i) = some a) p p := by
  unfold OkV
  split
  · rfl
  · rename_i a b h1 h2
    exact ⟨rfl, a, by rw [← thing_two h1]; exact h1⟩
  · rename_i h1 h2
    cases h : thingAt A p with
    | none => exact h1 h h
    | some a => exact h2 a a h h
theorem OkL.refl (A : List (Int × List (Int × Int))) : ∀ x : List (Int × Int), OkL A A (fun i j => i = j ∧ ∃ a, thingAt A (2, i) = some a) x x
  | [] => trivial
  | p :: x => ⟨OkV.refl A p, OkL.refl A x⟩
theorem Alike.refl (A : List (Int × List (Int × Int))) (x : List (Int × Int)) : Alike A x A x :=
  ⟨fun i j => i = j ∧ ∃ a, thingAt A (2, i) = some a, ⟨fun i j k h1 h2 => h1.1.symm.trans h2.1, fun i j k h1 h2 => h1.1.trans h2.1.symm, fun i j h => by
    obtain ⟨rfl, a, ha⟩ := h
    exact ⟨a, a, ha, ha, rfl, OkL.refl A _⟩⟩, OkL.refl A x⟩
end Go.Proofs.YtefkcmeeagflmaaDoor
namespace Go.Proofs.YtefkcmeeagflmaaDoor
open Go.RowKit Go.Shelf
attribute [local go_sem] Oper.semAt_some

set_option maxRecDepth 100000 in
set_option maxHeartbeats 1000000 in
theorem allR {σ : Type} (step : σ → List Value → Option (σ × List (List Value))) (G : σ → World → Prop) (Out : World → Prop) (Rd : World → Prop) (rg : World → Nat → Prop) (l B bx : Nat) (hrg : ∀ sv L X Y g, rg X g → Stk 121 86 okT X B bx sv L → Fr (bx :: sv.ownBlock.toList) X Y → rg Y g) (cnt : σ → Nat) (most : Nat) (hcnt : ∀ s x s' more, step s x = some (s', more) → cnt s' = cnt s + 1)
    (hG : ∀ s sv L W W', G s W → Stk 121 86 okT W B bx sv L → Fr (bx :: sv.ownBlock.toList) W W' → G s W') (hRd : ∀ sv L W W', Rd W → Stk 121 86 okT W B bx sv L → Fr (bx :: sv.ownBlock.toList) W W' → Rd W')
    (hY : ∀ s x W sv L, G s W → Rd W → Stk 121 86 okT W B bx sv L → cnt s < most → L.length ≤ cnt s + 1 → (∀ t, t ∈ L → rg W t.g) → okT x → YieldAt Fence.wide 0 Tryd.prog l #[.agg x.toArray] W (RoundedR 121 86 okT B bx rg G Rd Out (pend L) L.length (step s x)))
    (W : World) (s0 : σ) (sv0 : Value) (L0 : List Seg) (h0 : G s0 W) (r0 : Rd W) (k0 : Stk 121 86 okT W B bx sv0 L0) (n0 : Nat) (res : Option σ) (hrun : run step n0 s0 (pend L0) = some res) (hc0 : n0 + cnt s0 ≤ most) (hl0 : L0.length ≤ cnt s0 + 1) (hr0 : ∀ t, t ∈ L0 → rg W t.g) :
    CallsIn Fence.wide 0 Tryd.prog 50 #[.func (.yield l) #[] #[], .pointer (some ⟨bx, 0, none⟩)] W fun e W' => (∃ v, e = .returned v) ∧ Ends G Rd Out res W' := by
  obtain ⟨mu, hmu⟩ := rounds (fun n W => ∃ s sv L, G s W ∧ Rd W ∧ Stk 121 86 okT W B bx sv L ∧ run step n s (pend L) = some res ∧ n + cnt s ≤ most ∧ L.length ≤ cnt s + 1 ∧ ∀ t, t ∈ L → rg W t.g)
  refine callsIn_of_wp Tryd.func50 rfl trivial ?_ rfl
  simp only [Tryd.ntmps50, List.size_toArray, List.length_cons, List.length_nil, Nat.reduceAdd, Nat.reduceSub, Array.replicate_succ, Array.replicate_zero, List.push_toArray, List.append_toArray, List.nil_append, List.cons_append]
  gi_wp2
  gi_loopw [3] (fun _ wr => ∃ n s sv L, G s wr ∧ Rd wr ∧ Stk 121 86 okT wr B bx sv L ∧ run step n s (pend L) = some res ∧ n + cnt s ≤ most ∧ L.length ≤ cnt s + 1 ∧ ∀ t, t ∈ L → rg wr t.g) (fun _ wr => mu wr)
  case atStart => exact ⟨n0, s0, sv0, L0, h0, r0, k0, hrun, hc0, hl0, hr0⟩
  case round =>
    obtain ⟨n, s1, sv1, L1, q1, q2, q3, q4, q5, q6, q7⟩ := hrel
    obtain ⟨⟨s, sv, L, hg, hr, hk, hrun2, hct, hlc, hreg⟩, _⟩ := hmu wr n ⟨s1, sv1, L1, q1, q2, q3, q4, q5, q6, q7⟩
    clear q5 q6 q7
    by_cases hn : L = []
    · subst hn
      obtain ⟨a, c, rfl, _⟩ := own_slice hk.row
      have cb : wr.cell? ⟨bx, 0, none⟩ = some (.slice a 0 c) := by have := hk.box; simp at this; simp [World.cell?, this]
      gi_wp2
      go_end0
      have : res = some s := by
        cases hm : mu wr with
        | zero => rw [hm] at hrun2; simp [run] at hrun2
        | succ m => rw [hm] at hrun2; simpa [run, pend] using hrun2.symm
      subst this
      exact ⟨⟨_, rfl⟩, hg, hr⟩
    · obtain ⟨L0, sg, x, r, g, cap, rfl, hx, rfl, h1, h2, hB, hx4⟩ := hk.parts hn
      obtain ⟨x0, x1, x2, x3, rfl, hwx⟩ := hx4
      have hlen : (L0 ++ [sg]).length = L0.length + 1 := by simp
      rw [hlen] at h1 hk
      have cb : wr.cell? ⟨bx, 0, none⟩ = some (.slice (some ⟨g, 0, none⟩) (L0.length + 1) cap) := by have := hk.box; simp [World.cell?, this]
      have fb : wr.frozen? ⟨bx, 0, none⟩ = false := by have := hk.box; simp [World.frozen?, this]
      have hrow := hk.row
      rw [hlen] at hrow
      have cr : wr.cell? ⟨g, L0.length, none⟩ = some sg.val := by
        rw [hrow.cellAt L0.length (by omega)]
        simp
      have fr : wr.frozen? ⟨g, L0.length, none⟩ = false := hrow.frozenAt L0.length
      have hl := hk.lies sg (by simp)
      rw [hx] at hl
      have e0 : wr.cell? ⟨sg.g, sg.o, none⟩ = some (.string x0) := hl 0 (.string x0) (by simp)
      have e1 := hl 1 (.bool x1) (by simp)
      have e2 := hl 2 (.int .i64 x2) (by simp)
      have e3 := hl 3 (.int .i64 x3) (by simp)
      unfold Seg.val at cr
      have hxl : sg.xs.length = r.length + 1 := by rw [hx]; simp
      rw [hxl] at cr
      have hcap : (cap : Int) ≤ 9223372036854775807 := by have : maxLen = 9223372036854775807 := rfl; omega
      have hll : (L0.length : Int) + 1 ≤ (cap : Int) := by omega
      have hsc : r.length + 1 ≤ sg.c := by have := (hk.full sg (by simp)).2.1; omega
      have hsc2 : ((r.length : Int) + 1) ≤ (sg.c : Int) := by omega
      have f1 : Fr [] wr (wr.alloc (.cells #[.string x0, .bool x1, .int .i64 x2, .int .i64 x3] 85)) := (Fr.refl _ _).alloc _
      have nb : (wr.alloc (.cells #[.string x0, .bool x1, .int .i64 x2, .int .i64 x3] 85)).heap[wr.heap.size]? = some (.cells #[.string x0, .bool x1, .int .i64 x2, .int .i64 x3] 85) := heap_alloc_new wr _
      gi_wp2
      generalize wr.alloc (.cells #[.string x0, .bool x1, .int .i64 x2, .int .i64 x3] 85) = w1 at *
      have k1 : wr.heap.size < w1.heap.size := (Array.getElem?_eq_some_iff.1 nb).1
      generalize wr.heap.size = kn at *
      have q1' := hk.frame f1
      have cb1 : w1.cell? ⟨bx, 0, none⟩ = some (.slice (some ⟨g, 0, none⟩) (L0.length + 1) cap) := f1.cell1 cb (by simp)
      have cr1 : w1.cell? ⟨g, L0.length, none⟩ = some (.slice (some ⟨sg.g, sg.o, none⟩) (r.length + 1) sg.c) := f1.cell1 cr (by simp)
      have hrow1 := q1'.row
      rw [hlen] at hrow1
      have fr1 : w1.frozen? ⟨g, L0.length, none⟩ = false := hrow1.frozenAt L0.length
      have g1 := hG s _ _ _ _ hg hk (f1.sub (by simp))
      have rd1 := hRd _ _ _ _ hr hk (f1.sub (by simp))
      have hreg1 : ∀ t, t ∈ L0 ++ [sg] → rg w1 t.g := fun t ht => hrg _ _ _ _ _ (hreg t ht) hk (f1.sub (by simp))
      have hpend : pend (L0 ++ [sg]) = [.string x0, .bool x1, .int .i64 x2, .int .i64 x3] :: (r ++ pend L0) := by rw [pend_snoc, hx]; rfl
      rw [hpend] at hrun2
      obtain ⟨m, hm⟩ : ∃ m, mu wr = m + 1 := by
        cases hmu' : mu wr with
        | zero => rw [hmu'] at hrun2; simp [run] at hrun2
        | succ m => exact ⟨m, rfl⟩
      have HM : Hid (mu wr = m + 1) := hm
      rw [hm] at hrun2 hct
      rw [hlen] at hlc
      have HC : Hid (m + 1 + cnt s ≤ most) := hct
      have HLC : Hid (L0.length + 1 ≤ cnt s + 1) := hlc
      clear hct hlc
      have hl1 : ∀ j u, r.flatten[j]? = some u → w1.cell? ⟨sg.g, sg.o + 4 + j, none⟩ = some u := fun j u hu => by
        have := q1'.lies sg (by simp) (4 + j) u (by rw [hx]; simpa [List.getElem?_append, Nat.add_comm] using hu)
        rwa [← Nat.add_assoc] at this
      have hkn0 : kn ≠ bx := fun e => by have a := q1'.box; rw [← e, nb] at a; simp at a
      have hkg : kn ≠ g := fun e => by
        have a := own_ne hrow1 nb (by decide)
        exact a (by rw [e]; rfl)
      clear cb cr fb fr e0 e1 e2 e3 hl hn hk hrow
      have hbg : bx ≠ g := fun e => q1'.ne (by decide) (by rw [e]; rfl)
      cases r with
      | nil =>
        simp only [List.length_nil, Nat.zero_add] at cr1 hsc hsc2
        have fbx1 : w1.frozen? ⟨bx, 0, none⟩ = false := by have := q1'.box; simp [World.frozen?, this]
        gi_region
        generalize (if sg.c = 1 then some (⟨sg.g, sg.o, none⟩ : Addr) else some ⟨sg.g, sg.o + 4, none⟩) = pp
        have S2 : Stk 121 86 okT ((w1.setCell ⟨g, L0.length, none⟩ (.slice pp 0 (sg.c - 1))).setCell ⟨bx, 0, none⟩ (.slice (some ⟨g, 0, none⟩) L0.length cap)).drew B bx (.slice (some ⟨g, 0, none⟩) L0.length cap) L0 := q1'.gone (by decide) _
        have F2 : Fr (bx :: (Value.slice (some ⟨g, 0, none⟩) (L0.length + 1) cap).ownBlock.toList) w1 ((w1.setCell ⟨g, L0.length, none⟩ (.slice pp 0 (sg.c - 1))).setCell ⟨bx, 0, none⟩ (.slice (some ⟨g, 0, none⟩) L0.length cap)).drew :=
          (Fr.setCell (Fr.setCell (Fr.refl _ _) (.inl (by simp [Value.ownBlock])) _) (.inl (by simp)) _).drew
        have g2 := hG s _ _ _ _ g1 q1' F2
        have rd2 := hRd _ _ _ _ rd1 q1' F2
        have nb2 := (F2.block kn k1 (by simp [Value.ownBlock]; exact ⟨hkn0, hkg⟩)).trans nb
        have cb2 : ((w1.setCell ⟨g, L0.length, none⟩ (.slice pp 0 (sg.c - 1))).drew).cell? ⟨bx, 0, none⟩ = some (.slice (some ⟨g, 0, none⟩) (L0.length + 1) cap) :=
          ((Fr.setCell (S := [g]) (Fr.refl _ w1) (.inl (by simp)) _).drew).cell1 cb1 (by simpa using hbg)
        have hY2 := hY s [.string x0, .bool x1, .int .i64 x2, .int .i64 x3] _ _ _ g2 rd2 S2 (by have := HC.out; omega) (by have := HLC.out; omega) (fun t ht => hrg _ _ _ _ _ (hreg1 t (by simp [ht])) q1' F2) ⟨_, _, _, _, rfl, hwx⟩
        have n0' : ((w1.setCell ⟨g, L0.length, none⟩ (.slice pp 0 (sg.c - 1))).setCell ⟨bx, 0, none⟩ (.slice (some ⟨g, 0, none⟩) L0.length cap)).drew.cell? ⟨kn, 0, none⟩ = some (.string x0) := by simp [World.cell?, nb2]
        have n1' : ((w1.setCell ⟨g, L0.length, none⟩ (.slice pp 0 (sg.c - 1))).setCell ⟨bx, 0, none⟩ (.slice (some ⟨g, 0, none⟩) L0.length cap)).drew.cell? ⟨kn, 1, none⟩ = some (.bool x1) := by simp [World.cell?, nb2]
        have n2' : ((w1.setCell ⟨g, L0.length, none⟩ (.slice pp 0 (sg.c - 1))).setCell ⟨bx, 0, none⟩ (.slice (some ⟨g, 0, none⟩) L0.length cap)).drew.cell? ⟨kn, 2, none⟩ = some (.int .i64 x2) := by simp [World.cell?, nb2]
        have n3' : ((w1.setCell ⟨g, L0.length, none⟩ (.slice pp 0 (sg.c - 1))).setCell ⟨bx, 0, none⟩ (.slice (some ⟨g, 0, none⟩) L0.length cap)).drew.cell? ⟨kn, 3, none⟩ = some (.int .i64 x3) := by simp [World.cell?, nb2]
        obtain ⟨fn, tmps, assign, body, hy, hR⟩ := hY2
        gi_wp2
        refine ⟨rfl, hR.mono ?_⟩
        rintro e W' h
        clear hR hy n0' n1' n2' n3' nb2 F2 S2 g2 rd2 cb2 q1' cb1 cr1 fr1 fbx1 g1 rd1 nb
        simp only [run] at hrun2
        cases hst : step s [.string x0, .bool x1, .int .i64 x2, .int .i64 x3] with
        | none =>
          rw [hst] at h hrun2
          obtain ⟨rfl, hO⟩ := h
          simp only [Option.some.injEq] at hrun2
          subst hrun2
          gi_wp2
          refine bodyPost_ret (results_none rfl _ _ _) rfl ?_
          exact ⟨⟨_, rfl⟩, hO⟩
        | some sm =>
          obtain ⟨s', more⟩ := sm
          rw [hst] at h hrun2
          obtain ⟨rfl, hG', hRd', sv', L', hS', hp', hl', hrg'⟩ := h
          simp only at hrun2
          have hct' := hcnt s _ s' more hst
          have hq : ∃ s sv L, G s W' ∧ Rd W' ∧ Stk 121 86 okT W' B bx sv L ∧ run step m s (pend L) = some res ∧ m + cnt s ≤ most ∧ L.length ≤ cnt s + 1 ∧ ∀ t, t ∈ L → rg W' t.g := ⟨s', sv', L', hG', hRd', hS', by rw [hp']; exact hrun2, by have := HC.out; omega, by have := HLC.out; first | omega | (simp at hl'; omega), hrg'⟩
          have hless := (hmu W' m hq).2
          gi_wp2
          go_roundw
          case rel => exact ⟨m, hq⟩
          case measure => have := HM.out; omega
      | cons y r' =>
        have hc1 : sg.c ≠ 1 := by simp at hsc; omega
        have hcc : ¬ (sg.c = 1) := hc1
        gi_region
        have S2 : Stk 121 86 okT (w1.setCell ⟨g, L0.length, none⟩ (.slice (some ⟨sg.g, sg.o + 4, none⟩) (r'.length + 1) (sg.c - 1))).drew B bx (.slice (some ⟨g, 0, none⟩) (L0.length + 1) cap) (L0 ++ [⟨sg.g, sg.o + 4, sg.c - 1, y :: r'⟩]) :=
          Stk.frame (q1'.less (s' := ⟨sg.g, sg.o + 4, sg.c - 1, y :: r'⟩) (by decide) hl1 ⟨by simp, by simp at hsc ⊢; omega, fun x hxm => (q1'.full sg (by simp)).2.2 x (by rw [hx]; simp at hxm ⊢; exact .inr hxm)⟩ rfl) (Fr.drew (Fr.refl _ _))
        have F2 : Fr (bx :: (Value.slice (some ⟨g, 0, none⟩) (L0.length + 1) cap).ownBlock.toList) w1 (w1.setCell ⟨g, L0.length, none⟩ (.slice (some ⟨sg.g, sg.o + 4, none⟩) (r'.length + 1) (sg.c - 1))).drew :=
          (Fr.setCell (Fr.refl _ _) (.inl (by simp [Value.ownBlock])) _).drew
        have g2 := hG s _ _ _ _ g1 q1' F2
        have rd2 := hRd _ _ _ _ rd1 q1' F2
        have nb2 := (F2.block kn k1 (by simp [Value.ownBlock]; exact ⟨hkn0, hkg⟩)).trans nb
        have cb2 : ((w1.setCell ⟨g, L0.length, none⟩ (.slice (some ⟨sg.g, sg.o + 4, none⟩) (r'.length + 1) (sg.c - 1))).drew).cell? ⟨bx, 0, none⟩ = some (.slice (some ⟨g, 0, none⟩) (L0.length + 1) cap) :=
          ((Fr.setCell (S := [g]) (Fr.refl _ w1) (.inl (by simp)) _).drew).cell1 cb1 (by simpa using hbg)
        have hY2 := hY s [.string x0, .bool x1, .int .i64 x2, .int .i64 x3] _ _ _ g2 rd2 S2 (by have := HC.out; omega) (by have := HLC.out; simp; omega) (fun t ht => by
          rcases List.mem_append.1 ht with h1 | h1
          · exact hrg _ _ _ _ _ (hreg1 t (by simp [h1])) q1' F2
          · simp at h1
            subst h1
            exact hrg _ _ _ _ _ (hreg1 sg (by simp)) q1' F2) ⟨_, _, _, _, rfl, hwx⟩
        have n0' : (w1.setCell ⟨g, L0.length, none⟩ (.slice (some ⟨sg.g, sg.o + 4, none⟩) (r'.length + 1) (sg.c - 1))).drew.cell? ⟨kn, 0, none⟩ = some (.string x0) := by simp [World.cell?, nb2]
        have n1' : (w1.setCell ⟨g, L0.length, none⟩ (.slice (some ⟨sg.g, sg.o + 4, none⟩) (r'.length + 1) (sg.c - 1))).drew.cell? ⟨kn, 1, none⟩ = some (.bool x1) := by simp [World.cell?, nb2]
        have n2' : (w1.setCell ⟨g, L0.length, none⟩ (.slice (some ⟨sg.g, sg.o + 4, none⟩) (r'.length + 1) (sg.c - 1))).drew.cell? ⟨kn, 2, none⟩ = some (.int .i64 x2) := by simp [World.cell?, nb2]
        have n3' : (w1.setCell ⟨g, L0.length, none⟩ (.slice (some ⟨sg.g, sg.o + 4, none⟩) (r'.length + 1) (sg.c - 1))).drew.cell? ⟨kn, 3, none⟩ = some (.int .i64 x3) := by simp [World.cell?, nb2]
        obtain ⟨fn, tmps, assign, body, hy, hR⟩ := hY2
        rw [pend_snoc] at hR
        have hln' : (((r'.length : Int) + 1) == 0) = false := by simp; omega
        gi_wp2
        refine ⟨rfl, hR.mono ?_⟩
        rintro e W' h
        clear hR hy n0' n1' n2' n3' nb2 F2 S2 g2 rd2 cb2 q1' cb1 cr1 fr1 g1 rd1 nb
        simp only [run] at hrun2
        cases hst : step s [.string x0, .bool x1, .int .i64 x2, .int .i64 x3] with
        | none =>
          rw [hst] at h hrun2
          obtain ⟨rfl, hO⟩ := h
          simp only [Option.some.injEq] at hrun2
          subst hrun2
          gi_wp2
          refine bodyPost_ret (results_none rfl _ _ _) rfl ?_
          exact ⟨⟨_, rfl⟩, hO⟩
        | some sm =>
          obtain ⟨s', more⟩ := sm
          rw [hst] at h hrun2
          obtain ⟨rfl, hG', hRd', sv', L', hS', hp', hl', hrg'⟩ := h
          simp only at hrun2
          have hct' := hcnt s _ s' more hst
          have hq : ∃ s sv L, G s W' ∧ Rd W' ∧ Stk 121 86 okT W' B bx sv L ∧ run step m s (pend L) = some res ∧ m + cnt s ≤ most ∧ L.length ≤ cnt s + 1 ∧ ∀ t, t ∈ L → rg W' t.g := ⟨s', sv', L', hG', hRd', hS', by rw [hp']; exact hrun2, by have := HC.out; omega, by have := HLC.out; first | omega | (simp at hl'; omega), hrg'⟩
          have hless := (hmu W' m hq).2
          gi_wp2
          go_roundw
          case rel => exact ⟨m, hq⟩
          case measure => have := HM.out; omega
end Go.Proofs.YtefkcmeeagflmaaDoor
