/-
  Acts that came in; on both caches they are answered alike: the walk; condition: the acts lie as told.
-/
import Derived.Test.YtnhjplfdfbbihaaCcN
namespace Go.Proofs.Ytnhjplfdfbbihaa
open Go.RowKit Go.Shelf Go.Maps Go.ChangeShapes Go.WideShapes Go.ChangeAt Go.Deep
set_option linter.unusedVariables false
set_option linter.unusedSimpArgs false
theorem cu23 : Try.prog.underlying 23 = some (.slice 37) := by kernel_rfl
theorem info37 : (Try.prog.info? 37).map (·.size) = some 21 := by kernel_rfl
def AcR (w : World) (a : Ac) : Prop := TrR w a.t ∧ W64 a.id ∧ W64 a.op ∧ W64 a.to
section
variable {H : Type} {enc : TypeId × Value → H} {w : World} {spare : Nat → Bool} {held : Bool} {fuel : Nat} {x : DataW H × List MemPlace}
set_option maxRecDepth 100000 in
theorem read_act {cs : List Value} (h : DataW.trod enc Try.prog w 0 spare held fuel 37 cs = some x) : ∃ a : Ac, cs = a.cl ∧ AcR w a ∧ costT a.t ≤ Rows.uptoBulk x.1 := by
  obtain ⟨xs, n, _, rfl, hl, hlen, hf⟩ := DataW.trod_struct Try.underlying37 h
  rw [cells37] at hl
  match cs, hl, xs, hlen with
  | [v0, v1, v2, v3, v4, v5, v6, v7, v8, v9, v10, v11, v12, v13, v14, v15, v16, v17, v18, v19, v20], _, [y0, y1, y2, y3, y4], _ =>
    have g0 := hf 0 _ rfl
    have g1 := hf 1 _ rfl
    have g2 := hf 2 _ rfl
    have g3 := hf 3 _ rfl
    have g4 := hf 4 _ rfl
    simp [cells3, cells35] at g0 g1 g2 g3 g4
    obtain ⟨d0, e0, _, _⟩ := DataW.trod_int Try.underlying3 g0
    obtain ⟨t, e1, ht, bt⟩ := read_trace g1
    obtain ⟨d2, e2, _, r2⟩ := DataW.trod_int Try.underlying3 g2
    obtain ⟨d3, e3, _, r3⟩ := DataW.trod_int Try.underlying3 g3
    obtain ⟨d4, e4, _, r4⟩ := DataW.trod_int Try.underlying3 g4
    simp at e0 e2 e3 e4
    subst e0 e2 e3 e4
    refine ⟨⟨d0, t, d2, d3, d4⟩, ?_, ⟨ht, r2, r3, r4⟩, ?_⟩
    · show _ = Value.int .i64 d0 :: (t.cl ++ [.int .i64 d2, .int .i64 d3, .int .i64 d4])
      rw [← e1]
      rfl
    · simp only [List.map, Rows.uptoBulk, Rows.uptoBulkAll]
      omega
theorem read_acts {v : Value} (h : DataW.trod enc Try.prog w 0 spare held fuel 23 [v] = some x) : ∃ (a : Option Addr) (cap : Nat) (L : List Ac), v = .slice a L.length cap ∧ (∀ t ∈ L, AcR w t) ∧ LiesAt w Ac.cl 21 a L ∧ (L.map (fun a => costT a.t)).sum + 1 ≤ Rows.uptoBulk x.1 :=
  read_listC (by omega) cu23 cells37 Ac.cl (AcR w) (fun a => costT a.t) (fun t _ => t.cl_len) read_act h
end
theorem Ac.arr_one (a : Ac) : a.arr.all (·.oneCell') = true := by
  rw [Array.all_eq_true_iff_forall_mem]
  intro u hu
  have hu' : u ∈ a.cl := by simpa [Ac.arr] using hu
  rcases List.mem_cons.1 hu' with rfl | h
  · rfl
  rcases List.mem_append.1 h with h | h
  · exact a.t.cl_one u h
  · simp at h
    rcases h with rfl | rfl | rfl <;> rfl
theorem AcR.ok {w : World} {a : Ac} (h : AcR w a) (hc : costT a.t ≤ 1048576) : AcO w w.heap.size a := ⟨h.1.ok hc, h.1.at, h.2.1, h.2.2.1, h.2.2.2⟩
theorem AcO.fr0 {w w' : World} {B : Nat} {a : Ac} (h : AcO w B a) (f : Fr [] w w') : AcO w' B a := ⟨h.tr.fr0 f, h.at_, h.id, h.op, h.to⟩
theorem AcO.low {w : World} {B B' : Nat} {a : Ac} (h : AcO w B a) (hB : B ≤ B') : AcO w B' a := ⟨h.tr.low hB, h.at_, h.id, h.op, h.to⟩
theorem costA_mem {L : List Ac} {t : Ac} (h : t ∈ L) : costT t.t ≤ (L.map (fun a => costT a.t)).sum := by
  induction L with
  | nil => cases h
  | cons x r ih =>
    simp only [List.map_cons, List.sum_cons]
    rcases List.mem_cons.1 h with rfl | h
    · omega
    · have := ih h; omega
theorem costA_len (L : List Ac) : L.length ≤ (L.map (fun a => costT a.t)).sum := by
  induction L with
  | nil => simp
  | cons x r ih => have : 1 ≤ costT x.t := by unfold costT; omega
                   simp only [List.map_cons, List.sum_cons, List.length_cons]; omega
theorem eguardN29 (w : World) (x y : Operand) (a b : Array Value) : (eqGuard .neq 29 x y (.agg a) (.agg b)).run Try.prog w = .ok () w := by
  have : Try.prog.eqGuardType Try.prog.depth 29 = false := by kernel_rfl
  simp [eqGuard, program, this, Sem.run_bind, Sem.run, Result.andThen]
set_option maxRecDepth 100000 in
set_option maxHeartbeats 16000000 in
theorem cacheActs_walk {W : World} (lim : Int) (pa : Option Addr) (pcap : Nat) (pk : List Int) (hps : SL W W.heap.size 3 pa pk.length pcap 1 8 (pk.map (Value.int .i64))) (hpw : ∀ x ∈ pk, W64 x) (a : Option Addr) (cap : Nat) (l : List Ac) (hll : l.length ≤ 1048576) (hl : LiesAt W Ac.cl 21 a l) (hr : ∀ t ∈ l, AcO W W.heap.size t) : Calls Try.prog 3 #[.int .i64 lim, .slice pa pk.length pcap, .slice a l.length cap] W fun e W' => e = .returned (.bool true) ∧ Fr [] W W' := by
  have CA0 := awake_any W
  have HL : Hid (LiesAt W Ac.cl 21 a l ∧ (∀ t ∈ l, AcO W W.heap.size t) ∧ l.length ≤ 1048576 ∧ SL W W.heap.size 3 pa pk.length pcap 1 8 (pk.map (Value.int .i64)) ∧ ∀ x ∈ pk, W64 x) := ⟨hl, hr, hll, hps, hpw⟩
  have HA0 : Hid (a = none → l.length = 0) := fun e => by
    cases l with
    | nil => rfl
    | cons t r => obtain ⟨b, o, e1, _⟩ := hl 0 t rfl; rw [e] at e1; cases e1
  have hllI : (l.length : Int) ≤ 1048576 := by omega
  clear hl hr hll hps hpw
  go_enter Try.func3, Try.ntmps3
  go_wp2_with (go_at_call 7; refine CA0.mono ?_; rintro e w2 ⟨rfl, f2⟩; have HF2 : Hid (Fr [] W w2) := f2; clear f2 CA0)
  go_loopw [7, 22] (fun m i wr => ∃ (m1 : Int) (p : Nat), p ≤ l.length ∧ m = .int .i64 m1 ∧ i = .int .i64 p ∧ Hid (Fr [] W wr)) (fun _ i _ => l.length - (intOf i).toNat)
  case atStart => exact ⟨_, 0, Nat.zero_le _, rfl, rfl, HF2⟩
  case round =>
    obtain ⟨m1, p, hp, rfl, rfl, F⟩ := hrel
    clear HF2
    by_cases hlt : p < l.length
    · have hpI : (p : Int) < l.length := by omega
      obtain ⟨q, hq⟩ : ∃ t, l[p]? = some t := ⟨_, List.getElem?_eq_getElem hlt⟩
      obtain ⟨b, o, rfl, hbl, hc⟩ := (HL.out.1.fr F.out) p q hq
      have RT : Hid (wr.rangeAt b (o + p * 21) q.cl) := hc
      have HA : Hid ((wr.alloc (.cells #[.int .i64 0, .int .i64 0, .int .i64 0, .int .i64 0, .int .i64 0, .int .i64 0, .int .i64 0, .int .i64 0, .int .i64 0, .int .i64 0, .int .i64 0, .int .i64 0, .int .i64 0, .slice none 0 0, .slice none 0 0, .slice none 0 0, .slice none 0 0, .slice none 0 0, .int .i64 0, .int .i64 0, .int .i64 0] 37)).heap[wr.heap.size]? = some (.cells #[.int .i64 0, .int .i64 0, .int .i64 0, .int .i64 0, .int .i64 0, .int .i64 0, .int .i64 0, .int .i64 0, .int .i64 0, .int .i64 0, .int .i64 0, .int .i64 0, .int .i64 0, .slice none 0 0, .slice none 0 0, .slice none 0 0, .slice none 0 0, .slice none 0 0, .int .i64 0, .int .i64 0, .int .i64 0] 37 (0, 0))) := heap_alloc_new wr _
      have HB : Hid (((wr.alloc (.cells #[.int .i64 0, .int .i64 0, .int .i64 0, .int .i64 0, .int .i64 0, .int .i64 0, .int .i64 0, .int .i64 0, .int .i64 0, .int .i64 0, .int .i64 0, .int .i64 0, .int .i64 0, .slice none 0 0, .slice none 0 0, .slice none 0 0, .slice none 0 0, .slice none 0 0, .int .i64 0, .int .i64 0, .int .i64 0] 37)).setRow wr.heap.size q.arr).heap[wr.heap.size]? = some (.cells q.arr 37 (0, 0))) := setRow_heap _ _ _ q.arr _ _ HA.out
      have HF : Hid (Fr [] W ((wr.alloc (.cells #[.int .i64 0, .int .i64 0, .int .i64 0, .int .i64 0, .int .i64 0, .int .i64 0, .int .i64 0, .int .i64 0, .int .i64 0, .int .i64 0, .int .i64 0, .int .i64 0, .int .i64 0, .slice none 0 0, .slice none 0 0, .slice none 0 0, .slice none 0 0, .slice none 0 0, .int .i64 0, .int .i64 0, .int .i64 0] 37)).setRow wr.heap.size q.arr)) := F.out.trans (((Fr.refl [] wr).alloc _).setRow (.inr (Nat.le_refl _)) _)
      have hto := (HL.out.2.1 q (List.mem_of_getElem? hq)).tr
      have CS := size_any (hto.fr0 HF.out)
      clear hbl hc hto hq F
      go_upto_region 7 with (first
        | refine wpList_load_mid rfl 37 (.tmp 24) rfl b (o + p * 21) rfl q.cl _ RT.out Try.underlying37 rfl (by rw [Ac.cl_len]; exact info37) ?_
        | refine wpList_store_row rfl 37 (.tmp 9) (.tmp 25) rfl wr.heap.size q.arr rfl rfl 37 _ HA.out (by rw [q.arr_size]; exact info37) (by rw [q.arr_size]; rfl) q.arr_one ?_)
      generalize (wr.alloc (.cells #[.int .i64 0, .int .i64 0, .int .i64 0, .int .i64 0, .int .i64 0, .int .i64 0, .int .i64 0, .int .i64 0, .int .i64 0, .int .i64 0, .int .i64 0, .int .i64 0, .int .i64 0, .slice none 0 0, .slice none 0 0, .slice none 0 0, .slice none 0 0, .slice none 0 0, .int .i64 0, .int .i64 0, .int .i64 0] 37)).setRow wr.heap.size q.arr = V at *
      generalize wr.heap.size = bx at *
      have RB : Hid (V.rangeAt bx 1 q.t.cl) := Ac.range HB.out
      clear HB HA
      go_wp2_with (first
        | refine wpList_load_mid rfl 35 (.tmp 27) rfl bx 1 rfl q.t.cl _ RB.out Try.underlying35 rfl (by rw [Tr.cl_len]; exact info35) ?_
        | (go_at_call 8; refine CS.mono ?_; rintro e w5 ⟨sz, rfl, f5⟩; have HF5 := hid (HF.out.trans f5); clear f5 HF CS))
      clear RT RB
      go_roundw
      case rel => exact ⟨_, p + 1, hlt, rfl, by go_num, HF5⟩
      case measure => simp [intOf]; omega
    · obtain rfl : p = l.length := by omega
      by_cases h2 : 3000 < m1
      · go_wp2
        go_ret
        exact ⟨rfl, F.out⟩
      · have CN := AwS.new (w := wr) lim ((HL.out.2.2.2.1.fr F.out (Away.nil _ _)).low F.out.size) HL.out.2.2.2.2
        go_upto_region 11 with fail
        go_wp2_with (first
          | (go_at_call 9; refine CN.mono ?_; rintro e w3 ⟨c, rfl, h3⟩; have CR := rnew_any h3.hi lim (((HL.out.2.2.2.1.fr F.out (Away.nil _ _)).low F.out.size).fr h3.fr (Away.nil _ _)); have H3 := hid h3; clear h3 CN)
          | (go_at_call 10; refine CR.mono ?_; rintro e w4 ⟨d, rfl, hr4, f4⟩; have H4 : Hid (AcI wr wr.heap.size c d w4 0 ⟨limP lim, pk, [], [], 0, 0⟩) := ⟨H3.out.fr0 f4, ⟨[], hr4⟩⟩; clear hr4 f4 CR H3))
        obtain ⟨w0, hw0⟩ : ∃ w0, w0 = wr := ⟨_, rfl⟩
        subst hw0
        go_loopw [45] (fun i wq => ∃ (p : Nat) (S : Bk), p ≤ l.length ∧ i = .int .i64 p ∧ Hid (AcI w0 w0.heap.size c d wq p S ∧ S.lim = limP lim)) (fun i _ => l.length - (intOf i).toNat)
        case atStart => exact ⟨0, _, Nat.zero_le _, rfl, H4.out, rfl⟩
        case round =>
          obtain ⟨p, S, hp, rfl, I⟩ := hrel
          clear H4
          by_cases hlt : p < l.length
          · have hpI : (p : Int) < l.length := by omega
            obtain ⟨q, hq⟩ : ∃ t, l[p]? = some t := ⟨_, List.getElem?_eq_getElem hlt⟩
            obtain ⟨b, o, rfl, hbl, hc⟩ := (HL.out.1.fr (F.out.trans I.out.1.aw.fr)) p q hq
            have RT : Hid (wr.rangeAt b (o + p * 21) q.cl) := hc
            have HA : Hid ((wr.alloc (.cells #[.int .i64 0, .int .i64 0, .int .i64 0, .int .i64 0, .int .i64 0, .int .i64 0, .int .i64 0, .int .i64 0, .int .i64 0, .int .i64 0, .int .i64 0, .int .i64 0, .int .i64 0, .slice none 0 0, .slice none 0 0, .slice none 0 0, .slice none 0 0, .slice none 0 0, .int .i64 0, .int .i64 0, .int .i64 0] 37)).heap[wr.heap.size]? = some (.cells #[.int .i64 0, .int .i64 0, .int .i64 0, .int .i64 0, .int .i64 0, .int .i64 0, .int .i64 0, .int .i64 0, .int .i64 0, .int .i64 0, .int .i64 0, .int .i64 0, .int .i64 0, .slice none 0 0, .slice none 0 0, .slice none 0 0, .slice none 0 0, .slice none 0 0, .int .i64 0, .int .i64 0, .int .i64 0] 37 (0, 0))) := heap_alloc_new wr _
            have HB : Hid (((wr.alloc (.cells #[.int .i64 0, .int .i64 0, .int .i64 0, .int .i64 0, .int .i64 0, .int .i64 0, .int .i64 0, .int .i64 0, .int .i64 0, .int .i64 0, .int .i64 0, .int .i64 0, .int .i64 0, .slice none 0 0, .slice none 0 0, .slice none 0 0, .slice none 0 0, .slice none 0 0, .int .i64 0, .int .i64 0, .int .i64 0] 37)).setRow wr.heap.size q.arr).heap[wr.heap.size]? = some (.cells q.arr 37 (0, 0))) := setRow_heap _ _ _ q.arr _ _ HA.out
            have FB : Fr [] wr ((wr.alloc (.cells #[.int .i64 0, .int .i64 0, .int .i64 0, .int .i64 0, .int .i64 0, .int .i64 0, .int .i64 0, .int .i64 0, .int .i64 0, .int .i64 0, .int .i64 0, .int .i64 0, .int .i64 0, .slice none 0 0, .slice none 0 0, .slice none 0 0, .slice none 0 0, .slice none 0 0, .int .i64 0, .int .i64 0, .int .i64 0] 37)).setRow wr.heap.size q.arr) := ((Fr.refl [] wr).alloc _).setRow (.inr (Nat.le_refl _)) _
            have I1 : Hid (AcI w0 w0.heap.size c d ((wr.alloc (.cells #[.int .i64 0, .int .i64 0, .int .i64 0, .int .i64 0, .int .i64 0, .int .i64 0, .int .i64 0, .int .i64 0, .int .i64 0, .int .i64 0, .int .i64 0, .int .i64 0, .int .i64 0, .slice none 0 0, .slice none 0 0, .slice none 0 0, .slice none 0 0, .slice none 0 0, .int .i64 0, .int .i64 0, .int .i64 0] 37)).setRow wr.heap.size q.arr) p S ∧ S.lim = limP lim) := ⟨I.out.1.fr0 FB, I.out.2⟩
            have HO : Hid (AcO ((wr.alloc (.cells #[.int .i64 0, .int .i64 0, .int .i64 0, .int .i64 0, .int .i64 0, .int .i64 0, .int .i64 0, .int .i64 0, .int .i64 0, .int .i64 0, .int .i64 0, .int .i64 0, .int .i64 0, .slice none 0 0, .slice none 0 0, .slice none 0 0, .slice none 0 0, .slice none 0 0, .int .i64 0, .int .i64 0, .int .i64 0] 37)).setRow wr.heap.size q.arr) w0.heap.size q) := ((((HL.out.2.1 q (List.mem_of_getElem? hq)).fr0 F.out).low F.out.size).fr0 I.out.1.aw.fr).fr0 FB
            clear hbl hc hq FB I
            go_upto_region 17 with (first
              | refine wpList_load_mid rfl 37 (.tmp 47) rfl b (o + p * 21) rfl q.cl _ RT.out Try.underlying37 rfl (by rw [Ac.cl_len]; exact info37) ?_
              | refine wpList_store_row rfl 37 (.tmp 13) (.tmp 48) rfl wr.heap.size q.arr rfl rfl 37 _ HA.out (by rw [q.arr_size]; exact info37) (by rw [q.arr_size]; rfl) q.arr_one ?_)
            clear HA RT
            generalize (wr.alloc (.cells #[.int .i64 0, .int .i64 0, .int .i64 0, .int .i64 0, .int .i64 0, .int .i64 0, .int .i64 0, .int .i64 0, .int .i64 0, .int .i64 0, .int .i64 0, .int .i64 0, .int .i64 0, .slice none 0 0, .slice none 0 0, .slice none 0 0, .slice none 0 0, .slice none 0 0, .int .i64 0, .int .i64 0, .int .i64 0] 37)).setRow wr.heap.size q.arr = V at *
            generalize wr.heap.size = bx at *
            have hF : Fr [] V V.drew := (Fr.refl _ _).drew
            have HB2 : Hid (V.drew.heap[bx]? = some (.cells q.arr 37 (0, 0))) := (hF.block _ (Array.getElem?_eq_some_iff.1 HB.out).1 (by simp)).trans HB.out
            have I2 : Hid (AcI w0 w0.heap.size c d V.drew p S ∧ S.lim = limP lim) := ⟨I1.out.1.fr0 hF, I1.out.2⟩
            have HO2 : Hid (AcO V.drew w0.heap.size q) := HO.out.fr0 hF
            clear hF HB I1 HO
            refine reg_in (fun w' => True) ?_
            have hS : True := trivial
            generalize V.drew = Y at *
            have CA := act_any I2.out.1 (by have := HL.out.2.2.1; omega) HO2.out
            refine tk 0 (some 49) (.pointer (some ⟨c, 0, none⟩)) rfl rfl (Or.inl ⟨rfl, fun wq hSq => by first | rfl | go_simp⟩) (by decide +kernel) hS ?_
            simp only [Act.put, List.setIfInBounds_toArray, List.set_cons_zero, List.set_cons_succ]
            refine tk 1 (some 50) (.pointer (some ⟨d, 0, none⟩)) rfl rfl (Or.inl ⟨rfl, fun wq hSq => by first | rfl | go_simp⟩) (by decide +kernel) hS ?_
            simp only [Act.put, List.setIfInBounds_toArray, List.set_cons_zero, List.set_cons_succ]
            refine wpAnyH_ready (rs := [2]) (by decide +kernel) (by simp) ?_
            refine AllReadyH.cons rfl (fun K hK => ?_) AllReadyH.nil
            refine wp_load_row 37 (.tmp 13) rfl bx rfl 37 q.arr (0, 0) _ HB2.out Try.underlying37 rfl (by rw [q.arr_size]; exact info37) ?_
            refine hK.out _ _ hS (fun _ => ?_)
            clear HB2
            clear hK K
            try simp only [List.getElem_toArray, List.getElem_cons_succ, List.getElem_cons_zero, Act.put, List.setIfInBounds_toArray, List.set_cons_zero, List.set_cons_succ]
            refine wpAnyH_ready (rs := [3]) (by decide +kernel) (by simp) ?_
            refine AllReadyH.cons rfl (fun K hK => ?_) AllReadyH.nil
            go_simp
            refine CA.mono ?_
            rintro e Y2 ⟨rfl, S', h2, hl2⟩
            have HC : Hid (AcI w0 w0.heap.size c d Y2 (p + 1) S' ∧ S'.lim = limP lim) := ⟨h2, hl2.trans I2.out.2⟩
            have CM := h2.aw.most
            clear h2 hl2 CA I2 HO2
            refine hK.out _ _ hS (fun _ => ?_)
            clear hK K
            try simp only [List.getElem_toArray, List.getElem_cons_succ, List.getElem_cons_zero, Act.put, List.setIfInBounds_toArray, List.set_cons_zero, List.set_cons_succ]
            refine tk 4 (some 53) (.bool false) rfl rfl (Or.inl ⟨rfl, fun wq hSq => by go_simp⟩) (by decide +kernel) hS ?_
            simp only [Act.put, List.setIfInBounds_toArray, List.set_cons_zero, List.set_cons_succ]
            refine tk 5 (some 54) (.bool false) rfl rfl (Or.inl ⟨rfl, fun wq hSq => by first | rfl | go_simp⟩) (by decide +kernel) hS ?_
            simp only [Act.put, List.setIfInBounds_toArray, List.set_cons_zero, List.set_cons_succ]
            refine tk 6 (some 55) (.pointer (some ⟨c, 0, none⟩)) rfl rfl (Or.inl ⟨rfl, fun wq hSq => by first | rfl | go_simp⟩) (by decide +kernel) hS ?_
            simp only [Act.put, List.setIfInBounds_toArray, List.set_cons_zero, List.set_cons_succ]
            refine tk 8 (some 57) (.pointer (some ⟨d, 0, none⟩)) rfl rfl (Or.inl ⟨rfl, fun wq hSq => by first | rfl | go_simp⟩) (by decide +kernel) hS ?_
            simp only [Act.put, List.setIfInBounds_toArray, List.set_cons_zero, List.set_cons_succ]
            refine tk 9 (some 58) (.pointer (some ⟨d, 0, none⟩)) rfl rfl (Or.inl ⟨rfl, fun wq hSq => by first | rfl | go_simp⟩) (by decide +kernel) hS ?_
            simp only [Act.put, List.setIfInBounds_toArray, List.set_cons_zero, List.set_cons_succ]
            refine tk 10 (some 59) (.pointer (some ⟨d, 6, none⟩)) rfl rfl (Or.inl ⟨rfl, fun wq hSq => by first | rfl | go_simp⟩) (by decide +kernel) hS ?_
            simp only [Act.put, List.setIfInBounds_toArray, List.set_cons_zero, List.set_cons_succ]
            refine wpAnyH_ready (rs := [7, 11]) (by decide +kernel) (by simp) ?_
            refine AllReadyH.cons rfl (fun K hK => ?_) ?_
            · skip
              rw [if_pos (by rfl)]
              go_simp
              refine CM.mono ?_
              rintro e Y3 ⟨rfl, f3⟩
              have HC3 : Hid (AcI w0 w0.heap.size c d Y3 (p + 1) S' ∧ S'.lim = limP lim) := ⟨HC.out.1.fr0 f3, HC.out.2⟩
              clear f3 CM HC
              have HC := HC3
              clear HC3
              refine hK.out _ _ hS (fun _ => ?_)
              clear hK K
              try simp only [List.getElem_toArray, List.getElem_cons_succ, List.getElem_cons_zero, Act.put, List.setIfInBounds_toArray, List.set_cons_zero, List.set_cons_succ]
              refine wpAnyH_ready (rs := [11]) (by decide +kernel) (by simp) ?_
              refine AllReadyH.cons rfl (fun K hK => ?_) AllReadyH.nil
              rw [if_pos (by rfl)]
              obtain ⟨rs', hra⟩ := HC.out.1.ra
              obtain ⟨_, _, _, _, _, _, hpp, _⟩ := hra.ex
              have qq := at_cells hpp.blk 6 rfl
              go_simp
              clear qq hpp hra
              refine hK.out _ _ hS (fun _ => ?_)
              clear hK K
              try simp only [List.getElem_toArray, List.getElem_cons_succ, List.getElem_cons_zero, Act.put, List.setIfInBounds_toArray, List.set_cons_zero, List.set_cons_succ]
              refine tk 12 (some 61) (.bool false) rfl rfl (Or.inl ⟨rfl, fun wq hSq => by go_simp⟩) (by decide +kernel) hS ?_
              simp only [Act.put, List.setIfInBounds_toArray, List.set_cons_zero, List.set_cons_succ]
              refine tk 13 (some 62) (.bool false) rfl rfl (Or.inl ⟨rfl, fun wq hSq => by go_simp⟩) (by decide +kernel) hS ?_
              simp only [Act.put, List.setIfInBounds_toArray, List.set_cons_zero, List.set_cons_succ]
              refine wpAnyH_done (by decide +kernel) ?_ _
              refine plain_end ?_
              clear hS
              have CK := HC.out.1.aw.keys
              obtain ⟨rs, hra⟩ := HC.out.1.ra
              have hN2 : rs.length = S'.rows.length := rs_len2 hra.abs
              have hkr : rs.map (fun r => r.2.k) = S'.rows.map (fun r => r.2.k) := by rw [← hra.abs, List.map_map]; rfl
              obtain ⟨rv, nv, pa', pcap', pf, used, hpp, _, _⟩ := hra.ex
              obtain ⟨ra, rcap, rfl, hrn⟩ := own_slice hpp.rows
              have kd0 := at_cells hpp.blk 0 rfl
              have hkw := keys_kw HC.out.1.aw.ok
              obtain ⟨M, hM⟩ : ∃ M, max lim 0 = M := ⟨_, rfl⟩
              have hNM : (S'.rows.length : Int) ≤ M := by have h1 := HC.out.1.aw.ok.len; rw [HC.out.2] at h1; unfold limP at h1; omega
              have hN1 : S'.rows.length ≤ 1000 := by have h1 := HC.out.1.aw.ok.len; have h2 := HC.out.1.aw.ok.lim; omega
              have hR := hpp.rows
              have HKL : Hid (∀ (i : Nat) (x : Ky), (S'.rows.map (fun r => r.2.k))[i]? = some x → kw x ∧ ∃ y, rs[i]? = some y ∧ y.2.k = x) := fun i x hx => ⟨hkw x (List.mem_of_getElem? hx), by rw [← hkr, List.getElem?_map] at hx; cases e : rs[i]? with | none => rw [e] at hx; cases hx | some y => rw [e] at hx; exact ⟨y, rfl, Option.some.inj hx⟩⟩
              have hKN : (S'.rows.map (fun r => r.2.k)).length = S'.rows.length := List.length_map _
              clear hpp hra hkw hkr
              generalize S'.rows.map (fun r => r.2.k) = KL at *
              rw [hN2] at kd0
              rw [show S'.rows.length = KL.length from hKN.symm] at CK kd0 hNM hN1 hN2
              have HR : Hid (rs.length = KL.length) := hN2
              clear hKN hN2
              have HRR := hid hR
              clear hR
              have HN1 : Hid (KL.length ≤ 1000) := hN1
              have hN1I : (KL.length : Int) ≤ 1000 := by omega
              clear hN1
              go_wp2_with (go_at_call 13; refine CK.mono ?_; rintro e Y4 ⟨ka, kcap, rfl, ho4, f4⟩; have HO4 : Hid (Y4.ownsRow Y3.heap.size 29 10 (.slice ka KL.length kcap) KL.length (flatKy KL)) := ho4; have kd1 := f4.cell1 kd0 (by simp); have HC4 : Hid ((AcI w0 w0.heap.size c d Y4 (p + 1) S' ∧ S'.lim = limP lim) ∧ Y4.ownsRow w0.heap.size 52 18 (.slice ra rs.length rcap) rs.length (flatR rs)) := ⟨⟨HC.out.1.fr0 f4, HC.out.2⟩, own_fr HRR.out f4 (by simp)⟩; clear ho4 f4 CK kd0 HC HRR)
              go_loopw [82] (fun i wz => ∃ r : Nat, r ≤ KL.length ∧ i = .int .i64 r ∧ Hid (Fr [] Y4 wz)) (fun i _ => KL.length - (intOf i).toNat)
              case atStart => exact ⟨0, Nat.zero_le _, rfl, Fr.refl _ _⟩
              case round =>
                obtain ⟨r, hr, rfl, G⟩ := hrel
                by_cases hrt : r < KL.length
                · have hrI : (r : Int) < KL.length := by omega
                  obtain ⟨x, hx⟩ : ∃ x, KL[r]? = some x := ⟨_, List.getElem?_eq_getElem hrt⟩
                  obtain ⟨hkx, y, hy, hyx⟩ := HKL.out r x hx
                  obtain ⟨g, rfl⟩ : ∃ g, ka = some ⟨g, 0, none⟩ := by
                    obtain ⟨g, c', e1, _⟩ := own_cells HO4.out (j := r * 10) (List.getElem?_eq_getElem (by rw [flatKy_len]; omega))
                    cases e1; exact ⟨g, rfl⟩
                  obtain ⟨g2, rfl⟩ : ∃ g, ra = some ⟨g, 0, none⟩ := by
                    obtain ⟨g, c', e1, _⟩ := own_cells HC4.out.2 (j := r * 18) (List.getElem?_eq_getElem (by rw [flatR_len]; have := HR.out; omega))
                    cases e1; exact ⟨g, rfl⟩
                  have hcap : (r : Int) ≤ kcap := by
                    rcases HO4.out.2 with ⟨e1, _⟩ | ⟨g', cp, cur, e1, _, _, h3, _⟩
                    · cases e1
                    · cases e1; omega
                  have hcap2 : (r : Int) ≤ rcap := by
                    rcases HC4.out.2.2 with ⟨e1, _⟩ | ⟨g', cp, cur, e1, _, _, h3, _⟩
                    · cases e1
                    · cases e1; have := HR.out; omega
                  have RX : Hid (∀ w', Fr [] wr w' → w'.rangeAt g (r * 10) (kc x).toList) := fun w' f => rowK_at (own_fr HO4.out (G.out.trans f) (by simp)) hx
                  have RY : Hid (∀ w', Fr [] wr w' → w'.rangeAt g2 (r * 18 + 1) (kc x).toList) := fun w' f j v hv => by
                    have h1 := tr_rangeR (rowR_at (own_fr HC4.out.2 (G.out.trans f) (by simp)) hy)
                    refine h1 j v ?_
                    rw [← hyx] at hv
                    have hj : j < 10 := by have := (List.getElem?_eq_some_iff.1 hv).1; rw [kcl_len] at this; exact this
                    rw [Tr.cl, List.getElem?_append_left (by simp [kl0_len]; exact hj)]
                    simpa [kc] using hv
                  have kd2 := G.out.cell1 kd1 (by simp)
                  have RV : Hid (∀ w', Fr [] wr w' → w'.cell? ⟨d, 0, none⟩ = some (.slice (some ⟨g2, 0, none⟩) KL.length rcap)) := fun w' f => f.cell1 kd2 (by simp)
                  have HK : Hid (kw x) := hkx
                  clear hkx hy hyx hx kd2
                  go_upto_region 25 with fail
                  refine reg_in (fun w' => Fr [] wr w') ?_
                  have hS : Fr [] wr wr.drew := (Fr.refl _ _).drew
                  generalize wr.drew = Z at *
                  refine tk 0 (some 85) (.slice (some ⟨g, 0, none⟩) KL.length kcap) rfl rfl (Or.inl ⟨rfl, fun wq hSq => by first | rfl | go_simp⟩) (by decide +kernel) hS ?_
                  simp only [Act.put, List.setIfInBounds_toArray, List.set_cons_zero, List.set_cons_succ]
                  refine tk 1 (some 86) (.int .i64 r) rfl rfl (Or.inl ⟨rfl, fun wq hSq => by first | rfl | go_simp⟩) (by decide +kernel) hS ?_
                  simp only [Act.put, List.setIfInBounds_toArray, List.set_cons_zero, List.set_cons_succ]
                  refine tk 2 (some 87) (.pointer (some ⟨g, r * 10, none⟩)) rfl rfl (Or.inl ⟨rfl, fun wq hSq => by go_simp⟩) (by decide +kernel) hS ?_
                  simp only [Act.put, List.setIfInBounds_toArray, List.set_cons_zero, List.set_cons_succ]
                  refine tk 3 (some 88) (.agg (kc x)) rfl rfl ?_ (by decide +kernel) hS ?_
                  · exact yieldsIf_load_mid rfl 29 (.tmp 87) rfl g (r * 10) rfl (kc x).toList _ (fun wq hSq => RX.out wq hSq) Try.underlying29 rfl (by rw [info29]; simp [kc_size])
                  simp only [Act.put, List.setIfInBounds_toArray, List.set_cons_zero, List.set_cons_succ]
                  refine tk 4 (some 89) (.pointer (some ⟨d, 0, none⟩)) rfl rfl (Or.inl ⟨rfl, fun wq hSq => by first | rfl | go_simp⟩) (by decide +kernel) hS ?_
                  simp only [Act.put, List.setIfInBounds_toArray, List.set_cons_zero, List.set_cons_succ]
                  refine tk 5 (some 90) (.pointer (some ⟨d, 0, none⟩)) rfl rfl (Or.inl ⟨rfl, fun wq hSq => by first | rfl | go_simp⟩) (by decide +kernel) hS ?_
                  simp only [Act.put, List.setIfInBounds_toArray, List.set_cons_zero, List.set_cons_succ]
                  refine tk 6 (some 91) (.pointer (some ⟨d, 0, none⟩)) rfl rfl (Or.inl ⟨rfl, fun wq hSq => by first | rfl | go_simp⟩) (by decide +kernel) hS ?_
                  simp only [Act.put, List.setIfInBounds_toArray, List.set_cons_zero, List.set_cons_succ]
                  refine tk 7 (some 92) (.slice (some ⟨g2, 0, none⟩) KL.length rcap) rfl rfl (Or.inl ⟨rfl, fun wq hSq => by have q := RV.out wq hSq; go_simp⟩) (by decide +kernel) hS ?_
                  simp only [Act.put, List.setIfInBounds_toArray, List.set_cons_zero, List.set_cons_succ]
                  refine tk 8 (some 93) (.int .i64 r) rfl rfl (Or.inl ⟨rfl, fun wq hSq => by first | rfl | go_simp⟩) (by decide +kernel) hS ?_
                  simp only [Act.put, List.setIfInBounds_toArray, List.set_cons_zero, List.set_cons_succ]
                  refine tk 9 (some 94) (.pointer (some ⟨g2, r * 18, none⟩)) rfl rfl (Or.inl ⟨rfl, fun wq hSq => by go_simp⟩) (by decide +kernel) hS ?_
                  simp only [Act.put, List.setIfInBounds_toArray, List.set_cons_zero, List.set_cons_succ]
                  refine tk 10 (some 95) (.pointer (some ⟨g2, r * 18 + 1, none⟩)) rfl rfl (Or.inl ⟨rfl, fun wq hSq => by first | rfl | go_simp⟩) (by decide +kernel) hS ?_
                  simp only [Act.put, List.setIfInBounds_toArray, List.set_cons_zero, List.set_cons_succ]
                  refine tk 11 (some 96) (.pointer (some ⟨g2, r * 18 + 1, none⟩)) rfl rfl (Or.inl ⟨rfl, fun wq hSq => by first | rfl | go_simp⟩) (by decide +kernel) hS ?_
                  simp only [Act.put, List.setIfInBounds_toArray, List.set_cons_zero, List.set_cons_succ]
                  refine tk 12 (some 97) (.agg (kc x)) rfl rfl ?_ (by decide +kernel) hS ?_
                  · exact yieldsIf_load_mid rfl 29 (.tmp 96) rfl g2 (r * 18 + 1) rfl (kc x).toList _ (fun wq hSq => RY.out wq hSq) Try.underlying29 rfl (by rw [info29]; simp [kc_size])
                  simp only [Act.put, List.setIfInBounds_toArray, List.set_cons_zero, List.set_cons_succ]
                  refine tk 13 (some 98) (.bool false) rfl rfl ?_ (by decide +kernel) hS ?_
                  · exact yieldsIf_bin rfl .neq 29 (.tmp 88) (.tmp 97) rfl _ _ rfl rfl (fun w _ => eguardN29 w _ _ _ _) (fun w _ => (neq29 w HK.out HK.out).trans (by simp))
                  simp only [Act.put, List.setIfInBounds_toArray, List.set_cons_zero, List.set_cons_succ]
                  refine wpAnyH_done (by decide +kernel) ?_ _
                  refine plain_end ?_
                  have HG : Hid (Fr [] Y4 Z) := G.out.trans hS
                  clear hS RX RY RV HK
                  go_wp2
                  go_roundw
                  case rel => exact ⟨r + 1, hrt, by go_num, HG⟩
                  case measure => simp [intOf]; omega
                · obtain rfl : r = KL.length := by omega
                  have HF : Hid (AcI w0 w0.heap.size c d wr (p + 1) S' ∧ S'.lim = limP lim) := ⟨HC4.out.1.1.fr0 G.out, HC4.out.1.2⟩
                  clear HC4 HO4 HKL G
                  go_wp2
                  go_roundw
                  case rel => exact ⟨p + 1, S', hlt, by go_num, HF⟩
                  case measure => simp [intOf]; omega
            refine AllReadyH.cons rfl (fun K hK => ?_) AllReadyH.nil
            rw [if_pos (by rfl)]
            obtain ⟨rs', hra⟩ := HC.out.1.ra
            obtain ⟨_, _, _, _, _, _, hpp, _⟩ := hra.ex
            have qq := at_cells hpp.blk 6 rfl
            go_simp
            clear qq hpp hra
            refine hK.out _ _ hS (fun _ => ?_)
            clear hK K
            try simp only [List.getElem_toArray, List.getElem_cons_succ, List.getElem_cons_zero, Act.put, List.setIfInBounds_toArray, List.set_cons_zero, List.set_cons_succ]
            refine wpAnyH_ready (rs := [7]) (by decide +kernel) (by simp) ?_
            refine AllReadyH.cons rfl (fun K hK => ?_) AllReadyH.nil
            rw [if_pos (by rfl)]
            go_simp
            refine CM.mono ?_
            rintro e Y3 ⟨rfl, f3⟩
            have HC3 : Hid (AcI w0 w0.heap.size c d Y3 (p + 1) S' ∧ S'.lim = limP lim) := ⟨HC.out.1.fr0 f3, HC.out.2⟩
            clear f3 CM HC
            have HC := HC3
            clear HC3
            refine hK.out _ _ hS (fun _ => ?_)
            clear hK K
            try simp only [List.getElem_toArray, List.getElem_cons_succ, List.getElem_cons_zero, Act.put, List.setIfInBounds_toArray, List.set_cons_zero, List.set_cons_succ]
            refine tk 12 (some 61) (.bool false) rfl rfl (Or.inl ⟨rfl, fun wq hSq => by go_simp⟩) (by decide +kernel) hS ?_
            simp only [Act.put, List.setIfInBounds_toArray, List.set_cons_zero, List.set_cons_succ]
            refine tk 13 (some 62) (.bool false) rfl rfl (Or.inl ⟨rfl, fun wq hSq => by go_simp⟩) (by decide +kernel) hS ?_
            simp only [Act.put, List.setIfInBounds_toArray, List.set_cons_zero, List.set_cons_succ]
            refine wpAnyH_done (by decide +kernel) ?_ _
            refine plain_end ?_
            clear hS
            have CK := HC.out.1.aw.keys
            obtain ⟨rs, hra⟩ := HC.out.1.ra
            have hN2 : rs.length = S'.rows.length := rs_len2 hra.abs
            have hkr : rs.map (fun r => r.2.k) = S'.rows.map (fun r => r.2.k) := by rw [← hra.abs, List.map_map]; rfl
            obtain ⟨rv, nv, pa', pcap', pf, used, hpp, _, _⟩ := hra.ex
            obtain ⟨ra, rcap, rfl, hrn⟩ := own_slice hpp.rows
            have kd0 := at_cells hpp.blk 0 rfl
            have hkw := keys_kw HC.out.1.aw.ok
            obtain ⟨M, hM⟩ : ∃ M, max lim 0 = M := ⟨_, rfl⟩
            have hNM : (S'.rows.length : Int) ≤ M := by have h1 := HC.out.1.aw.ok.len; rw [HC.out.2] at h1; unfold limP at h1; omega
            have hN1 : S'.rows.length ≤ 1000 := by have h1 := HC.out.1.aw.ok.len; have h2 := HC.out.1.aw.ok.lim; omega
            have hR := hpp.rows
            have HKL : Hid (∀ (i : Nat) (x : Ky), (S'.rows.map (fun r => r.2.k))[i]? = some x → kw x ∧ ∃ y, rs[i]? = some y ∧ y.2.k = x) := fun i x hx => ⟨hkw x (List.mem_of_getElem? hx), by rw [← hkr, List.getElem?_map] at hx; cases e : rs[i]? with | none => rw [e] at hx; cases hx | some y => rw [e] at hx; exact ⟨y, rfl, Option.some.inj hx⟩⟩
            have hKN : (S'.rows.map (fun r => r.2.k)).length = S'.rows.length := List.length_map _
            clear hpp hra hkw hkr
            generalize S'.rows.map (fun r => r.2.k) = KL at *
            rw [hN2] at kd0
            rw [show S'.rows.length = KL.length from hKN.symm] at CK kd0 hNM hN1 hN2
            have HR : Hid (rs.length = KL.length) := hN2
            clear hKN hN2
            have HRR := hid hR
            clear hR
            have HN1 : Hid (KL.length ≤ 1000) := hN1
            have hN1I : (KL.length : Int) ≤ 1000 := by omega
            clear hN1
            go_wp2_with (go_at_call 13; refine CK.mono ?_; rintro e Y4 ⟨ka, kcap, rfl, ho4, f4⟩; have HO4 : Hid (Y4.ownsRow Y3.heap.size 29 10 (.slice ka KL.length kcap) KL.length (flatKy KL)) := ho4; have kd1 := f4.cell1 kd0 (by simp); have HC4 : Hid ((AcI w0 w0.heap.size c d Y4 (p + 1) S' ∧ S'.lim = limP lim) ∧ Y4.ownsRow w0.heap.size 52 18 (.slice ra rs.length rcap) rs.length (flatR rs)) := ⟨⟨HC.out.1.fr0 f4, HC.out.2⟩, own_fr HRR.out f4 (by simp)⟩; clear ho4 f4 CK kd0 HC HRR)
            go_loopw [82] (fun i wz => ∃ r : Nat, r ≤ KL.length ∧ i = .int .i64 r ∧ Hid (Fr [] Y4 wz)) (fun i _ => KL.length - (intOf i).toNat)
            case atStart => exact ⟨0, Nat.zero_le _, rfl, Fr.refl _ _⟩
            case round =>
              obtain ⟨r, hr, rfl, G⟩ := hrel
              by_cases hrt : r < KL.length
              · have hrI : (r : Int) < KL.length := by omega
                obtain ⟨x, hx⟩ : ∃ x, KL[r]? = some x := ⟨_, List.getElem?_eq_getElem hrt⟩
                obtain ⟨hkx, y, hy, hyx⟩ := HKL.out r x hx
                obtain ⟨g, rfl⟩ : ∃ g, ka = some ⟨g, 0, none⟩ := by
                  obtain ⟨g, c', e1, _⟩ := own_cells HO4.out (j := r * 10) (List.getElem?_eq_getElem (by rw [flatKy_len]; omega))
                  cases e1; exact ⟨g, rfl⟩
                obtain ⟨g2, rfl⟩ : ∃ g, ra = some ⟨g, 0, none⟩ := by
                  obtain ⟨g, c', e1, _⟩ := own_cells HC4.out.2 (j := r * 18) (List.getElem?_eq_getElem (by rw [flatR_len]; have := HR.out; omega))
                  cases e1; exact ⟨g, rfl⟩
                have hcap : (r : Int) ≤ kcap := by
                  rcases HO4.out.2 with ⟨e1, _⟩ | ⟨g', cp, cur, e1, _, _, h3, _⟩
                  · cases e1
                  · cases e1; omega
                have hcap2 : (r : Int) ≤ rcap := by
                  rcases HC4.out.2.2 with ⟨e1, _⟩ | ⟨g', cp, cur, e1, _, _, h3, _⟩
                  · cases e1
                  · cases e1; have := HR.out; omega
                have RX : Hid (∀ w', Fr [] wr w' → w'.rangeAt g (r * 10) (kc x).toList) := fun w' f => rowK_at (own_fr HO4.out (G.out.trans f) (by simp)) hx
                have RY : Hid (∀ w', Fr [] wr w' → w'.rangeAt g2 (r * 18 + 1) (kc x).toList) := fun w' f j v hv => by
                  have h1 := tr_rangeR (rowR_at (own_fr HC4.out.2 (G.out.trans f) (by simp)) hy)
                  refine h1 j v ?_
                  rw [← hyx] at hv
                  have hj : j < 10 := by have := (List.getElem?_eq_some_iff.1 hv).1; rw [kcl_len] at this; exact this
                  rw [Tr.cl, List.getElem?_append_left (by simp [kl0_len]; exact hj)]
                  simpa [kc] using hv
                have kd2 := G.out.cell1 kd1 (by simp)
                have RV : Hid (∀ w', Fr [] wr w' → w'.cell? ⟨d, 0, none⟩ = some (.slice (some ⟨g2, 0, none⟩) KL.length rcap)) := fun w' f => f.cell1 kd2 (by simp)
                have HK : Hid (kw x) := hkx
                clear hkx hy hyx hx kd2
                go_upto_region 25 with fail
                refine reg_in (fun w' => Fr [] wr w') ?_
                have hS : Fr [] wr wr.drew := (Fr.refl _ _).drew
                generalize wr.drew = Z at *
                refine tk 0 (some 85) (.slice (some ⟨g, 0, none⟩) KL.length kcap) rfl rfl (Or.inl ⟨rfl, fun wq hSq => by first | rfl | go_simp⟩) (by decide +kernel) hS ?_
                simp only [Act.put, List.setIfInBounds_toArray, List.set_cons_zero, List.set_cons_succ]
                refine tk 1 (some 86) (.int .i64 r) rfl rfl (Or.inl ⟨rfl, fun wq hSq => by first | rfl | go_simp⟩) (by decide +kernel) hS ?_
                simp only [Act.put, List.setIfInBounds_toArray, List.set_cons_zero, List.set_cons_succ]
                refine tk 2 (some 87) (.pointer (some ⟨g, r * 10, none⟩)) rfl rfl (Or.inl ⟨rfl, fun wq hSq => by go_simp⟩) (by decide +kernel) hS ?_
                simp only [Act.put, List.setIfInBounds_toArray, List.set_cons_zero, List.set_cons_succ]
                refine tk 3 (some 88) (.agg (kc x)) rfl rfl ?_ (by decide +kernel) hS ?_
                · exact yieldsIf_load_mid rfl 29 (.tmp 87) rfl g (r * 10) rfl (kc x).toList _ (fun wq hSq => RX.out wq hSq) Try.underlying29 rfl (by rw [info29]; simp [kc_size])
                simp only [Act.put, List.setIfInBounds_toArray, List.set_cons_zero, List.set_cons_succ]
                refine tk 4 (some 89) (.pointer (some ⟨d, 0, none⟩)) rfl rfl (Or.inl ⟨rfl, fun wq hSq => by first | rfl | go_simp⟩) (by decide +kernel) hS ?_
                simp only [Act.put, List.setIfInBounds_toArray, List.set_cons_zero, List.set_cons_succ]
                refine tk 5 (some 90) (.pointer (some ⟨d, 0, none⟩)) rfl rfl (Or.inl ⟨rfl, fun wq hSq => by first | rfl | go_simp⟩) (by decide +kernel) hS ?_
                simp only [Act.put, List.setIfInBounds_toArray, List.set_cons_zero, List.set_cons_succ]
                refine tk 6 (some 91) (.pointer (some ⟨d, 0, none⟩)) rfl rfl (Or.inl ⟨rfl, fun wq hSq => by first | rfl | go_simp⟩) (by decide +kernel) hS ?_
                simp only [Act.put, List.setIfInBounds_toArray, List.set_cons_zero, List.set_cons_succ]
                refine tk 7 (some 92) (.slice (some ⟨g2, 0, none⟩) KL.length rcap) rfl rfl (Or.inl ⟨rfl, fun wq hSq => by have q := RV.out wq hSq; go_simp⟩) (by decide +kernel) hS ?_
                simp only [Act.put, List.setIfInBounds_toArray, List.set_cons_zero, List.set_cons_succ]
                refine tk 8 (some 93) (.int .i64 r) rfl rfl (Or.inl ⟨rfl, fun wq hSq => by first | rfl | go_simp⟩) (by decide +kernel) hS ?_
                simp only [Act.put, List.setIfInBounds_toArray, List.set_cons_zero, List.set_cons_succ]
                refine tk 9 (some 94) (.pointer (some ⟨g2, r * 18, none⟩)) rfl rfl (Or.inl ⟨rfl, fun wq hSq => by go_simp⟩) (by decide +kernel) hS ?_
                simp only [Act.put, List.setIfInBounds_toArray, List.set_cons_zero, List.set_cons_succ]
                refine tk 10 (some 95) (.pointer (some ⟨g2, r * 18 + 1, none⟩)) rfl rfl (Or.inl ⟨rfl, fun wq hSq => by first | rfl | go_simp⟩) (by decide +kernel) hS ?_
                simp only [Act.put, List.setIfInBounds_toArray, List.set_cons_zero, List.set_cons_succ]
                refine tk 11 (some 96) (.pointer (some ⟨g2, r * 18 + 1, none⟩)) rfl rfl (Or.inl ⟨rfl, fun wq hSq => by first | rfl | go_simp⟩) (by decide +kernel) hS ?_
                simp only [Act.put, List.setIfInBounds_toArray, List.set_cons_zero, List.set_cons_succ]
                refine tk 12 (some 97) (.agg (kc x)) rfl rfl ?_ (by decide +kernel) hS ?_
                · exact yieldsIf_load_mid rfl 29 (.tmp 96) rfl g2 (r * 18 + 1) rfl (kc x).toList _ (fun wq hSq => RY.out wq hSq) Try.underlying29 rfl (by rw [info29]; simp [kc_size])
                simp only [Act.put, List.setIfInBounds_toArray, List.set_cons_zero, List.set_cons_succ]
                refine tk 13 (some 98) (.bool false) rfl rfl ?_ (by decide +kernel) hS ?_
                · exact yieldsIf_bin rfl .neq 29 (.tmp 88) (.tmp 97) rfl _ _ rfl rfl (fun w _ => eguardN29 w _ _ _ _) (fun w _ => (neq29 w HK.out HK.out).trans (by simp))
                simp only [Act.put, List.setIfInBounds_toArray, List.set_cons_zero, List.set_cons_succ]
                refine wpAnyH_done (by decide +kernel) ?_ _
                refine plain_end ?_
                have HG : Hid (Fr [] Y4 Z) := G.out.trans hS
                clear hS RX RY RV HK
                go_wp2
                go_roundw
                case rel => exact ⟨r + 1, hrt, by go_num, HG⟩
                case measure => simp [intOf]; omega
              · obtain rfl : r = KL.length := by omega
                have HF : Hid (AcI w0 w0.heap.size c d wr (p + 1) S' ∧ S'.lim = limP lim) := ⟨HC4.out.1.1.fr0 G.out, HC4.out.1.2⟩
                clear HC4 HO4 HKL G
                go_wp2
                go_roundw
                case rel => exact ⟨p + 1, S', hlt, by go_num, HF⟩
                case measure => simp [intOf]; omega
          · obtain rfl : p = l.length := by omega
            have HFF : Hid (Fr [] W wr) := F.out.trans I.out.1.aw.fr
            clear I
            go_wp2
            go_ret
            exact ⟨rfl, HFF.out⟩
end Go.Proofs.Ytnhjplfdfbbihaa
