/-
  Lists of traces and acts that came in; of one key never two are held: the walk; condition: the traces lie as told.
-/
import Derived.Test.YtnhjplfdfbbihaaCcA
namespace Go.Proofs.Ytnhjplfdfbbihaa
open Go.RowKit Go.Shelf Go.Maps Go.ChangeShapes Go.WideShapes Go.ChangeAt Go.Deep
set_option linter.unusedVariables false
set_option linter.unusedSimpArgs false
section
variable {H : Type} {enc : TypeId × Value → H} {w : World} {spare : Nat → Bool} {held : Bool} {fuel : Nat} {x : DataW H × List MemPlace}
/-- Where the elements of a list lie that came in. -/
def LiesAt {α : Type} (w : World) (f : α → List Value) (m : Nat) (a : Option Addr) (L : List α) : Prop := ∀ (i : Nat) (y : α), L[i]? = some y → ∃ b o, a = some ⟨b, o, none⟩ ∧ b < w.heap.size ∧ w.rangeAt b (o + i * m) (f y)
theorem read_listC {α : Type} {t e : TypeId} {m : Nat} (hm : 0 < m) (ht : Try.prog.underlying t = some (.slice e)) (hce : Try.prog.cellsOf e = m) (f : α → List Value) (p : α → Prop) (cost : α → Nat) (hf : ∀ y, p y → (f y).length = m)
    (rd : ∀ {fuel : Nat} {cs : List Value} {x : DataW H × List MemPlace}, DataW.trod enc Try.prog w 0 spare held fuel e cs = some x → ∃ y, cs = f y ∧ p y ∧ cost y ≤ Rows.uptoBulk x.1) {v : Value} (h : DataW.trod enc Try.prog w 0 spare held fuel t [v] = some x) :
    ∃ (a : Option Addr) (cap : Nat) (L : List α), v = .slice a L.length cap ∧ (∀ y ∈ L, p y) ∧ LiesAt w f m a L ∧ (L.map cost).sum + 1 ≤ Rows.uptoBulk x.1 := by
  rcases DataW.trod_slice ht h with ⟨e1, rfl⟩ | ⟨a, len, cap, elems, rest, n, _, e1, rfl, _, hlc, hcm, hel, hc, _, _⟩
  · simp at e1
    subst e1
    exact ⟨none, 0, [], rfl, by simp, fun i y hy => by simp at hy, by simp [Rows.uptoBulk]⟩
  · simp at e1
    subst e1
    have each : ∀ i, i < len → ∃ y : α, (∀ (j : Nat) (u : Value), (f y)[j]? = some u → w.cell? (a.add (i * m + j)) = some u) ∧ p y ∧ ∀ d, elems[i]? = some d → cost y ≤ Rows.uptoBulk d.1 := by
      intro i hi
      have h0 := hc i hi
      rw [List.getElem?_eq_getElem (by omega), hce] at h0
      obtain ⟨cs', h1, h2⟩ := Option.bind_eq_some_iff.1 h0
      obtain ⟨_, hlen, hcell⟩ := World.cells?_some h1
      obtain ⟨y, rfl, hp, hcost⟩ := rd h2
      refine ⟨y, fun j u hu => ?_, hp, fun d hd => ?_⟩
      · have hj : j < m := by have := (List.getElem?_eq_some_iff.1 hu).1; rw [hf y hp] at this; exact this
        have := hcell j hj
        rw [add_add] at this
        rw [this]; exact hu
      · rw [List.getElem?_eq_getElem (by omega)] at hd
        cases hd
        exact hcost
    obtain ⟨L, hL, hp⟩ := choose_lt each
    have hpp : ∀ y ∈ L, p y := fun y hy => by
      obtain ⟨i, hi⟩ := List.getElem?_of_mem hy
      exact (hp i y hi).2.1
    refine ⟨some a, cap, L, by rw [hL], hpp, fun i y hy => ?_, ?_⟩
    · have hcl := (hp i y hy).1
      have hl0 : 0 < L.length := Nat.lt_of_le_of_lt (Nat.zero_le _) (List.getElem?_eq_some_iff.1 hy).1
      have hq0 : L[0]? = some L[0] := List.getElem?_eq_getElem hl0
      have hs := (hp 0 L[0] hq0).1 0 _ (List.getElem?_eq_getElem (by rw [hf _ (hpp _ (List.mem_of_getElem? hq0))]; exact hm))
      obtain ⟨b, off, spot⟩ := a
      have hspot : spot = none := by simpa [Addr.add] using World.cell?_spot hs
      subst hspot
      have hf0 : (f y)[0]? = some ((f y)[0]'(by rw [hf y (hpp y (List.mem_of_getElem? hy))]; exact hm)) := List.getElem?_eq_getElem _
      have hb := hcl 0 _ hf0
      rw [Addr.add_lit] at hb
      refine ⟨b, off, rfl, World.block_lt_of_cell? w _ hb, fun j u hu => ?_⟩
      have := hcl j u hu
      rw [Addr.add_lit, ← Nat.add_assoc] at this
      exact this
    · have := sum_bulk (cost := cost) L elems (by omega) (fun i y d hy hd => (hp i y hy).2.2 d hd)
      simp only [Rows.uptoBulk]
      omega
theorem cu73 : Try.prog.underlying 73 = some (.slice 35) := by kernel_rfl
theorem read_traces {v : Value} (h : DataW.trod enc Try.prog w 0 spare held fuel 73 [v] = some x) : ∃ (a : Option Addr) (cap : Nat) (L : List Tr), v = .slice a L.length cap ∧ (∀ t ∈ L, TrR w t) ∧ LiesAt w Tr.cl 17 a L ∧ (L.map costT).sum + 1 ≤ Rows.uptoBulk x.1 :=
  read_listC (by omega) cu73 cells35 Tr.cl (TrR w) costT (fun t _ => t.cl_len) read_trace h
end
theorem LiesAt.fr {α : Type} {w w' : World} {f : α → List Value} {m : Nat} {a : Option Addr} {L : List α} (h : LiesAt w f m a L) (g : Fr [] w w') : LiesAt w' f m a L := fun i y hy => by
  obtain ⟨b, o, e, hb, hc⟩ := h i y hy
  exact ⟨b, o, e, Nat.lt_of_lt_of_le hb g.size, fun j u hu => g.cell1 (hc j u hu) (by simp)⟩
theorem costT_mem {L : List Tr} {t : Tr} (h : t ∈ L) : costT t ≤ (L.map costT).sum := by
  induction L with
  | nil => cases h
  | cons x r ih =>
    simp only [List.map_cons, List.sum_cons]
    rcases List.mem_cons.1 h with rfl | h
    · omega
    · have := ih h; omega
theorem costT_len (L : List Tr) : L.length ≤ (L.map costT).sum := by
  induction L with
  | nil => simp
  | cons x r ih => simp only [List.map_cons, List.sum_cons, List.length_cons, costT]; omega
theorem TrOk.low {w : World} {B B' : Nat} {t : Tr} (h : TrOk w B t) (hB : B ≤ B') : TrOk w B' t :=
  ⟨h.ins.low hB, h.ops.low hB, fun e he => ⟨(h.opl e he).hp, (h.opl e he).hq, (h.opl e he).sl.low hB⟩, h.links.low hB, fun e he => ⟨(h.linkl e he).hp, (h.linkl e he).hq, (h.linkl e he).sl.low hB⟩, h.virts.low hB, fun e he => ⟨(h.virtl e he).hp, (h.virtl e he).hq, (h.virtl e he).sl.low hB⟩, h.back.low hB⟩
theorem wpList_ld35w {ops : Array Oper} {rest : List Oper} {o : Oper} {a : Act} {w : World} {Q : Exit → Act → World → Prop} (hw : Region.wanted o (yielded ops a.tmps) = true) (x : Operand) (ho : o.op = .load 35 x)
    (g : Nat) (hx : a.eval x = .pointer (some ⟨g, 0, none⟩)) (A : Array Value) (hA : A.size = 17) (hg : w.heap[g]? = some (.cells A 35 (0, 0)))
    (h : wpList Try.prog ops Q rest (a.put o.dst (.agg A)) w) : wpList Try.prog ops Q (o :: rest) a w :=
  wpList_want hw fun K hK => wp_load_row 35 x ho g hx 35 A (0, 0) _ hg Try.underlying35 rfl (by rw [hA]; exact info35) (hK _ _ h)
theorem put_last (S : Bk) (t : AT) (h : S.lim ≠ 0) : (putB S t).last = S.last + 1 ∧ (putB S t).lim = S.lim := by
  unfold putB
  rw [if_neg h]
  exact ⟨by show (roomB (dropB S t.k)).last + 1 = _; rw [room_last, drop_last], by show (roomB (dropB S t.k)).lim = _; rw [room_lim, drop_lim]⟩
theorem put_get {S : Bk} {n : Nat} (ho : Ok S n) (t : AT) (h : S.lim ≠ 0) : getB (putB S t) t.k = some ((S.last : Int) + 1, t) := by
  unfold putB
  rw [if_neg h]
  unfold getB pushB
  rw [List.find?_append]
  have h1 : (roomB (dropB S t.k)).rows.find? (fun r => decide (r.2.k = t.k)) = none := by
    rw [List.find?_eq_none]
    intro r hr
    simpa using drop_free ho t.k r ((room_sub _).mem hr)
  rw [h1, room_last, drop_last]
  simp
theorem keys_pw {S : Bk} {n : Nat} (ho : Ok S n) : (S.rows.map (fun r => r.2.k)).Pairwise (fun a b => a ≠ b) := by
  rw [List.pairwise_map]
  exact ho.keys
theorem keys_kw {S : Bk} {n : Nat} (ho : Ok S n) : ∀ k ∈ S.rows.map (fun r => r.2.k), kw k := by
  intro k hk
  obtain ⟨r, hr, rfl⟩ := List.mem_map.1 hk
  exact (ho.ok r hr).kw
set_option maxRecDepth 100000 in
set_option maxHeartbeats 8000000 in
theorem cacheOnce_walk {W : World} (lim : Int) (hlw : W64 lim) (a : Option Addr) (cap : Nat) (l : List Tr) (hll : l.length ≤ 1048576) (hl : LiesAt W Tr.cl 17 a l) (hr : ∀ t ∈ l, TrOk W W.heap.size t ∧ ATOk t.abs) : Calls Try.prog 6 #[.int .i64 lim, .slice a l.length cap] W fun e W' => e = .returned (.bool true) ∧ Fr [] W W' := by
  have CA0 := awake_any W
  have HL : Hid (LiesAt W Tr.cl 17 a l ∧ (∀ t ∈ l, TrOk W W.heap.size t ∧ ATOk t.abs) ∧ l.length ≤ 1048576) := ⟨hl, hr, hll⟩
  have HA0 : Hid (a = none → l.length = 0) := fun e => by
    cases l with
    | nil => rfl
    | cons t r => obtain ⟨b, o, e1, _⟩ := hl 0 t rfl; rw [e] at e1; cases e1
  have hllI : (l.length : Int) ≤ 1048576 := by omega
  clear hl hr hll
  go_enter Try.func6, Try.ntmps6
  go_wp2_with (go_at_call 7; refine CA0.mono ?_; rintro e w2 ⟨rfl, f2⟩; have HF2 : Hid (Fr [] W w2) := f2; clear f2 CA0)
  go_loopw [5, 21] (fun m i wr => ∃ (m1 : Int) (p : Nat), p ≤ l.length ∧ m = .int .i64 m1 ∧ i = .int .i64 p ∧ Hid (Fr [] W wr)) (fun _ i _ => l.length - (intOf i).toNat)
  case atStart => exact ⟨0, 0, Nat.zero_le _, rfl, rfl, HF2⟩
  case round =>
    obtain ⟨m1, p, hp, rfl, rfl, F⟩ := hrel
    clear HF2
    by_cases hlt : p < l.length
    · have hpI : (p : Int) < l.length := by omega
      obtain ⟨t, ht⟩ : ∃ t, l[p]? = some t := ⟨_, List.getElem?_eq_getElem hlt⟩
      obtain ⟨b, o, rfl, hbl, hc⟩ := (HL.out.1.fr F.out) p t ht
      have RT : Hid (wr.rangeAt b (o + p * 17) t.cl) := hc
      have HA : Hid ((wr.alloc (.cells #[.int .i64 0, .int .i64 0, .int .i64 0, .int .i64 0, .int .i64 0, .int .i64 0, .int .i64 0, .int .i64 0, .int .i64 0, .int .i64 0, .int .i64 0, .int .i64 0, .slice none 0 0, .slice none 0 0, .slice none 0 0, .slice none 0 0, .slice none 0 0] 35)).heap[wr.heap.size]? = some (.cells #[.int .i64 0, .int .i64 0, .int .i64 0, .int .i64 0, .int .i64 0, .int .i64 0, .int .i64 0, .int .i64 0, .int .i64 0, .int .i64 0, .int .i64 0, .int .i64 0, .slice none 0 0, .slice none 0 0, .slice none 0 0, .slice none 0 0, .slice none 0 0] 35 (0, 0))) := heap_alloc_new wr _
      have HB : Hid (((wr.alloc (.cells #[.int .i64 0, .int .i64 0, .int .i64 0, .int .i64 0, .int .i64 0, .int .i64 0, .int .i64 0, .int .i64 0, .int .i64 0, .int .i64 0, .int .i64 0, .int .i64 0, .slice none 0 0, .slice none 0 0, .slice none 0 0, .slice none 0 0, .slice none 0 0] 35)).setRow wr.heap.size t.arr).heap[wr.heap.size]? = some (.cells t.arr 35 (0, 0))) := setRow_heap _ _ _ t.arr _ _ HA.out
      have HF : Hid (Fr [] W ((wr.alloc (.cells #[.int .i64 0, .int .i64 0, .int .i64 0, .int .i64 0, .int .i64 0, .int .i64 0, .int .i64 0, .int .i64 0, .int .i64 0, .int .i64 0, .int .i64 0, .int .i64 0, .slice none 0 0, .slice none 0 0, .slice none 0 0, .slice none 0 0, .slice none 0 0] 35)).setRow wr.heap.size t.arr)) := F.out.trans (((Fr.refl [] wr).alloc _).setRow (.inr (Nat.le_refl _)) _)
      have hto := (HL.out.2.1 t (List.mem_of_getElem? ht)).1
      have CS := size_any (hto.fr0 HF.out)
      clear hbl hc hto ht F
      go_upto_region 7 with (first
        | refine wpList_load_mid rfl 35 (.tmp 23) rfl b (o + p * 17) rfl t.cl _ RT.out Try.underlying35 rfl (by rw [Tr.cl_len]; exact info35) ?_
        | refine wpList_store_row rfl 35 (.tmp 7) (.tmp 24) rfl wr.heap.size t.arr rfl rfl 35 _ HA.out (by rw [t.arr_size]; exact info35) (by rw [t.arr_size]; rfl) t.arr_one ?_)
      generalize (wr.alloc (.cells #[.int .i64 0, .int .i64 0, .int .i64 0, .int .i64 0, .int .i64 0, .int .i64 0, .int .i64 0, .int .i64 0, .int .i64 0, .int .i64 0, .int .i64 0, .int .i64 0, .slice none 0 0, .slice none 0 0, .slice none 0 0, .slice none 0 0, .slice none 0 0] 35)).setRow wr.heap.size t.arr = V at *
      generalize wr.heap.size = bx at *
      go_wp2_with (first
        | refine wpList_ld35 rfl (.tmp 7) rfl bx rfl t.arr t.arr_size HB.out ?_
        | (go_at_call 8; refine CS.mono ?_; rintro e w5 ⟨sz, rfl, f5⟩; have HF5 := hid (HF.out.trans f5); clear f5 HF CS))
      clear RT HA HB
      go_roundw
      case rel => exact ⟨_, p + 1, hlt, rfl, by go_num, HF5⟩
      case measure => simp [intOf]; omega
    · obtain rfl : p = l.length := by omega
      by_cases h1 : lim < 1
      · go_wp2
        go_ret
        exact ⟨rfl, F.out⟩
      · by_cases h2 : 1000 < m1
        · go_wp2
          go_ret
          exact ⟨rfl, F.out⟩
        · have CN := AwS.new (w := wr) (pk := []) lim (SL.nil _ _ _ _ rfl) (by simp)
          change Calls Try.prog 9 #[.int .i64 lim, .slice none 0 0] wr _ at CN
          have HLM : Hid (limP lim ≠ 0) := by show limP lim ≠ 0; unfold limP; omega
          go_wp2_with (go_at_call 9; refine CN.mono ?_; rintro e w3 ⟨c, rfl, h3⟩; have H3 : Hid (AwS wr wr.heap.size c w3 0 ⟨limP lim, [], [], [], 0, 0⟩) := h3; clear h3 CN)
          obtain ⟨w0, hw0⟩ : ∃ w0, w0 = wr := ⟨_, rfl⟩
          subst hw0
          go_loopw [43] (fun i wq => ∃ (p : Nat) (S : Bk), p ≤ l.length ∧ i = .int .i64 p ∧ Hid (AwS w0 w0.heap.size c wq p S ∧ S.last = p ∧ S.lim ≠ 0)) (fun i _ => l.length - (intOf i).toNat)
          case atStart => exact ⟨0, _, Nat.zero_le _, rfl, H3.out, rfl, HLM.out⟩
          case round =>
            obtain ⟨p, S, hp, rfl, I⟩ := hrel
            clear H3 HLM
            by_cases hlt : p < l.length
            · have hpI : (p : Int) < l.length := by omega
              obtain ⟨t, ht⟩ : ∃ t, l[p]? = some t := ⟨_, List.getElem?_eq_getElem hlt⟩
              obtain ⟨b, o, rfl, hbl, hc⟩ := (HL.out.1.fr (F.out.trans I.out.1.fr)) p t ht
              have hp1 : (p : Int) + 1 ≤ 1048576 := by omega
              obtain ⟨ht1, hat⟩ := HL.out.2.1 t (List.mem_of_getElem? ht)
              have RT : Hid (wr.rangeAt b (o + p * 17) t.cl) := hc
              have HA : Hid ((wr.alloc (.cells #[.int .i64 0, .int .i64 0, .int .i64 0, .int .i64 0, .int .i64 0, .int .i64 0, .int .i64 0, .int .i64 0, .int .i64 0, .int .i64 0, .int .i64 0, .int .i64 0, .slice none 0 0, .slice none 0 0, .slice none 0 0, .slice none 0 0, .slice none 0 0] 35)).heap[wr.heap.size]? = some (.cells #[.int .i64 0, .int .i64 0, .int .i64 0, .int .i64 0, .int .i64 0, .int .i64 0, .int .i64 0, .int .i64 0, .int .i64 0, .int .i64 0, .int .i64 0, .int .i64 0, .slice none 0 0, .slice none 0 0, .slice none 0 0, .slice none 0 0, .slice none 0 0] 35 (0, 0))) := heap_alloc_new wr _
              have HB : Hid (((wr.alloc (.cells #[.int .i64 0, .int .i64 0, .int .i64 0, .int .i64 0, .int .i64 0, .int .i64 0, .int .i64 0, .int .i64 0, .int .i64 0, .int .i64 0, .int .i64 0, .int .i64 0, .slice none 0 0, .slice none 0 0, .slice none 0 0, .slice none 0 0, .slice none 0 0] 35)).setRow wr.heap.size t.arr).heap[wr.heap.size]? = some (.cells t.arr 35 (0, 0))) := setRow_heap _ _ _ t.arr _ _ HA.out
              have FB : Fr [] wr ((wr.alloc (.cells #[.int .i64 0, .int .i64 0, .int .i64 0, .int .i64 0, .int .i64 0, .int .i64 0, .int .i64 0, .int .i64 0, .int .i64 0, .int .i64 0, .int .i64 0, .int .i64 0, .slice none 0 0, .slice none 0 0, .slice none 0 0, .slice none 0 0, .slice none 0 0] 35)).setRow wr.heap.size t.arr) := ((Fr.refl [] wr).alloc _).setRow (.inr (Nat.le_refl _)) _
              have I1 : Hid (AwS w0 w0.heap.size c ((wr.alloc (.cells #[.int .i64 0, .int .i64 0, .int .i64 0, .int .i64 0, .int .i64 0, .int .i64 0, .int .i64 0, .int .i64 0, .int .i64 0, .int .i64 0, .int .i64 0, .int .i64 0, .slice none 0 0, .slice none 0 0, .slice none 0 0, .slice none 0 0, .slice none 0 0] 35)).setRow wr.heap.size t.arr) p S) := I.out.1.fr0 FB
              have HT1 : Hid (TrOk ((wr.alloc (.cells #[.int .i64 0, .int .i64 0, .int .i64 0, .int .i64 0, .int .i64 0, .int .i64 0, .int .i64 0, .int .i64 0, .int .i64 0, .int .i64 0, .int .i64 0, .int .i64 0, .slice none 0 0, .slice none 0 0, .slice none 0 0, .slice none 0 0, .slice none 0 0] 35)).setRow wr.heap.size t.arr) w0.heap.size t ∧ ATOk t.abs) := ⟨(((ht1.fr0 F.out).low F.out.size).fr0 I.out.1.fr).fr0 FB, hat⟩
              have hpr : putR S = (p : Int) + 1 := by unfold putR; rw [if_neg I.out.2.2, I.out.2.1]
              have CP := I1.out.put (by omega) HT1.out.1 HT1.out.2
              rw [hpr] at CP
              have HS : Hid (S.last = p ∧ S.lim ≠ 0 ∧ Ok S p) := ⟨I.out.2.1, I.out.2.2, I.out.1.ok⟩
              clear hbl hc ht ht1 hat FB hpr I
              go_upto_region 17 with (first
                | refine wpList_load_mid rfl 35 (.tmp 46) rfl b (o + p * 17) rfl t.cl _ RT.out Try.underlying35 rfl (by rw [Tr.cl_len]; exact info35) ?_
                | refine wpList_store_row rfl 35 (.tmp 10) (.tmp 47) rfl wr.heap.size t.arr rfl rfl 35 _ HA.out (by rw [t.arr_size]; exact info35) (by rw [t.arr_size]; rfl) t.arr_one ?_)
              clear HA RT
              generalize (wr.alloc (.cells #[.int .i64 0, .int .i64 0, .int .i64 0, .int .i64 0, .int .i64 0, .int .i64 0, .int .i64 0, .int .i64 0, .int .i64 0, .int .i64 0, .int .i64 0, .int .i64 0, .slice none 0 0, .slice none 0 0, .slice none 0 0, .slice none 0 0, .slice none 0 0] 35)).setRow wr.heap.size t.arr = V at *
              generalize wr.heap.size = bx at *
              go_upto_region 19 with (first
                | refine wpList_ld35 rfl (.tmp 10) rfl bx rfl t.arr t.arr_size HB.out ?_
                | (go_at_call 14; refine CP.mono ?_; rintro e w5 ⟨rfl, h5, g5⟩; have I2 : Hid (AwS w0 w0.heap.size c w5 (p + 1) (putB S t.abs)) := h5; have HB2 : Hid (w5.heap[bx]? = some (.cells t.arr 35 (0, 0))) := (g5.block _ (Array.getElem?_eq_some_iff.1 HB.out).1 (.inr (.inl ⟨_, _, _, HB.out, rfl⟩))).trans HB.out; have HT2 : Hid (TrOk w5 w0.heap.size t ∧ ATOk t.abs) := ⟨HT1.out.1.gm g5 pP_ro, HT1.out.2⟩; clear h5 g5 CP HB HT1 I1))
              have CG := I2.out.get (k := t.k) HT2.out.2.kw
              rw [show getB (putB S t.abs) t.k = some ((S.last : Int) + 1, t.abs) from put_get HS.out.2.2 t.abs HS.out.2.1, HS.out.1] at CG
              simp only [Option.map_some, Option.getD_some, Option.isSome_some] at CG
              have HK : Hid (w5.rangeAt bx 0 (kc t.k).toList) := Tr.key_range HB2.out
              go_upto_region 20 with (first
                | refine wpList_ld29 rfl (.tmp 56) rfl bx 0 rfl t.k HK.out ?_
                | (go_at_call 15; refine CG.mono ?_; rintro e w6 ⟨t', rfl, ha', ht', f6⟩; have HA : Hid ((w6.alloc (.cells #[.int .i64 0, .int .i64 0, .int .i64 0, .int .i64 0, .int .i64 0, .int .i64 0, .int .i64 0, .int .i64 0, .int .i64 0, .int .i64 0, .int .i64 0, .int .i64 0, .slice none 0 0, .slice none 0 0, .slice none 0 0, .slice none 0 0, .slice none 0 0] 35)).heap[w6.heap.size]? = some (.cells #[.int .i64 0, .int .i64 0, .int .i64 0, .int .i64 0, .int .i64 0, .int .i64 0, .int .i64 0, .int .i64 0, .int .i64 0, .int .i64 0, .int .i64 0, .int .i64 0, .slice none 0 0, .slice none 0 0, .slice none 0 0, .slice none 0 0, .slice none 0 0] 35 (0, 0))) := heap_alloc_new w6 _; have HQ : Hid (t'.abs = t.abs ∧ TrOk w6 w0.heap.size t' ∧ Fr [] w5 w6) := ⟨ha', ht', f6⟩; clear ha' ht' f6 CG HK)
                | refine wpList_store_row rfl 35 (.tmp 11) (.tmp 59) rfl w6.heap.size t'.arr rfl rfl 35 _ HA.out (by rw [t'.arr_size]; exact info35) (by rw [t'.arr_size]; rfl) t'.arr_one ?_)
              have FB : Fr [] w6 ((w6.alloc (.cells #[.int .i64 0, .int .i64 0, .int .i64 0, .int .i64 0, .int .i64 0, .int .i64 0, .int .i64 0, .int .i64 0, .int .i64 0, .int .i64 0, .int .i64 0, .int .i64 0, .slice none 0 0, .slice none 0 0, .slice none 0 0, .slice none 0 0, .slice none 0 0] 35)).setRow w6.heap.size t'.arr) := ((Fr.refl [] w6).alloc _).setRow (.inr (Nat.le_refl _)) _
              have FC := HQ.out.2.2.trans FB
              have HB3 : Hid (((w6.alloc (.cells #[.int .i64 0, .int .i64 0, .int .i64 0, .int .i64 0, .int .i64 0, .int .i64 0, .int .i64 0, .int .i64 0, .int .i64 0, .int .i64 0, .int .i64 0, .int .i64 0, .slice none 0 0, .slice none 0 0, .slice none 0 0, .slice none 0 0, .slice none 0 0] 35)).setRow w6.heap.size t'.arr).heap[bx]? = some (.cells t.arr 35 (0, 0))) := (FC.block _ (Array.getElem?_eq_some_iff.1 HB2.out).1 (by simp)).trans HB2.out
              have HB4 : Hid (((w6.alloc (.cells #[.int .i64 0, .int .i64 0, .int .i64 0, .int .i64 0, .int .i64 0, .int .i64 0, .int .i64 0, .int .i64 0, .int .i64 0, .int .i64 0, .int .i64 0, .int .i64 0, .slice none 0 0, .slice none 0 0, .slice none 0 0, .slice none 0 0, .slice none 0 0] 35)).setRow w6.heap.size t'.arr).heap[w6.heap.size]? = some (.cells t'.arr 35 (0, 0))) := setRow_heap _ _ _ t'.arr _ _ HA.out
              have I3 : Hid (AwS w0 w0.heap.size c ((w6.alloc (.cells #[.int .i64 0, .int .i64 0, .int .i64 0, .int .i64 0, .int .i64 0, .int .i64 0, .int .i64 0, .int .i64 0, .int .i64 0, .int .i64 0, .int .i64 0, .int .i64 0, .slice none 0 0, .slice none 0 0, .slice none 0 0, .slice none 0 0, .slice none 0 0] 35)).setRow w6.heap.size t'.arr) (p + 1) (putB S t.abs)) := I2.out.fr0 FC
              have CS := same16_any (HQ.out.2.1.fr0 FB) (HT2.out.1.fr0 FC) HQ.out.1 (by rw [HQ.out.1]; exact HT2.out.2)
              clear FB FC HA HB2 I2
              generalize (w6.alloc (.cells #[.int .i64 0, .int .i64 0, .int .i64 0, .int .i64 0, .int .i64 0, .int .i64 0, .int .i64 0, .int .i64 0, .int .i64 0, .int .i64 0, .int .i64 0, .int .i64 0, .slice none 0 0, .slice none 0 0, .slice none 0 0, .slice none 0 0, .slice none 0 0] 35)).setRow w6.heap.size t'.arr = V2 at *
              generalize w6.heap.size = bz at *
              go_upto_region 22 with (first
                | refine wpList_ld35w (by rfl) (.tmp 11) rfl bz rfl t'.arr t'.arr_size HB4.out ?_
                | refine wpList_ld35w (by rfl) (.tmp 10) rfl bx rfl t.arr t.arr_size HB3.out ?_
                | (go_at_call 16; refine CS.mono ?_; rintro e w7 ⟨rfl, f7⟩; have I4 := hid (I3.out.fr0 f7); clear f7 CS I3 HB3 HB4))
              have CK := I4.out.keys
              have hkl : (putB S t.abs).rows.length ≤ 1000 := by have h1 := I4.out.ok.len; have h2 := I4.out.ok.lim; omega
              have HKP : Hid ((∀ k ∈ (putB S t.abs).rows.map (fun r => r.2.k), kw k) ∧ ((putB S t.abs).rows.map (fun r => r.2.k)).Pairwise (fun a b => a ≠ b)) := ⟨keys_kw I4.out.ok, keys_pw I4.out.ok⟩
              rw [show (putB S t.abs).rows.length = ((putB S t.abs).rows.map (fun r => r.2.k)).length by rw [List.length_map]] at CK hkl
              generalize (putB S t.abs).rows.map (fun r => r.2.k) = L at CK hkl HKP
              have HKL : Hid (L.length ≤ 1000) := hkl
              clear hkl
              go_wp2_with (go_at_call 13; refine CK.mono ?_; rintro e w8 ⟨ka, kcap, rfl, ho8, f8⟩; have HO8 : Hid (w8.ownsRow w7.heap.size 29 10 (.slice ka L.length kcap) L.length (flatKy L)) := ho8; have I5 := hid (I4.out.fr0 f8); clear ho8 f8 CK I4)
              refine once_keys HO8.out HKL.out HKP.out.1 HKP.out.2 (hid ?_)
              intro W2 f9 n0 n1 n2 n3 n4 n5 n6 n7 n8 n9 n10 n11 n12 n13 n14 n15 n16 n17 n18 n19 n20 n21 n22 n23
              have HF : Hid (AwS w0 w0.heap.size c W2 (p + 1) (putB S t.abs) ∧ (putB S t.abs).last = p + 1 ∧ (putB S t.abs).lim ≠ 0) := ⟨I5.out.fr0 f9, by rw [(put_last S t.abs HS.out.2.1).1, HS.out.1], by rw [(put_last S t.abs HS.out.2.1).2]; exact HS.out.2.1⟩
              clear f9 I5 HO8 HKL HKP HS HQ HT2
              go_wp2
              go_roundw
              case rel => exact ⟨p + 1, putB S t.abs, hlt, by go_num, HF⟩
              case measure => simp [intOf]; omega
            · obtain rfl : p = l.length := by omega
              have HFF : Hid (Fr [] W wr) := F.out.trans I.out.1.fr
              clear I
              go_wp2
              go_ret
              exact ⟨rfl, HFF.out⟩
end Go.Proofs.Ytnhjplfdfbbihaa
