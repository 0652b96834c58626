/-
  A member is struck out of a row: slices.DeleteFunc; condition: the row lies as told, the member stands there once.
-/
import Derived.Test.YtnhjplfdfbbihaaCaV
namespace Go.Proofs.Ytnhjplfdfbbihaa
open Go.RowKit Go.Shelf Go.Lib Go.Sort
set_option linter.unusedVariables false
set_option linter.unusedSimpArgs false
def setL (xs : List Value) : Nat → List Value → List Value
  | _, [] => xs
  | o, v :: r => setL (xs.set o v) (o + 1) r
theorem setL_len : ∀ (vs : List Value) (xs : List Value) (o : Nat), (setL xs o vs).length = xs.length
  | [], _, _ => rfl
  | v :: r, xs, o => by rw [setL, setL_len r]; simp
theorem setL_get : ∀ (vs : List Value) (xs : List Value) (o t : Nat), o + vs.length ≤ xs.length → (setL xs o vs)[t]? = if o ≤ t ∧ t < o + vs.length then vs[t - o]? else xs[t]?
  | [], xs, o, t, h => by simp [setL]; omega
  | v :: r, xs, o, t, h => by
    rw [setL, setL_get r (xs.set o v) (o + 1) t (by simp at h ⊢; omega)]
    by_cases h1 : o + 1 ≤ t ∧ t < o + 1 + r.length
    · rw [if_pos h1, if_pos (by simp; omega)]
      obtain ⟨u, rfl⟩ : ∃ u, t = o + 1 + u := ⟨t - (o + 1), by omega⟩
      rw [show o + 1 + u - (o + 1) = u by omega, show o + 1 + u - o = u + 1 by omega, List.getElem?_cons_succ]
    · rw [if_neg h1]
      by_cases h2 : t = o
      · subst h2
        rw [if_pos (by simp), List.getElem?_set_self (by simp at h; omega)]
        simp
      · rw [if_neg (by simp; omega), List.getElem?_set_ne (Ne.symm h2)]
theorem setL_take (vs xs : List Value) (o : Nat) (h : o + vs.length ≤ xs.length) : (setL xs o vs).take o = xs.take o := by
  refine List.ext_getElem? fun t => ?_
  rw [List.getElem?_take, List.getElem?_take]
  by_cases ht : t < o
  · rw [if_pos ht, if_pos ht, setL_get _ _ _ _ h, if_neg (by omega)]
  · rw [if_neg ht, if_neg ht]
theorem own_sets {B n size : Nat} {e : TypeId} {g c : Nat} : ∀ (vs : List Value) (o : Nat) {w : World} {xs : List Value}, w.ownsRow B e size (.slice (some ⟨g, 0, none⟩) n c) n xs → o + vs.length ≤ n * size → (w.setCells g o vs).ownsRow B e size (.slice (some ⟨g, 0, none⟩) n c) n (setL xs o vs)
  | [], _, _, _, h, _ => h
  | v :: r, o, w, xs, h, hl => by
    rw [World.setCells, setL]
    exact own_sets r (o + 1) (own_set h o v (by simp at hl; omega)) (by simp at hl ⊢; omega)
theorem flat_sets {α : Type} {f : α → List Value} {m : Nat} {L : List α} (hm : ∀ x, (f x).length = m) (h0 : 0 < m) {i : Nat} (hi : i < L.length) (x : α) : setL (L.flatMap f) (i * m) (f x) = (L.set i x).flatMap f := by
  have hl : i * m + m ≤ L.length * m := by have := Nat.mul_le_mul_right m (show i + 1 ≤ L.length from hi); rwa [Nat.succ_mul] at this
  refine List.ext_getElem? fun t => ?_
  rw [setL_get _ _ _ _ (by rw [hm, flat_len (fun x _ => hm x)]; exact hl)]
  by_cases ht : t < L.length * m
  · have hq : t / m < L.length := Nat.div_lt_of_lt_mul (by rw [Nat.mul_comm]; exact ht)
    have hr : t % m < m := Nat.mod_lt _ h0
    have hd : t / m * m + t % m = t := by rw [Nat.mul_comm]; exact Nat.div_add_mod t m
    have e1 : (L.flatMap f)[t]? = (f L[t / m])[t % m]? := by
      have := flat_at (f := f) (fun x _ => hm x) (List.getElem?_eq_getElem hq) (t % m) hr
      rwa [hd] at this
    have hq2 : t / m < (L.set i x).length := by simpa using hq
    have e2 : ((L.set i x).flatMap f)[t]? = (f (L.set i x)[t / m])[t % m]? := by
      have := flat_at (f := f) (fun x _ => hm x) (List.getElem?_eq_getElem hq2) (t % m) hr
      rwa [hd] at this
    rw [e1, e2, hm]
    by_cases hi2 : t / m = i
    · have h1 : i * m ≤ t := by rw [← hi2, ← hd]; simp [hd]; exact Nat.div_mul_le_self t m
      have h2 : t < i * m + m := by rw [← hi2]; omega
      rw [if_pos ⟨h1, h2⟩]
      simp only [hi2, List.getElem_set_self]
      congr 1
      rw [← hi2]
      omega
    · rw [if_neg]
      · simp only [List.getElem_set_ne (Ne.symm hi2)]
      · rintro ⟨h1, h2⟩
        apply hi2
        have : t / m = i := Nat.div_eq_of_lt_le h1 (by rw [Nat.succ_mul]; exact h2)
        exact this
  · rw [if_neg (by rw [hm]; omega), List.getElem?_eq_none (by rw [flat_len (fun x _ => hm x)]; omega), List.getElem?_eq_none (by rw [flat_len (fun x _ => hm x)]; simp; omega)]
theorem own_cut {w : World} {B n p size : Nat} {e : TypeId} {g c : Nat} {xs : List Value} (h : w.ownsRow B e size (.slice (some ⟨g, 0, none⟩) n c) n xs) (hp : p ≤ n) : w.ownsRow B e size (.slice (some ⟨g, 0, none⟩) p c) p (xs.take (p * size)) := by
  obtain ⟨h1, h2⟩ := h
  have hl : p * size ≤ n * size := Nat.mul_le_mul_right _ hp
  refine ⟨by rw [List.length_take, h1]; omega, ?_⟩
  rcases h2 with ⟨e1, _⟩ | ⟨g', cap, cur, e1, hb, hg, hn, hm, hs, ht⟩
  · cases e1
  · cases e1
    refine .inr ⟨g, c, cur, rfl, hb, hg, by omega, hm, hs, ?_⟩
    rw [← ht, List.take_take, Nat.min_eq_left hl]
/-- How far the moving up has come. -/
def mov (L : List Mb) (i p : Nat) : List Mb := (L.eraseIdx i).take p ++ L.drop p
theorem mov_start {L : List Mb} {i : Nat} (hi : i < L.length) : mov L i i = L := by
  unfold mov
  rw [List.eraseIdx_eq_take_drop_succ, List.take_append_of_le_length (by simp; omega), List.take_take, Nat.min_self, List.take_append_drop]
theorem mov_len {L : List Mb} {i p : Nat} (hi : i < L.length) (hp : p < L.length) : (mov L i p).length = L.length := by
  unfold mov
  simp [List.length_eraseIdx, hi]
  omega
theorem mov_at {L : List Mb} {i p : Nat} (hi : i < L.length) (hp : p + 1 < L.length) : (mov L i p)[p + 1]? = L[p + 1]? := by
  have hl : ((L.eraseIdx i).take p).length = p := by simp [List.length_eraseIdx, hi]; omega
  unfold mov
  rw [List.getElem?_append_right (by omega), hl, List.getElem?_drop]
  congr 1
  omega
theorem mov_next {L : List Mb} {i p : Nat} {x : Mb} (hi : i ≤ p) (hx : L[p + 1]? = some x) : (mov L i p).set p x = mov L i (p + 1) := by
  obtain ⟨hp, hxe⟩ := List.getElem?_eq_some_iff.1 hx
  have hiL : i < L.length := by omega
  have hl : ((L.eraseIdx i).take p).length = p := by simp [List.length_eraseIdx, hiL]; omega
  have hE : (L.eraseIdx i)[p]? = some x := by rw [List.getElem?_eraseIdx, if_neg (by omega)]; exact hx
  obtain ⟨hpe, hpx⟩ := List.getElem?_eq_some_iff.1 hE
  unfold mov
  rw [List.set_append_right _ _ (by omega), hl, Nat.sub_self, List.take_succ_eq_append_getElem hpe, hpx, List.drop_eq_getElem_cons (show p < L.length by omega), List.set_cons_zero]
  simp
theorem mov_end {L : List Mb} {i : Nat} (hi : i < L.length) : (mov L i (L.length - 1)).take (L.length - 1) = L.eraseIdx i := by
  have hl : (L.eraseIdx i).length = L.length - 1 := by simp [List.length_eraseIdx, hi]
  unfold mov
  rw [List.take_append_of_le_length (by simp; omega), List.take_take, Nat.min_self, List.take_of_length_le (by omega)]
theorem flatM_take (L : List Mb) (p : Nat) (hp : p ≤ L.length) : (flatM L).take (p * 11) = flatM (L.take p) := by
  have h : flatM L = flatM (L.take p) ++ flatM (L.drop p) := by unfold flatM; rw [← List.flatMap_append, List.take_append_drop]
  rw [h, List.take_append_of_le_length (by rw [flatM_len]; simp; omega), List.take_of_length_le (by rw [flatM_len]; simp; omega)]
theorem zero83 (w : World) : (zeroValue 83).run Try.prog w = .ok (.agg #[.int .i64 0, .int .i64 0, .int .i64 0, .int .i64 0, .int .i64 0, .int .i64 0, .int .i64 0, .int .i64 0, .int .i64 0, .int .i64 0, .int .i64 0]) w := by kernel_rfl
theorem run_clear1 (w : World) (ty : TypeId) (g o c : Nat) (hc : ∀ j, j < 11 → (w.cell? ⟨g, o + j, none⟩).isSome = true) (hf : ∀ j, j < 11 → w.frozen? ⟨g, o + j, none⟩ = false) :
    (Builtin.clear_ #[61] ty #[.slice (some ⟨g, o, none⟩) 1 c]).run Try.prog w = .ok (.tuple #[]) (w.setCells g o (List.replicate 11 (.int .i64 0))) := by
  have hst := run_storeCells_cells (P := Try.prog) g o (List.replicate 11 (.int .i64 0)) 0 w (by simpa using hc) (by simpa using hf) (by intro v hv'; rw [List.eq_of_mem_replicate hv']; rfl)
  have hz : (Builtin.zeroCells (Value.agg #[.int .i64 0, .int .i64 0, .int .i64 0, .int .i64 0, .int .i64 0, .int .i64 0, .int .i64 0, .int .i64 0, .int .i64 0, .int .i64 0, .int .i64 0]).cells 1).toList = List.replicate 11 (Value.int .i64 0) := by kernel_rfl
  simp only [Nat.add_zero] at hst
  simp only [Builtin.clear_, List.getElem?_toArray, List.getElem?_cons_zero, run_underlying Try.underlying61, Sem.run_bind, Result.andThen_ok, zero83, hz, hst, Sem.run_pure]
theorem Fr.setCells {S : List Nat} {a : World} {g : Nat} : ∀ (vs : List Value) (o : Nat) {b : World}, Fr S a b → (g ∈ S ∨ a.heap.size ≤ g) → Fr S a (b.setCells g o vs)
  | [], _, _, h, _ => h
  | v :: r, o, b, h, hg => by
    rw [World.setCells]
    exact Fr.setCells r (o + 1) (h.setCell (p := ⟨g, o, none⟩) hg v) hg
set_option maxRecDepth 100000 in
set_option maxHeartbeats 4000000 in
theorem del40_any {w : World} {B g c gb i : Nat} {L : List Mb} {y : Mb} (h : w.ownsRow B 83 11 (.slice (some ⟨g, 0, none⟩) L.length c) L.length (flatM L)) (hn : (L.length : Int) ≤ 1000000000000) (hw : ∀ x ∈ L, Mb.w x)
    (hb : w.heap[gb]? = some (.cells (mcp y).toArray 83 (0, 0))) (hgb : gb ≠ g) (hi : L[i]? = some y) (hone : ∀ j x, j ≠ i → L[j]? = some x → x.1 ≠ y.1) :
    Calls Try.prog 40 #[.slice (some ⟨g, 0, none⟩) L.length c, .func (.func 41) #[] #[.pointer (some ⟨gb, 0, none⟩)]] w fun e w' => e = .returned (.slice (some ⟨g, 0, none⟩) (L.length - 1 : Nat) c) ∧ Fr [g] w w' ∧ w'.ownsRow B 83 11 (.slice (some ⟨g, 0, none⟩) (L.length - 1) c) (L.length - 1) (flatM (L.eraseIdx i)) := by
  have C := idx53_any h hn hw hb hi (fun j x hj hx => hone j x (by omega) hx)
  have eg : ∀ args w, (callFunc 41 args).run Try.prog w = .ok (.enter 41 args) w := enters_of Try.func41 (by kernel_rfl) rfl
  have hiL := (List.getElem?_eq_some_iff.1 hi).1
  have HO : Hid (w.ownsRow B 83 11 (.slice (some ⟨g, 0, none⟩) L.length c) L.length (flatM L)) := h
  have HW : Hid (∀ x ∈ L, Mb.w x) := hw
  have HB : Hid (w.heap[gb]? = some (.cells (mcp y).toArray 83 (0, 0))) := hb
  have HI : Hid (L[i]? = some y) := hi
  have HL : Hid (∀ j x, j ≠ i → L[j]? = some x → x.1 ≠ y.1) := hone
  have HG : Hid (gb ≠ g) := hgb
  have hin : ((i : Int) == -1) = false := beq_eq_false_iff_ne.2 (by omega)
  clear h hw hb hi hone hgb
  go_enter Try.func40, Try.ntmps40
  go_upto_region 1 with fail
  go_upto_region 2 with (go_at_call 53; refine C.mono ?_; rintro e w1 ⟨rfl, f0⟩)
  have HS : Hid (w1.ownsRow B 83 11 (.slice (some ⟨g, 0, none⟩) L.length c) L.length (flatM (mov L i i)) ∧ Fr [g] w w1) := ⟨by rw [mov_start hiL]; exact own_fr HO.out f0 (by simp), f0.sub (by simp)⟩
  clear C f0
  go_wp2
  go_loopw [5, 6] (fun k l wr => ∃ p : Nat, i ≤ p ∧ p + 1 ≤ L.length ∧ k = .int .i64 p ∧ l = .int .i64 ((p : Int) + 1) ∧ Hid (wr.ownsRow B 83 11 (.slice (some ⟨g, 0, none⟩) L.length c) L.length (flatM (mov L i p)) ∧ Fr [g] w wr)) (fun k _ _ => L.length - (intOf k).toNat)
  case atStart => exact ⟨i, Nat.le_refl _, hiL, rfl, by go_num, HS⟩
  case round =>
    obtain ⟨p, hip, hpL, rfl, rfl, I⟩ := hrel
    have hpI : (p : Int) + 1 ≤ L.length := by omega
    by_cases hlt : p + 1 < L.length
    · have hltI : (p : Int) + 1 < L.length := by omega
      obtain ⟨x, hx⟩ : ∃ x, L[p + 1]? = some x := ⟨_, List.getElem?_eq_getElem hlt⟩
      have hml := mov_len hiL (show p < L.length by omega)
      have hrow : wr.ownsRow B 83 11 (.slice (some ⟨g, 0, none⟩) (mov L i p).length c) (mov L i p).length (flatM (mov L i p)) := by rw [hml]; exact I.out.1
      have rx := rowM_at hrow ((mov_at hiL hlt).trans hx)
      have fA : Fr [] wr (wr.alloc (.cells #[.int .i64 0, .int .i64 0, .int .i64 0, .int .i64 0, .int .i64 0, .int .i64 0, .int .i64 0, .int .i64 0, .int .i64 0, .int .i64 0, .int .i64 0] 83)) := (Fr.refl _ _).alloc _
      have bA := heap_alloc_new wr (.cells #[.int .i64 0, .int .i64 0, .int .i64 0, .int .i64 0, .int .i64 0, .int .i64 0, .int .i64 0, .int .i64 0, .int .i64 0, .int .i64 0, .int .i64 0] 83)
      have fB : Fr [] wr ((wr.alloc (.cells #[.int .i64 0, .int .i64 0, .int .i64 0, .int .i64 0, .int .i64 0, .int .i64 0, .int .i64 0, .int .i64 0, .int .i64 0, .int .i64 0, .int .i64 0] 83)).setRow wr.heap.size (mcp x).toArray) := fA.setRow (.inr (Nat.le_refl _)) _
      have bB := setRow_heap _ wr.heap.size _ (mcp x).toArray _ _ bA
      have hgl : g < wr.heap.size := by obtain ⟨_, cur, hg⟩ := own_block hrow; exact (Array.getElem?_eq_some_iff.1 hg).1
      have RX : Hid (wr.rangeAt g ((p + 1) * 11) (mcp x)) := rx
      have HA : Hid ((wr.alloc (.cells #[.int .i64 0, .int .i64 0, .int .i64 0, .int .i64 0, .int .i64 0, .int .i64 0, .int .i64 0, .int .i64 0, .int .i64 0, .int .i64 0, .int .i64 0] 83)).heap[wr.heap.size]? = some _) := bA
      have hone11 : Hid ((mcp x).toArray.all (·.oneCell') = true) := mcp_all x
      have hsz : Hid ((Try.prog.info? 83).map (·.size) = some (mcp x).toArray.size) := by show _ = _; rw [List.size_toArray, mcp_len]; exact info83
      have hold : Hid ((#[.int .i64 0, .int .i64 0, .int .i64 0, .int .i64 0, .int .i64 0, .int .i64 0, .int .i64 0, .int .i64 0, .int .i64 0, .int .i64 0, .int .i64 0] : Array Value).size = (mcp x).toArray.size) := by show 11 = _; rw [List.size_toArray, mcp_len]
      have hcast : ((p : Int) + 1) = ((p + 1 : Nat) : Int) := by omega
      have HB2 : Hid (((wr.alloc (.cells #[.int .i64 0, .int .i64 0, .int .i64 0, .int .i64 0, .int .i64 0, .int .i64 0, .int .i64 0, .int .i64 0, .int .i64 0, .int .i64 0, .int .i64 0] 83)).setRow wr.heap.size (mcp x).toArray).rangeAt wr.heap.size 0 (mcp x)) := range_block bB
      have HF : Hid (Fr [] wr ((wr.alloc (.cells #[.int .i64 0, .int .i64 0, .int .i64 0, .int .i64 0, .int .i64 0, .int .i64 0, .int .i64 0, .int .i64 0, .int .i64 0, .int .i64 0, .int .i64 0] 83)).setRow wr.heap.size (mcp x).toArray)) := fB
      have HR : Hid (wr.ownsRow B 83 11 (.slice (some ⟨g, 0, none⟩) (mov L i p).length c) (mov L i p).length (flatM (mov L i p))) := hrow
      have HX : Hid (L[p + 1]? = some x) := hx
      have HM : Hid ((mov L i p).length = L.length) := hml
      have HGL : Hid (g < wr.heap.size) := hgl
      clear hml hrow rx fA bA fB bB hx hgl hcast
      go_upto_region 7 with fail
      go_upto_region 8 with (first
        | refine wpList_ld83 rfl (.tmp 24) rfl g ((p + 1) * 11) (by first | rfl | (go_simp; done)) x RX.out ?_
        | refine wpList_store_row rfl 83 (.tmp 7) (.tmp 25) rfl wr.heap.size (mcp x).toArray rfl rfl 83 _ HA.out hsz.out hold.out hone11.out ?_)
      generalize (wr.alloc (.cells #[.int .i64 0, .int .i64 0, .int .i64 0, .int .i64 0, .int .i64 0, .int .i64 0, .int .i64 0, .int .i64 0, .int .i64 0, .int .i64 0, .int .i64 0] 83)).setRow wr.heap.size (mcp x).toArray = V at *
      have hne := HL.out (p + 1) x (by omega) HX.out
      have C := clo41 (W := V) x y (HW.out x (List.mem_of_getElem? HX.out)) (HW.out y (List.mem_of_getElem? HI.out)) ((HF.out.block gb (by have h1 := (Array.getElem?_eq_some_iff.1 HB.out).1; have h2 := I.out.2.size; omega) (by simp)).trans ((I.out.2.block _ (Array.getElem?_eq_some_iff.1 HB.out).1 (by simpa using HG.out)).trans HB.out))
      have e : decide (x.1 = y.1 ∧ x.2 = y.2) = false := by simp [hne]
      rw [e] at C
      clear e hne HA hold hsz hone11 RX
      go_upto_region 9 with (first
        | refine wpList_ld83 rfl (.tmp 7) rfl wr.heap.size 0 rfl x HB2.out ?_
        | (go_at_fn 41; refine C.mono ?_; rintro e w2 ⟨rfl, f2⟩))
      have HF2 : Hid (Fr [] wr w2) := HF.out.trans f2
      have HB3 : Hid (w2.rangeAt wr.heap.size 0 (mcp x)) := range_fr HB2.out f2
      have hrow2 := own_fr HR.out HF2.out (by simp)
      have hml := HM.out
      have ht : Hid (w2.there g (p * 11) (mcp x).toArray.size) := by
        intro j hj
        rw [List.size_toArray, mcp_len] at hj
        have hjl : p * 11 + j < (flatM (mov L i p)).length := by rw [flatM_len, hml]; omega
        obtain ⟨g', c', e1, hc, hz, _⟩ := own_cells hrow2 (List.getElem?_eq_getElem hjl)
        cases e1
        exact ⟨by rw [hc]; rfl, hz _⟩
      have hone11 : Hid ((mcp x).toArray.all (·.oneCell') = true) := mcp_all x
      have hsz : Hid ((Try.prog.info? 83).map (·.size) = some (mcp x).toArray.size) := by show _ = _; rw [List.size_toArray, mcp_len]; exact info83
      have HN : Hid ((w2.setCells g (p * 11) (mcp x)).ownsRow B 83 11 (.slice (some ⟨g, 0, none⟩) L.length c) L.length (flatM (mov L i (p + 1))) ∧ Fr [g] w (w2.setCells g (p * 11) (mcp x))) := by
        have h1 := own_sets (mcp x) (p * 11) hrow2 (by rw [mcp_len, hml]; omega)
        have h2 : setL (flatM (mov L i p)) (p * 11) (mcp x) = flatM ((mov L i p).set p x) := flat_sets mcp_len (by omega) (by rw [hml]; omega) x
        rw [h2, mov_next hip HX.out, hml] at h1
        refine ⟨h1, ?_⟩
        exact Fr.setCells _ _ (I.out.2.trans (HF2.out.sub (by simp))) (.inl (by simp))
      clear hrow2 hml f2 C
      have hip2 : Hid (i ≤ p + 1) := by show i ≤ p + 1; omega
      have hp0 : (p : Int) < L.length := by omega
      clear hltI hpI
      have hst := run_storeCells_cells (P := Try.prog) g (p * 11) (mcp x) 0 w2 (fun j hj => by simpa using (ht.out j (by simpa using hj)).1) (fun j hj => by simpa using (ht.out j (by simpa using hj)).2) (mcp_one x)
      rw [Nat.add_zero] at hst
      go_upto_region 10 with (refine wpList_ld83 rfl (.tmp 7) rfl wr.heap.size 0 rfl x HB3.out ?_)
      generalize w2.setCells g (p * 11) (mcp x) = w9 at *
      clear hst HB2 HF HR HM HGL HF2 HB3 ht hone11 hsz
      go_wp2
      go_roundw
      case rel => exact ⟨p + 1, hip2.out, by omega, by go_num, by go_num, HN⟩
      case measure => simp [intOf]; omega
    · have hpe : Hid (p = L.length - 1) := by show p = L.length - 1; omega
      have hnl : ¬ (p : Int) + 1 < L.length := by omega
      have hp0 : (p : Int) ≤ L.length := by omega
      have hrow := I.out.1
      have hml := mov_len hiL (show p < L.length by omega)
      have hcc : L.length ≤ c := by
        rcases hrow.2 with ⟨e1, _⟩ | ⟨_, _, _, e1, _, _, hn, _⟩
        · cases e1
        · cases e1; exact hn
      have hcl : ∀ ty, (Builtin.clear_ #[61] ty #[.slice (some ⟨g, p * 11, none⟩) (L.length - p) (c - p)]).run Try.prog wr = .ok (.tuple #[]) (wr.setCells g (p * 11) (List.replicate 11 (.int .i64 0))) := fun ty => by
        rw [show L.length - p = 1 by omega]
        have hcell : ∀ j, j < 11 → ∃ u, wr.cell? ⟨g, p * 11 + j, none⟩ = some u ∧ wr.frozen? ⟨g, p * 11 + j, none⟩ = false := fun j hj => by
          have hjl : p * 11 + j < (flatM (mov L i p)).length := by rw [flatM_len, hml]; omega
          obtain ⟨g', c', e1, hc, hz, _⟩ := own_cells hrow (List.getElem?_eq_getElem hjl)
          cases e1
          exact ⟨_, hc, hz _⟩
        exact run_clear1 wr ty g (p * 11) (c - p) (fun j hj => by obtain ⟨u, h1, _⟩ := hcell j hj; rw [h1]; rfl) (fun j hj => by obtain ⟨u, _, h2⟩ := hcell j hj; exact h2)
      have HN : Hid (Fr [g] w (wr.setCells g (p * 11) (List.replicate 11 (.int .i64 0))) ∧ (wr.setCells g (p * 11) (List.replicate 11 (.int .i64 0))).ownsRow B 83 11 (.slice (some ⟨g, 0, none⟩) (L.length - 1) c) (L.length - 1) (flatM (L.eraseIdx i))) := by
        have hpn : p * 11 = (L.length - 1) * 11 := by rw [hpe.out]
        have h1 := own_sets (List.replicate 11 (.int .i64 0)) (p * 11) hrow (by rw [List.length_replicate]; omega)
        have h0 := own_cut h1 (show L.length - 1 ≤ L.length by omega)
        rw [← hpn, setL_take _ _ _ (by rw [flatM_len, hml, List.length_replicate]; omega), hpn, flatM_take _ _ (by rw [hml]; omega), hpe.out, mov_end hiL] at h0
        exact ⟨Fr.setCells _ _ I.out.2 (.inl (by simp)), by rw [hpe.out]; exact h0⟩
      have hpc : (p : Int) ≤ c := by omega
      have hpn : ¬ (c = p) := by omega
      have hLc : (L.length : Int) ≤ c := by omega
      clear hrow hml hcc
      go_wp2
      go_ret
      exact ⟨by have := hpe.out; simp only [this]; first | rfl | simp, HN.out⟩
end Go.Proofs.Ytnhjplfdfbbihaa
