/-
  Texts of the proof, in their order: IsoD, IsoE; conditions: as each says.
-/
import Derived.Maps.AppendAt
import Derived.Test.YtefkcmeeagflmaaDoorMgBCCJ
namespace Go.Proofs.YtefkcmeeagflmaaDoor
open Go.RowKit Go.Shelf

theorem under106 : Tryd.prog.underlying 106 = some (.slice 60) := by kernel_rfl
theorem info60 : (Tryd.prog.info? 60).map (fun i => (i.zero, i.size, i.bytes)) = some (some (.slice none 0 0), 1, 24) := by kernel_rfl

theorem Stk.lt {tb ts : Nat} {ok : List Value → Prop} {W : World} {B bx : Nat} {sv : Value} {L : List Seg} (h : Stk tb ts ok W B bx sv L) (hok : ∀ x, ok x → x ≠ []) : ∀ s, s ∈ L → s.g < W.heap.size := by
  intro s hs
  have hf := h.full s hs
  cases hx : s.xs with
  | nil => exact absurd hx hf.1
  | cons x r =>
    have hx1 := hok x (hf.2.2 x (by rw [hx]; simp))
    cases x with
    | nil => exact absurd rfl hx1
    | cons u x' => exact World.block_lt_of_cell? W _ (h.lies s hs 0 u (by rw [hx]; simp))

theorem okP_ne (x : List Value) (h : okP x) : x ≠ [] := by obtain ⟨a, b, c, d, rfl, _⟩ := h; simp
theorem okV_ne (x : List Value) (h : okV x) : x ≠ [] := by obtain ⟨a, b, rfl, _⟩ := h; simp

/-- A list more waits. -/
theorem Stk.push {tb ts : Nat} {ok : List Value → Prop} {W W1 : World} {B bx : Nat} {sv v1 : Value} {L : List Seg} (ht : tb ≠ ts) (hok : ∀ x, ok x → x ≠ []) (h : Stk tb ts ok W B bx sv L) (o : Obj) (s : Seg)
    (hl : ∀ j u, s.xs.flatten[j]? = some u → W.cell? ⟨s.g, s.o + j, none⟩ = some u) (hf : s.xs ≠ [] ∧ s.xs.length ≤ s.c ∧ ∀ x, x ∈ s.xs → ok x) (hoff : s.g ≠ bx ∧ sv.ownBlock ≠ some s.g ∧ s.g < W.heap.size)
    (hg1 : (W.alloc o).grownBy W1 sv.ownBlock) (ho1 : W1.ownsRow B ts 1 v1 (L.length + 1) (L.map Seg.val ++ [s.val])) (hk1 : ∀ k, v1.ownBlock = some k → sv.ownBlock = some k ∨ (W.alloc o).heap.size ≤ k) :
    Stk tb ts ok (W1.setCell ⟨bx, 0, none⟩ v1) B bx v1 (L ++ [s]) ∧ Fr (bx :: sv.ownBlock.toList) W (W1.setCell ⟨bx, 0, none⟩ v1) := by
  have f1 : Fr sv.ownBlock.toList W W1 := ((Fr.refl _ _).alloc o).trans ((Fr.ofGrown hg1).sub (fun k hk => .inl hk))
  have hb1 : W1.heap[bx]? = some (.cells #[sv] tb (0, 0)) := (f1.block bx (Array.getElem?_eq_some_iff.1 h.box).1 (by simp only [Option.mem_toList]; exact h.ne ht)).trans h.box
  have hbs := (Array.getElem?_eq_some_iff.1 h.box).1
  have f2 : Fr [bx] W1 (W1.setCell ⟨bx, 0, none⟩ v1) := Fr.setCell (Fr.refl _ _) (.inl (by simp)) _
  have hall : ∀ t, t ∈ L ++ [s] → t.g ≠ bx ∧ sv.ownBlock ≠ some t.g ∧ t.g < W.heap.size := by
    intro t htm
    rcases List.mem_append.1 htm with h1 | h1
    · exact ⟨(h.off t h1).1, (h.off t h1).2, h.lt hok t h1⟩
    · simp at h1; subst h1; exact hoff
  refine ⟨⟨?_, ?_, fun t htm j u hu => ?_, fun t htm => ?_, fun t htm => ⟨(hall t htm).1, fun e => ?_⟩, h.base⟩, ?_⟩
  · simp [World.setCell, Array.getElem?_modify, hb1]
  · have e1 : (L ++ [s]).length = L.length + 1 := by simp
    have e2 : (L ++ [s]).map Seg.val = L.map Seg.val ++ [s.val] := by simp
    rw [e1, e2]
    refine own_fr ho1 f2 (fun k hk => ?_)
    simp only [List.mem_singleton]
    intro e
    subst e
    rcases hk1 k hk with e | e
    · exact h.ne ht e
    · simp at e; omega
  · have ha := hall t htm
    refine f2.cell1 (f1.cell1 ?_ (by simp only [Option.mem_toList]; exact ha.2.1)) (by simpa using ha.1)
    rcases List.mem_append.1 htm with h1 | h1
    · exact h.lies t h1 j u hu
    · simp at h1; subst h1; exact hl j u hu
  · rcases List.mem_append.1 htm with h1 | h1
    · exact h.full t h1
    · simp at h1; subst h1; exact hf
  · have ha := hall t htm
    rcases hk1 _ e with e' | e'
    · exact ha.2.1 e'
    · simp at e'; omega
  · exact (f1.sub (fun k hk => .inl (by simp at hk; simp [hk]))).trans (f2.sub (fun k hk => .inl (by simp at hk; simp [hk])))

set_option maxRecDepth 100000 in
set_option maxHeartbeats 1000000 in
theorem add4 {W : World} {B bx : Nat} {sv : Value} {L : List Seg} (h : Stk 106 60 okP W B bx sv L) (s : Seg)
    (hl : ∀ j u, s.xs.flatten[j]? = some u → W.cell? ⟨s.g, s.o + j, none⟩ = some u) (hf : s.xs ≠ [] ∧ s.xs.length ≤ s.c ∧ ∀ x, x ∈ s.xs → okP x) (hoff : s.g ≠ bx ∧ sv.ownBlock ≠ some s.g ∧ s.g < W.heap.size) (hL : L.length ≤ 1000000000000) :
    Calls Tryd.prog 43 #[s.val, .pointer (some ⟨bx, 0, none⟩)] W fun e W' => e = .returned (.tuple #[]) ∧ ∃ sv', Stk 106 60 okP W' B bx sv' (L ++ [s]) ∧ Fr (bx :: sv.ownBlock.toList) W W' := by
  obtain ⟨i, hi, hz, hs, hby⟩ := info_parts info60
  have cb : W.cell? ⟨bx, 0, none⟩ = some sv := by have := h.box; simp [World.cell?, this]
  have hbs := (Array.getElem?_eq_some_iff.1 h.box).1
  have hbB := h.base
  have hP := fun o v1 W1 => Stk.push (W1 := W1) (v1 := v1) (by decide) okP_ne h o s hl hf hoff
  have hln : (0 : Int) < (s.xs.length : Int) := by
    have := hf.1
    cases hx : s.xs with
    | nil => exact absurd hx this
    | cons x r => simp
  have hrow := h.row
  have hL' : L.length + 1 ≤ maxLen := by have : maxLen = 9223372036854775807 := rfl; omega
  show Calls Tryd.prog 43 #[.slice (some ⟨s.g, s.o, none⟩) s.xs.length s.c, .pointer (some ⟨bx, 0, none⟩)] W _
  go_enter Tryd.func43, Tryd.ntmps43
  go_wp2_with (at_builtin; go_loud (refine wpList_append_fp _ rfl _ _ 106 rfl B 60 i (.slice none 0 0) 1 24 under106 hi hz hs hby rfl (by decide) sv L.length (L.map Seg.val) rfl ?own _ 1 _ [s.val] rfl rfl ?news ?one ?max (by omega) ?base ?_))
  case own => exact hrow.alloc _
  case news => exact cell_one_new W _ 60
  case one => simp [Value.oneCell', Seg.val]
  case max => exact hL'
  case base => simp; omega
  intro v1 w1 ho1 hg1 hk1
  obtain ⟨h1, h2⟩ := hP _ v1 w1 hg1 ho1 (by simpa using hk1)
  have f1 : Fr sv.ownBlock.toList W w1 := ((Fr.refl _ _).alloc _).trans ((Fr.ofGrown hg1).sub (fun k hk => .inl hk))
  have hb1 : w1.heap[bx]? = some (.cells #[sv] 106 (0, 0)) := (f1.block bx hbs (by simp only [Option.mem_toList]; exact h.ne (by decide))).trans h.box
  have cb1 : w1.cell? ⟨bx, 0, none⟩ = some sv := by simp [World.cell?, hb1]
  have fb1 : w1.frozen? ⟨bx, 0, none⟩ = false := by simp [World.frozen?, hb1]
  obtain ⟨g, c, hv⟩ : ∃ g c, v1 = .slice (some ⟨g, 0, none⟩) (L.length + 1) c := by
    rcases ho1.2 with ⟨_, e⟩ | ⟨g, cap, cur, e, _⟩
    · omega
    · exact ⟨g, cap, e⟩
  subst hv
  clear hP hg1 ho1 hk1
  go_wp2
  go_end0
  exact ⟨rfl, _, h1, h2⟩

theorem add4_none (W : World) (a : Option Addr) (c bx : Nat) :
    Calls Tryd.prog 43 #[.slice a 0 c, .pointer (some ⟨bx, 0, none⟩)] W fun e W' => e = .returned (.tuple #[]) ∧ W' = W := by
  go_enter Tryd.func43, Tryd.ntmps43
  go_wp2
  go_end0
  exact ⟨rfl, rfl⟩

theorem waiting4 (W : World) (B : Nat) (hB : B ≤ W.heap.size) :
    Calls Tryd.prog 24 #[] W fun e W' => e = .returned (.tuple #[.func (.func 43) #[] #[.pointer (some ⟨W.heap.size, 0, none⟩)], .func (.func 44) #[] #[.pointer (some ⟨W.heap.size, 0, none⟩)]]) ∧
      W' = W.alloc (.cells #[.slice none 0 0] 106) ∧ Stk 106 60 okP W' B W.heap.size (.slice none 0 0) [] := by
  go_enter Tryd.func24, Tryd.ntmps24
  go_wp2
  refine bodyPost_ret (v := .tuple #[.func (.func 43) #[] #[.pointer (some ⟨W.heap.size, 0, none⟩)], .func (.func 44) #[] #[.pointer (some ⟨W.heap.size, 0, none⟩)]]) (by simp [results, Tryd.results24, go_sem]) rfl ?_
  exact ⟨rfl, rfl, heap_alloc_new W _, World.ownsRow_nil _ _ _ _, by simp, by simp, by simp, hB⟩
end Go.Proofs.YtefkcmeeagflmaaDoor
namespace Go.Proofs.YtefkcmeeagflmaaDoor
open Go.RowKit Go.Shelf

theorem under60 : Tryd.prog.underlying 60 = some (.slice 59) := by kernel_rfl
theorem info59 : (Tryd.prog.info? 59).map (fun i => (i.zero, i.size, i.bytes)) = some (some (.agg #[.int .i64 0, .int .i64 0, .int .i64 0, .int .i64 0]), 4, 32) := by kernel_rfl

/-- A pair's cells. -/
def pc (p q : Int × Int) : List Value := [.int .i64 p.1, .int .i64 p.2, .int .i64 q.1, .int .i64 q.2]

/-- The pairs of two lists. -/
def zipP : List (Int × Int) → List (Int × Int) → List (List Value)
  | p :: x, q :: y => pc p q :: zipP x y
  | _, _ => []

theorem zipP_length : ∀ (x y : List (Int × Int)), x.length = y.length → (zipP x y).length = x.length
  | [], _, _ => by simp [zipP]
  | p :: x, [], h => by simp at h
  | p :: x, q :: y, h => by simp [zipP, zipP_length x y (by simpa using h)]

theorem zipP_ok : ∀ (x y : List (Int × Int)), (∀ c, c ∈ x → (Lit.int .i64 c.2).wf = true) → (∀ c, c ∈ y → (Lit.int .i64 c.2).wf = true) → ∀ z : List Value, z ∈ zipP x y → okP z
  | [], _, _, _, z, h => by simp [zipP] at h
  | p :: x, [], _, _, z, h => by simp [zipP] at h
  | p :: x, q :: y, hx, hy, z, h => by
      simp only [zipP, List.mem_cons] at h
      rcases h with rfl | h
      · exact ⟨_, _, _, _, rfl, hx p (by simp), hy q (by simp)⟩
      · exact zipP_ok x y (fun c hc => hx c (by simp [hc])) (fun c hc => hy c (by simp [hc])) z h

theorem zipP_snoc : ∀ (x y : List (Int × Int)) (p q : Int × Int), x.length = y.length → zipP (x ++ [p]) (y ++ [q]) = zipP x y ++ [pc p q]
  | [], [], p, q, _ => by simp [zipP]
  | [], q' :: y, p, q, h => by simp at h
  | p' :: x, [], p, q, h => by simp at h
  | p' :: x, q' :: y, p, q, h => by simp [zipP, zipP_snoc x y p q (by simpa using h)]

theorem zipP_take {x y : List (Int × Int)} {k : Nat} {p q : Int × Int} (hx : x[k]? = some p) (hy : y[k]? = some q) : zipP (x.take (k + 1)) (y.take (k + 1)) = zipP (x.take k) (y.take k) ++ [pc p q] := by
  have h1 := (List.getElem?_eq_some_iff.1 hx).1
  have h2 := (List.getElem?_eq_some_iff.1 hy).1
  rw [List.take_add_one, List.take_add_one, hx, hy]
  exact zipP_snoc _ _ _ _ (by simp; omega)

theorem cell_four_new (w : World) (a b c d : Value) (t : TypeId) : ∀ j u, [a, b, c, d][j]? = some u → (w.alloc (.cells #[a, b, c, d] t)).cell? ((⟨w.heap.size, 0, none⟩ : Addr).add j) = some u := by
  intro j u hj
  match j, hj with
  | 0, hj => simp at hj; subst hj; simp [Addr.add]
  | 1, hj => simp at hj; subst hj; simp [Addr.add]
  | 2, hj => simp at hj; subst hj; simp [Addr.add]
  | 3, hj => simp at hj; subst hj; simp [Addr.add]
  | j + 4, hj => simp at hj

theorem Lies.at {w : World} {a : Option Addr} {xs : List (Int × Int)} (h : Lies w a xs) {j : Nat} {x : Int × Int} (hx : xs[j]? = some x) : ∃ g o, a = some ⟨g, o, none⟩ ∧ w.cell? ⟨g, o + j * 2, none⟩ = some (.int .i64 x.1) ∧ w.cell? ⟨g, o + j * 2 + 1, none⟩ = some (.int .i64 x.2) := by
  have hj : j < xs.length := (List.getElem?_eq_some_iff.1 hx).1
  obtain ⟨⟨g, o, spot⟩, e, hc⟩ := h (by omega)
  have h1 := flat_at xs j x hx
  have e0 := hc _ _ h1.1
  have e1 := hc _ _ h1.2
  have hspot : spot = none := by
    obtain ⟨y, hy⟩ : ∃ y, xs[0]? = some y := ⟨xs[0], List.getElem?_eq_getElem (by omega)⟩
    simpa [Addr.add] using World.cell?_spot (hc 0 _ (flat_at xs 0 y hy).1)
  subst hspot
  refine ⟨g, o, e, ?_, ?_⟩
  · rw [← Go.WideShapes.add_plain]; exact e0
  · rw [Nat.add_assoc, ← Go.WideShapes.add_plain]; exact e1

set_option maxRecDepth 100000 in
set_option maxHeartbeats 1000000 in
theorem pairs_any (W : World) (xs ys : List (Int × Int)) (n : Nat) (hxn : xs.length = n) (hyn : ys.length = n) (a1 a2 : Option Addr) (c1 c2 : Nat) (h1 : Lies W a1 xs) (h2 : Lies W a2 ys) (hn : (n : Int) ≤ 1000000) :
    Calls Tryd.prog 25 #[.slice a1 n c1, .slice a2 n c2] W fun e W' => ∃ v, e = .returned v ∧ Fr [] W W' ∧ W'.ownsRow W.heap.size 59 4 v n (zipP xs ys).flatten := by
  obtain ⟨i, hi, hz, hs, hby⟩ := info_parts info59
  have HX : Hid (xs.length = n) := hxn
  have HY : Hid (ys.length = n) := hyn
  clear hxn hyn
  obtain ⟨w1, hmk, ho1, hg1⟩ := run_makeSlice_owned (P := Tryd.prog) (w := W) W.heap.size 60 59 i _ 4 under60 hi hz hs .i64 .i64 n (by omega) (by rw [hby]; omega) (by have : maxLen = 9223372036854775807 := rfl; omega) (Nat.le_refl _)
  have f1 : Fr [] W w1 := Fr.ofGrown hg1
  go_enter Tryd.func25, Tryd.ntmps25
  go_wp2
  go_loopw [13, 5] (fun i l wr => ∃ k : Nat, k ≤ n ∧ i = .int .i64 k ∧ Fr [] W wr ∧ wr.ownsRow W.heap.size 59 4 l k (zipP (xs.take k) (ys.take k)).flatten) (fun i _ _ => n - (intOf i).toNat)
  case atStart => exact ⟨0, Nat.zero_le _, rfl, f1, by simpa [zipP] using ho1⟩
  case round =>
    obtain ⟨k, hk, rfl, fw, ho⟩ := hrel
    by_cases hlt : k < n
    · have hx : xs[k]? = some (xs[k]'(by rw [HX.out]; exact hlt)) := List.getElem?_eq_getElem _
      have hy : ys[k]? = some (ys[k]'(by rw [HY.out]; exact hlt)) := List.getElem?_eq_getElem _
      have HZ : Hid (zipP (xs.take (k + 1)) (ys.take (k + 1)) = zipP (xs.take k) (ys.take k) ++ [pc (xs[k]'(by rw [HX.out]; exact hlt)) (ys[k]'(by rw [HY.out]; exact hlt))]) := zipP_take hx hy
      obtain ⟨g1, o1, e1, p0, p1⟩ := (h1.fr fw (by simp)).at hx
      obtain ⟨g2, o2, e2, r0, r1⟩ := (h2.fr fw (by simp)).at hy
      generalize xs[k]'(by rw [HX.out]; exact hlt) = p at *
      generalize ys[k]'(by rw [HY.out]; exact hlt) = q at *
      obtain ⟨la, lc, rfl, _⟩ := own_slice ho
      subst e1 e2
      have hkn : (k : Int) < (n : Int) := by omega
      have f2 : Fr [] wr (wr.alloc (.cells #[.int .i64 p.1, .int .i64 p.2] 45)) := (Fr.refl _ _).alloc _
      have ho2 : (wr.alloc (.cells #[.int .i64 p.1, .int .i64 p.2] 45)).ownsRow W.heap.size 59 4 (.slice la k lc) k (zipP (xs.take k) (ys.take k)).flatten := ho.alloc _
      have hb2 : (wr.alloc (.cells #[.int .i64 p.1, .int .i64 p.2] 45)).heap[wr.heap.size]? = some (.cells #[.int .i64 p.1, .int .i64 p.2] 45) := heap_alloc_new wr _
      have hsz : W.heap.size ≤ wr.heap.size := fw.size
      have r0' := f2.cell1 r0 (by simp)
      have r1' := f2.cell1 r1 (by simp)
      go_wp2
      generalize wr.alloc (.cells #[.int .i64 p.1, .int .i64 p.2] 45) = w2 at *
      generalize wr.heap.size = kb at *
      have b0 : w2.cell? ⟨kb, 0, none⟩ = some (.int .i64 p.1) := by simp [World.cell?, hb2]
      have b1 : w2.cell? ⟨kb, 1, none⟩ = some (.int .i64 p.2) := by simp [World.cell?, hb2]
      have F2 := fw.trans f2
      have hBs : W.heap.size ≤ w2.heap.size := F2.size
      have hmx : k + 1 ≤ maxLen := by have : maxLen = 9223372036854775807 := rfl; omega
      clear p0 p1 r0 r1 ho hmk ho1 hg1 hb2
      go_region_law (first
        | (refine step_append_src rfl (.tmp 18) (.tmp 25) 60 rfl W.heap.size 59 i _ 4 32 under60 hi hz hs hby rfl (by decide) (.slice la k lc) k (zipP (xs.take k) (ys.take k)).flatten rfl (ho2.alloc _) (some ⟨w2.heap.size, 0, none⟩) 1 1 (pc p q) rfl rfl (by simp) (fun ad had => by cases had; exact cell_four_new w2 _ _ _ _ _) (by simp [Value.oneCell', pc]) hmx (by omega) (by simp; omega) ?_; intro v3 w3 ho3 hg3 hk3; obtain ⟨a3, c3, rfl, _⟩ := own_slice ho3))
      all_goals
        have F3 : Fr (Value.slice la k lc).ownBlock.toList W w3 := by
          have G := Fr.ofGrown hg3
          exact Fr.trans (Fr.sub (S := []) (by first | exact (F2.drew).alloc _ | exact (F2.alloc _).drew) (by simp)) G
        have f3 : Fr [] W w3 := F3.sub (fun j hj => .inr (by simp only [Option.mem_toList] at hj; exact (ho2.lt j hj).1))
        go_wp2
        go_roundw
        case rel => exact ⟨k + 1, by omega, by go_num, f3, by rw [HZ.out]; simpa using ho3⟩
        case measure => simp [intOf]; omega
    · have hkl : k = n := by omega
      rw [List.take_of_length_le (by have := HX.out; omega), List.take_of_length_le (by have := HY.out; omega), hkl] at ho
      obtain ⟨la, lc, rfl, _⟩ := own_slice ho
      go_wp2
      go_ret
      exact ⟨_, rfl, fw, ho⟩
end Go.Proofs.YtefkcmeeagflmaaDoor
