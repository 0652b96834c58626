/-
  HeapActs returns true and writes to nothing that was there, told of values and worlds; conditions: the calls of its list and their lists can be read, and are not too many.
-/
import Derived.Test.YtndjoklinccfjaaActsK
import Derived.Test.YtndjoklinccfjaaActsL
namespace Go.Proofs.Ytndjoklinccfjaa
open Go.RowKit

theorem JI.new (w : World) (B : Nat) (l : Int) (hB : B ≤ w.heap.size) : JI ((w.alloc (.cells #[.bool true, .int .i64 (cap0 l), .int .i64 0, .slice none 0 0, .int .i64 0, .int .i64 0] 61)).alloc (.cells #[.slice none 0 0, .int .i64 (cap0 l), .int .i64 0, .int .i64 0, .int .i64 0] 38)) B w.heap.size (w.heap.size + 1) (cap0 l) 0 0 0 (.slice none 0 0) (.slice none 0 0) [] [] := by
  have h := cap0_le l
  refine ⟨Rep.frame (S := []) (w := w.alloc (.cells #[.bool true, .int .i64 (cap0 l), .int .i64 0, .slice none 0 0, .int .i64 0, .int .i64 0] 61)) ⟨heap_alloc_new w _, World.ownsRow_nil _ _ _ _, fun _ ht => by simp at ht, by simp, hB, fun _ ht => by simp at ht⟩ ((Fr.refl _ _).alloc _) (by simp),
    ⟨blk2 w _ _, World.ownsRow_nil _ _ _ _, fun _ ht => by simp at ht, List.Pairwise.nil, by omega⟩, rfl, fun _ ht => by simp at ht, fun _ ht => by simp at ht, h.1, Int.le_refl _, h.1, h.2⟩

theorem JJ.frame {w w' : World} {B b r : Nat} {lim : Int} {N : Nat} (H : JJ w B b r lim N) (f : Fr [] w w') : JJ w' B b r lim N := by
  obtain ⟨used, rk, rn, sv, sr, T, U, J, hb, hT⟩ := H
  exact ⟨used, rk, rn, sv, sr, T, U, J.frame f (by simp), hb, hT⟩

theorem add_block (a : Addr) (n : Nat) : (a.add n).block = a.block := by simp only [Addr.add]; split <;> rfl

/-- Where a thing's cells lie in the reference's heap. -/
theorem ref_lies {w : World} {B r : Nat} {lim used rk rn : Int} {sr : Value} {U : List RT} (Q : RRep w B r lim used sr rk rn U) {u : RT} (hmu : u ∈ U) {ar : Option Addr} {cu : Nat} (hsl : u.sl = .slice ar u.cells.length cu) : Lies w ar u.cells := by
  have h1 := Q.th u hmu
  intro hp
  obtain ⟨x, hx⟩ : ∃ x, u.cells[0]? = some x := ⟨_, List.getElem?_eq_getElem hp⟩
  obtain ⟨g1, c2, e2, _, _, _, _⟩ := own_pair h1 hx
  rw [hsl] at e2
  injection e2 with e3 e4 e5
  subst e3
  have h2 := h1
  rw [hsl] at h2
  refine ⟨_, rfl, fun j v hv => ?_⟩
  obtain ⟨g2, c3, e6, h3, _, _⟩ := own_cells h2 hv
  injection e6 with e7 e8 e9
  injection e7 with e7
  injection e7 with e7
  subst e7
  rw [show Addr.add ⟨g1, 0, none⟩ j = ⟨g1, j, none⟩ by simp only [Addr.add]; split <;> simp_all]
  exact h3

set_option maxRecDepth 100000 in
set_option maxHeartbeats 4000000 in
theorem acts_any (l0 : Int) (L : List AR) (w : World) (a0 : Option Addr) (len cap : Nat) (hlen : L.length = len) (hL : ActsAt w.heap.size w a0 L) (ht : tot L ≤ 2000000) (hsrc : ∀ (i : Nat) (x : AR), L[i]? = some x → ∃ xs, Src w.heap.size w x.a x.m x.c xs) :
    Calls Try.prog 3 #[.int .i64 l0, .slice a0 len cap] w fun e w' => e = .returned (.bool true) ∧ Below w.heap.size w w' := by
  have HT : Hid (tot L ≤ 2000000) := ht
  have HN : Hid (L.length = len) := hlen
  have hlen2 : (len : Int) ≤ 2000000 := by have := tot_len L; omega
  clear ht hlen
  go_enter Try.func3, Try.ntmps3
  go_wp2_with fail
  refine (awake_any _).mono ?_
  rintro e w1 ⟨rfl, f1⟩
  have b1 : Below w.heap.size w w1 := f1.below (Nat.le_refl _) (by simp)
  have z1 := f1.size
  go_wp2_with fail
  refine (light_any L w1 a0 len cap w.heap.size z1 HN.out (hL.below b1) HT.out).mono ?_
  rintro e w2 ⟨v, rfl, hv, b2'⟩
  have b2 := b1.trans b2'
  have z2 : w.heap.size ≤ w2.heap.size := b2.size
  clear f1 b1 z1 b2'
  cases v with
  | false =>
    go_wp2
    go_ret
    exact ⟨rfl, b2⟩
  | true =>
    have hv' := hv rfl
    have HV : Hid (∀ (i : Nat) (x : AR), L[i]? = some x → x.m ≤ 500) := fun i x hx => by have := tot_at L i x hx; omega
    clear hv hv' HT
    go_wp2_with fail
    refine (new_any l0 _).mono ?_
    rintro e w3 ⟨rfl, rfl⟩
    go_wp2_with fail
    refine (RNew_any l0 _).mono ?_
    rintro e w4 ⟨rfl, rfl⟩
    have J4 := JI.new w2 w.heap.size l0 z2
    have b4 : Below w.heap.size w ((w2.alloc (.cells #[.bool true, .int .i64 (cap0 l0), .int .i64 0, .slice none 0 0, .int .i64 0, .int .i64 0] 61)).alloc (.cells #[.slice none 0 0, .int .i64 (cap0 l0), .int .i64 0, .int .i64 0, .int .i64 0] 38)) := (b2.alloc z2 _).alloc (by simp; omega) _
    have hsz : (w2.alloc (.cells #[.bool true, .int .i64 (cap0 l0), .int .i64 0, .slice none 0 0, .int .i64 0, .int .i64 0] 61)).heap.size = w2.heap.size + 1 := by simp
    rw [hsz]
    generalize (w2.alloc (.cells #[.bool true, .int .i64 (cap0 l0), .int .i64 0, .slice none 0 0, .int .i64 0, .int .i64 0] 61)).alloc (.cells #[.slice none 0 0, .int .i64 (cap0 l0), .int .i64 0, .int .i64 0, .int .i64 0] 38) = w4 at *
    generalize w2.heap.size + 1 = r at *
    generalize w2.heap.size = b at *
    generalize cap0 l0 = lim at *
    clear hsz b2
    go_wp2
    go_loopw [25] (fun i wr => ∃ k : Nat, k ≤ len ∧ i = .int .i64 k ∧ JJ wr w.heap.size b r lim k ∧ Below w.heap.size w wr) (fun i _ => len - (intOf i).toNat)
    case atStart => exact ⟨0, Nat.zero_le _, rfl, ⟨_, _, _, _, _, _, _, J4, by simp, by simp⟩, b4⟩
    case round =>
      obtain ⟨k, hk, rfl, JR, bw⟩ := hrel
      clear J4 b4
      by_cases hlt : k < len
      · have hx : L[k]? = some (L[k]'(by rw [HN.out]; exact hlt)) := List.getElem?_eq_getElem _
        obtain ⟨g, o, rfl, hg, hA0⟩ := hL k _ hx
        obtain ⟨xs, X0⟩ := hsrc k _ hx
        have hm := HV.out k _ hx
        have hA := hA0.below bw hg
        generalize L[k]'(by rw [HN.out]; exact hlt) = x at *
        obtain ⟨c0, c1, c2, c3, c4, c5, c6, c7, c8, c9⟩ := hA
        have hkn : (k : Int) < (len : Int) := by omega
        clear hA0 hL hx hsrc HV
        have hBs : w.heap.size ≤ wr.heap.size := bw.size
        have f0 : Fr [] wr (wr.alloc (.cells #[.int .i64 x.d, .int .i64 x.vk, .int .i64 x.vn, .int .i64 x.wk, .int .i64 x.wn, .int .i64 x.xk, .int .i64 x.xn, .int .i64 x.rc, .int .i64 x.n, .slice x.a x.m x.c] 33)) := (Fr.refl _ _).alloc _
        have A0 : ABox (wr.alloc (.cells #[.int .i64 x.d, .int .i64 x.vk, .int .i64 x.vn, .int .i64 x.wk, .int .i64 x.wn, .int .i64 x.xk, .int .i64 x.xn, .int .i64 x.rc, .int .i64 x.n, .slice x.a x.m x.c] 33)) wr.heap.size x.d x.vk x.vn x.wk x.wn x.xk x.xn x.rc x.n (.slice x.a x.m x.c) := heap_alloc_new wr _
        have b0 := bw.alloc hBs (.cells #[.int .i64 x.d, .int .i64 x.vk, .int .i64 x.vn, .int .i64 x.wk, .int .i64 x.wn, .int .i64 x.xk, .int .i64 x.xn, .int .i64 x.rc, .int .i64 x.n, .slice x.a x.m x.c] 33)
        go_wp2_with fail
        generalize wr.alloc (.cells #[.int .i64 x.d, .int .i64 x.vk, .int .i64 x.vn, .int .i64 x.wk, .int .i64 x.wn, .int .i64 x.xk, .int .i64 x.xn, .int .i64 x.rc, .int .i64 x.n, .slice x.a x.m x.c] 33) = w0 at *
        generalize wr.heap.size = k0 at *
        have bd : Below w.heap.size w w0.drew := b0.trans ((Fr.drew (Fr.refl [] w0)).below (by have := b0.size; omega) (by simp))
        have C := act_any (JR.frame (f0.trans (Fr.drew (Fr.refl [] w0)))) (by omega) x.d x.vk x.vn x.wk x.wn x.xk x.xn x.rc x.n (B := w.heap.size) (w := w0.drew) (xs := xs) (a := x.a) (m := x.m) (c := x.c) ⟨X0.len, X0.none, X0.low, fun hp => by
          obtain ⟨ad, e, h⟩ := X0.lies hp
          exact ⟨ad, e, fun j u hj => (bd.cell (p := ad.add j) (by have := X0.low ad e (by have := X0.len; omega); rw [add_block]; exact this)).trans (h j u hj)⟩⟩ (by omega)
        unfold actVal at C
        have a0' := A0.fr (Fr.drew (Fr.refl [] _)) (by simp)
        obtain ⟨d0, d1, d2, d3, d4, d5, d6, d7, d8, d9⟩ := a0'.cells
        clear c0 c1 c2 c3 c4 c5 c6 c7 c8 c9 X0 JR bw
        go_region_with
          (first
            | (go_at_call 11; refine C.mono ?_; rintro e w5 ⟨rfl, ⟨used, rk, rn, sv, sr, T, U, J5, hb5, hT5⟩, b5⟩; have u2 := J5.Q.hb.c2; have h5 := J5.R.hb)
            | (go_at_call 12; refine (used_any _ h5).mono ?_; rintro e w' ⟨rfl, rfl⟩))
        all_goals
          clear d0 d1 d2 d3 d4 d5 d6 d7 d8 d9 C
          go_wp2
          go_roundw
          case rel => exact ⟨k + 1, by omega, by go_num, ⟨used, rk, rn, sv, sr, T, U, J5, hb5, hT5⟩, bd.trans b5⟩
          case measure => simp [intOf]; omega
      · obtain ⟨used, rk, rn, sv, sr, T, U, J, hb, hT⟩ := JR
        have hUl : (U.length : Int) ≤ 2000000 := by have := J.len; omega
        have HL : Hid (T.length = U.length) := J.len
        obtain ⟨ar0, cr0, hsr⟩ := J.Q.slice
        have hB5 : w.heap.size ≤ wr.heap.size := bw.size
        clear hL hsrc HV HN hk hT
        go_wp2
        go_loopw [9] (fun i ws => ∃ q : Nat, q ≤ U.length + 1 ∧ i = .int .i64 q ∧ Fr [] wr ws) (fun i _ => U.length + 1 - (intOf i).toNat)
        case atStart => exact ⟨0, Nat.zero_le _, rfl, Fr.refl _ _⟩
        case round =>
          obtain ⟨q, hq, rfl, fw⟩ := hrel
          have J6 := J.frame fw (by simp)
          have r0 := J6.Q.hb.c0
          rw [hsr] at r0
          by_cases hlt2 : q ≤ U.length
          · have hq2 : (q : Int) ≤ (U.length : Int) := by omega
            go_wp2_with fail
            refine (Ref_any _ (q : Int)).mono ?_
            rintro e w7 ⟨rfl, f7⟩
            have J7 := J6.frame f7 (by simp)
            go_wp2_with fail
            by_cases hlt3 : q < U.length
            · have hqT : q < T.length := by have := HL.out; omega
              have ht : T[q]? = some T[q] := List.getElem?_eq_getElem hqT
              have hn := hb _ (List.getElem_mem hqT)
              generalize T[q] = t at ht hn
              have hso := J.sort ht
              obtain ⟨u, hu, hab⟩ := J.twin ht
              have HS : Hid (u.sort = t.sort) := (congrArg Prod.fst hab).symm
              have HC : Hid (u.cells = t.cells) := (congrArg Prod.snd hab).symm
              clear hab
              have hmu := List.mem_of_getElem? hu
              refine (Obj_ok J7.R q t ht hso hn).mono ?_
              rintro e w8 ⟨g, rfl, f8, hg, hrow⟩
              have f9 := (fw.trans (f7.trans f8)).alloc (.cells #[.int .i64 t.sort, .slice (some ⟨g, 0, none⟩) t.cells.length t.cells.length] 40)
              have V9 : (w8.alloc (.cells #[.int .i64 t.sort, .slice (some ⟨g, 0, none⟩) t.cells.length t.cells.length] 40)).heap[w8.heap.size]? = some (.cells #[.int .i64 t.sort, .slice (some ⟨g, 0, none⟩) t.cells.length t.cells.length] 40) := heap_alloc_new w8 _
              have L9 : Lies (w8.alloc (.cells #[.int .i64 t.sort, .slice (some ⟨g, 0, none⟩) t.cells.length t.cells.length] 40)) (some ⟨g, 0, none⟩) t.cells := (row_lies hrow).fr ((Fr.refl [] w8).alloc _) (by simp)
              clear r0 J6 J7 f7 f8 fw hrow hg
              go_wp2_with fail
              generalize w8.alloc (.cells #[.int .i64 t.sort, .slice (some ⟨g, 0, none⟩) t.cells.length t.cells.length] 40) = w9 at *
              generalize w8.heap.size = k9 at *
              have J9 := J.frame f9 (by simp)
              obtain ⟨gr, cr, ar, cu, hsr', hsl, hread⟩ := J9.Q.reads hu
              have M9 : Lies w9 ar t.cells := by
                have := ref_lies J9.Q hmu hsl
                rw [HC.out] at this
                exact this
              have v0 : ∀ w', Fr [] w9 w' → w'.cell? ⟨k9, 0, none⟩ = some (.int .i64 t.sort) := fun w' f => by
                have := (f.block k9 (Array.getElem?_eq_some_iff.1 V9).1 (by simp)).trans V9
                simp [World.cell?, this]
              have v1 : ∀ w', Fr [] w9 w' → w'.cell? ⟨k9, 1, none⟩ = some (.slice (some ⟨g, 0, none⟩) t.cells.length t.cells.length) := fun w' f => by
                have := (f.block k9 (Array.getElem?_eq_some_iff.1 V9).1 (by simp)).trans V9
                simp [World.cell?, this]
              have r0 : ∀ w', Fr [] w9 w' → w'.cell? ⟨r, 0, none⟩ = some (.slice (some ⟨gr, 0, none⟩) U.length cr) := fun w' f => (hread w' f).1
              have r1 : ∀ w', Fr [] w9 w' → w'.cell? ⟨gr, q * 2, none⟩ = some (.int .i64 t.sort) := fun w' f => by rw [(hread w' f).2.1, HS.out]
              have r2 : ∀ w', Fr [] w9 w' → w'.cell? ⟨gr, q * 2 + 1, none⟩ = some (.slice ar t.cells.length cu) := fun w' f => by rw [(hread w' f).2.2, HC.out]
              have C5 := fun w' (f : Fr [] w9 w') => SameObj_any w' t.sort t.cells t.cells.length rfl (some ⟨g, 0, none⟩) ar t.cells.length cu (L9.fr f (by simp)) (M9.fr f (by simp)) (by omega)
              have hqU : (q : Int) < (U.length : Int) := by omega
              clear V9 hread J9 L9 M9 hb hn hso ht hu hmu hsl
              go_region_held3 (fun w' => Fr [] w9 w')
                (with_reducible (first | assumption | exact Fr.drew (Fr.refl _ _)))
                (first
                  | (go_at_call 15; refine (C5 _ (by assumption)).mono ?_; rintro e w10 ⟨rfl, f10⟩; have F10 := Fr.trans (by assumption) f10))
              all_goals
                rename_i hH
                clear v0 v1 r0 r1 r2 C5
                go_wp2
                go_roundw
                case rel => exact ⟨q + 1, by omega, by go_num, f9.trans hH⟩
                case measure => simp [intOf]; omega
            · have hbad : bad T 2 (q : Int) := by unfold bad; have := HL.out; omega
              refine (Obj_no J7.R 2 (q : Int) hbad).mono ?_
              rintro e w8 ⟨rfl, f8⟩
              have f9 := (fw.trans (f7.trans f8)).alloc (.cells #[.int .i64 0, .slice none 0 0] 40)
              have r9 := (J.frame f9 (by simp)).Q.hb.c0
              rw [hsr] at r9
              have hq3 : decide ((q : Int) < (U.length : Int)) = false := by simp; omega
              clear r0 J6 J7 f7 f8 fw
              go_wp2_with fail
              go_quiet (fail)
              go_wp2
              go_roundw
              case rel => exact ⟨q + 1, by omega, by go_num, f9.drewN _⟩
              case measure => simp [intOf]; omega
          · have hq2 : (U.length : Int) < (q : Int) := by omega
            go_wp2
            go_ret
            exact ⟨rfl, bw.trans (fw.below hB5 (by simp))⟩
end Go.Proofs.Ytndjoklinccfjaa
