/-
  A cache that nobody made holds nothing: the walk; condition: the key is of numbers of 64 bits.
-/
import Derived.Test.YtnhjplfdfbbihaaCbS
namespace Go.Proofs.Ytnhjplfdfbbihaa
open Go.RowKit Go.Shelf Go.Maps Go.ChangeShapes
set_option linter.unusedVariables false
set_option linter.unusedSimpArgs false
set_option maxRecDepth 100000 in
set_option maxHeartbeats 4000000 in
theorem cacheNone_walk {W : World} (t : Tr) (hk : kw t.k) (i p : Int) (hi : W64 i) (hp : W64 p) : Calls Try.prog 5 #[.agg t.arr, .int .i64 i, .int .i64 p] W fun e W' => e = .returned (.bool true) ∧ Fr [] W W' := by
  have F1 : Fr [] W (W.alloc (.cells t.arr 35)) := (Fr.refl _ _).alloc _
  have hx := heap_alloc_new W (.cells t.arr 35)
  go_enter Try.func5, Try.ntmps5
  go_upto_region 1 with fail
  generalize W.alloc (.cells t.arr 35) = V0 at *
  generalize W.heap.size = tb at *
  have CA0 := awake_any V0
  have HX : Hid (V0.heap[tb]? = some (.cells t.arr 35 (0, 0)) ∧ Fr [] W V0) := ⟨hx, F1⟩
  clear hx F1
  go_upto_region 4 with (go_at_call 7; refine CA0.mono ?_; rintro e w2 ⟨rfl, f2⟩; have HF2 : Hid (Fr [] V0 w2) := f2; clear f2 CA0)
  have F3 : Fr [] w2 ((w2.alloc (.cells #[.int .i64 0, .slice none 0 0, .map none, .slice none 0 0, .map none, .map none, .int .i64 0, .int .i64 0] 64)).alloc (.cells #[.pointer none, .pointer (some ⟨w2.heap.size, 0, none⟩)] 39)) := ((Fr.refl _ _).alloc _).alloc _
  have hz : ((w2.alloc (.cells #[.int .i64 0, .slice none 0 0, .map none, .slice none 0 0, .map none, .map none, .int .i64 0, .int .i64 0] 64)).alloc (.cells #[.pointer none, .pointer (some ⟨w2.heap.size, 0, none⟩)] 39)).heap[w2.heap.size]? = some (.cells #[.int .i64 0, .slice none 0 0, .map none, .slice none 0 0, .map none, .map none, .int .i64 0, .int .i64 0] 64 (0, 0)) := (((Fr.refl [] _).alloc _).block _ (by simp) (by simp)).trans (heap_alloc_new w2 _)
  have hs : ((w2.alloc (.cells #[.int .i64 0, .slice none 0 0, .map none, .slice none 0 0, .map none, .map none, .int .i64 0, .int .i64 0] 64)).alloc (.cells #[.pointer none, .pointer (some ⟨w2.heap.size, 0, none⟩)] 39)).heap[w2.heap.size + 1]? = some (.cells #[.pointer none, .pointer (some ⟨w2.heap.size, 0, none⟩)] 39 (0, 0)) := blk2 w2 _ _
  go_wp2
  generalize (w2.alloc (.cells #[.int .i64 0, .slice none 0 0, .map none, .slice none 0 0, .map none, .map none, .int .i64 0, .int .i64 0] 64)).alloc (.cells #[.pointer none, .pointer (some ⟨w2.heap.size, 0, none⟩)] 39) = V at *
  generalize hsb : w2.heap.size + 1 = sb at *
  generalize w2.heap.size = c at *
  have hxV := ((HF2.out.trans F3).block _ (Array.getElem?_eq_some_iff.1 HX.out.1).1 (by simp)).trans HX.out.1
  have HZ : Hid (ZC V c) := hz
  have HS : Hid (V.heap[sb]? = some (.cells #[.pointer none, .pointer (some ⟨c, 0, none⟩)] 39 (0, 0))) := hs
  have HW : Hid (Fr [] W V) := (HX.out.2.trans HF2.out).trans F3
  have HK : Hid (∀ w', Fr [] V w' → w'.rangeAt tb 0 (kc t.k).toList) := fun w' f => Tr.key_range ((f.block _ (Array.getElem?_eq_some_iff.1 hxV).1 (by simp)).trans hxV)
  have HR : Hid (∀ w', Fr [] V w' → w'.heap[tb]? = some (.cells t.arr 35 (0, 0))) := fun w' f => (f.block _ (Array.getElem?_eq_some_iff.1 hxV).1 (by simp)).trans hxV
  have G0 : Hid (Fr [] V V) := Fr.refl _ _
  have HI : Hid (W64 i ∧ W64 p ∧ kw t.k) := ⟨hi, hp, hk⟩
  clear hsb F3 hz hs hxV HX HF2 hi hp hk
  go_loopw [22] (fun i wr => ∃ q : Nat, q ≤ 2 ∧ i = .int .i64 q ∧ Hid (Fr [] V wr)) (fun i _ => 2 - (intOf i).toNat)
  case atStart => exact ⟨0, by omega, rfl, G0⟩
  case round =>
    obtain ⟨q, hq, rfl, G⟩ := hrel
    clear G0
    rcases Nat.lt_or_ge q 1 with h1 | h1
    · obtain rfl : q = 0 := by omega
      have k0 : wr.cell? ⟨sb, 0, none⟩ = some (.pointer none) := G.out.cellNew HS.out (by simp) rfl
      go_upto_region 8 with (first
        | refine wpList_ld29 rfl (.tmp 28) rfl tb 0 rfl t.k (HK.out _ G.out) ?_
        | (go_at_call 15; refine get_n.mono ?_; rintro e w5 ⟨t', rfl, f5⟩; have HA : Hid ((w5.alloc (.cells #[.int .i64 0, .int .i64 0, .int .i64 0, .int .i64 0, .int .i64 0, .int .i64 0, .int .i64 0, .int .i64 0, .int .i64 0, .int .i64 0, .int .i64 0, .int .i64 0, .slice none 0 0, .slice none 0 0, .slice none 0 0, .slice none 0 0, .slice none 0 0] 35)).heap[w5.heap.size]? = some (.cells #[.int .i64 0, .int .i64 0, .int .i64 0, .int .i64 0, .int .i64 0, .int .i64 0, .int .i64 0, .int .i64 0, .int .i64 0, .int .i64 0, .int .i64 0, .int .i64 0, .slice none 0 0, .slice none 0 0, .slice none 0 0, .slice none 0 0, .slice none 0 0] 35 (0, 0))) := heap_alloc_new w5 _; have G1 := hid (G.out.trans (f5.trans (((Fr.refl [] w5).alloc (.cells #[.int .i64 0, .int .i64 0, .int .i64 0, .int .i64 0, .int .i64 0, .int .i64 0, .int .i64 0, .int .i64 0, .int .i64 0, .int .i64 0, .int .i64 0, .int .i64 0, .slice none 0 0, .slice none 0 0, .slice none 0 0, .slice none 0 0, .slice none 0 0] 35)).setRow (g := w5.heap.size) (.inr (Nat.le_refl _)) t'.arr))); clear f5 G k0)
        | refine wpList_store_row rfl 35 (.tmp 10) (.tmp 31) rfl w5.heap.size t'.arr rfl rfl 35 _ HA.out (by rw [t'.arr_size]; exact info35) (by rw [t'.arr_size]; rfl) t'.arr_one ?_)
      clear HA
      generalize (w5.alloc (.cells #[.int .i64 0, .int .i64 0, .int .i64 0, .int .i64 0, .int .i64 0, .int .i64 0, .int .i64 0, .int .i64 0, .int .i64 0, .int .i64 0, .int .i64 0, .int .i64 0, .slice none 0 0, .slice none 0 0, .slice none 0 0, .slice none 0 0, .slice none 0 0] 35)).setRow w5.heap.size t'.arr = w6 at *
      generalize w5.heap.size = b10 at *
      go_wp2_with (first
        | (go_at_call 17; refine (linked_n).mono ?_; rintro e w7 ⟨rfl, f⟩; have G2 := hid (G1.out.trans f); clear f G1)
        | refine wpList_ld35 rfl (.tmp 3) rfl tb rfl t.arr t.arr_size (HR.out _ G2.out) ?_
        | (go_at_call 14; refine (put_n).mono ?_; rintro e w8 ⟨rfl, f⟩; have G3 := hid (G2.out.trans f); clear f G2)
        | refine wpList_ld29w (by rfl) (.tmp 53) rfl tb 0 rfl t.k (HK.out _ G3.out) ?_
        | (go_at_call 18; refine (drop_n).mono ?_; rintro e w9 ⟨rfl, f⟩; have G4 := hid (G3.out.trans f); clear f G3)
        | (go_at_call 19; refine (fail_n).mono ?_; rintro e w10 ⟨rfl, f⟩; have G5 := hid (G4.out.trans f); clear f G4)
        | (go_at_call 13; refine (keys_n).mono ?_; rintro e w11 ⟨rfl, f⟩; have G6 := hid (G5.out.trans f); clear f G5)
        | (go_at_call 12; refine (most_n).mono ?_; rintro e w12 ⟨rfl, f⟩; have G7 := hid (G6.out.trans f); clear f G6)
        | (go_at_call 20; refine (link_n).mono ?_; rintro e w13 ⟨rfl, f⟩; have G8 := hid (G7.out.trans f); clear f G7))
      go_roundw
      case rel => exact ⟨1, by omega, by go_num, G8⟩
      case measure => simp [intOf]
    rcases Nat.lt_or_ge q 2 with h2 | h2
    · obtain rfl : q = 1 := by omega
      have k0 : wr.cell? ⟨sb, 1, none⟩ = some (.pointer (some ⟨c, 0, none⟩)) := G.out.cellNew HS.out (by simp) rfl
      go_upto_region 8 with (first
        | refine wpList_ld29 rfl (.tmp 28) rfl tb 0 rfl t.k (HK.out _ G.out) ?_
        | (go_at_call 15; refine (get_z (HZ.out.fr0 G.out) HI.out.2.2).mono ?_; rintro e w5 ⟨t', rfl, f5⟩; have HA : Hid ((w5.alloc (.cells #[.int .i64 0, .int .i64 0, .int .i64 0, .int .i64 0, .int .i64 0, .int .i64 0, .int .i64 0, .int .i64 0, .int .i64 0, .int .i64 0, .int .i64 0, .int .i64 0, .slice none 0 0, .slice none 0 0, .slice none 0 0, .slice none 0 0, .slice none 0 0] 35)).heap[w5.heap.size]? = some (.cells #[.int .i64 0, .int .i64 0, .int .i64 0, .int .i64 0, .int .i64 0, .int .i64 0, .int .i64 0, .int .i64 0, .int .i64 0, .int .i64 0, .int .i64 0, .int .i64 0, .slice none 0 0, .slice none 0 0, .slice none 0 0, .slice none 0 0, .slice none 0 0] 35 (0, 0))) := heap_alloc_new w5 _; have G1 := hid (G.out.trans (f5.trans (((Fr.refl [] w5).alloc (.cells #[.int .i64 0, .int .i64 0, .int .i64 0, .int .i64 0, .int .i64 0, .int .i64 0, .int .i64 0, .int .i64 0, .int .i64 0, .int .i64 0, .int .i64 0, .int .i64 0, .slice none 0 0, .slice none 0 0, .slice none 0 0, .slice none 0 0, .slice none 0 0] 35)).setRow (g := w5.heap.size) (.inr (Nat.le_refl _)) t'.arr))); clear f5 G k0)
        | refine wpList_store_row rfl 35 (.tmp 10) (.tmp 31) rfl w5.heap.size t'.arr rfl rfl 35 _ HA.out (by rw [t'.arr_size]; exact info35) (by rw [t'.arr_size]; rfl) t'.arr_one ?_)
      clear HA
      generalize (w5.alloc (.cells #[.int .i64 0, .int .i64 0, .int .i64 0, .int .i64 0, .int .i64 0, .int .i64 0, .int .i64 0, .int .i64 0, .int .i64 0, .int .i64 0, .int .i64 0, .int .i64 0, .slice none 0 0, .slice none 0 0, .slice none 0 0, .slice none 0 0, .slice none 0 0] 35)).setRow w5.heap.size t'.arr = w6 at *
      generalize w5.heap.size = b10 at *
      go_wp2_with (first
        | (go_at_call 17; refine (linked_z (HZ.out.fr0 G1.out) HI.out.1 HI.out.2.1).mono ?_; rintro e w7 ⟨rfl, f⟩; have G2 := hid (G1.out.trans f); clear f G1)
        | refine wpList_ld35 rfl (.tmp 3) rfl tb rfl t.arr t.arr_size (HR.out _ G2.out) ?_
        | (go_at_call 14; refine (put_z (HZ.out.fr0 G2.out)).mono ?_; rintro e w8 ⟨rfl, f⟩; have G3 := hid (G2.out.trans f); clear f G2)
        | refine wpList_ld29w (by rfl) (.tmp 53) rfl tb 0 rfl t.k (HK.out _ G3.out) ?_
        | (go_at_call 18; refine (drop_z (HZ.out.fr0 G3.out) HI.out.2.2).mono ?_; rintro e w9 ⟨rfl, f⟩; have G4 := hid (G3.out.trans f); clear f G3)
        | (go_at_call 19; refine (fail_z (HZ.out.fr0 G4.out)).mono ?_; rintro e w10 ⟨rfl, f⟩; have G5 := hid (G4.out.trans f); clear f G4)
        | (go_at_call 13; refine (keys_z (HZ.out.fr0 G5.out)).mono ?_; rintro e w11 ⟨rfl, f⟩; have G6 := hid (G5.out.trans f); clear f G5)
        | (go_at_call 12; refine (most_z (HZ.out.fr0 G6.out)).mono ?_; rintro e w12 ⟨rfl, f⟩; have G7 := hid (G6.out.trans f); clear f G6)
        | (go_at_call 20; refine (link_z (HZ.out.fr0 G7.out)).mono ?_; rintro e w13 ⟨rfl, f⟩; have G8 := hid (G7.out.trans f); clear f G7))
      go_roundw
      case rel => exact ⟨2, by omega, by go_num, G8⟩
      case measure => simp [intOf]
    · obtain rfl : q = 2 := by omega
      go_wp2
      go_ret
      exact ⟨rfl, HW.out.trans G.out⟩
end Go.Proofs.Ytnhjplfdfbbihaa
