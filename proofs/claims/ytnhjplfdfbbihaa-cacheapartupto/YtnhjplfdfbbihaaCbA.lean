/-
  What is noted of a trace is struck out: the walk of maps.DeleteFunc; condition: the map reads as told, what is handed in writes nothing.
-/
import Derived.Test.YtnhjplfdfbbihaaCaZ
import Derived.Maps.RangeWalk
import Derived.Deep.LoopGhost
namespace Go.Proofs.Ytnhjplfdfbbihaa
open Go.RowKit Go.Shelf Go.Maps Go.ChangeShapes
set_option linter.unusedVariables false
set_option linter.unusedSimpArgs false
theorem Fr.grownBy {w w' : World} (h : Fr [] w w') : w.grownBy w' none := ⟨h.os, h.tape, h.output, h.size, fun k hk _ => h.block k hk (by simp)⟩
set_option maxRecDepth 100000 in
theorem info94 : (Try.prog.info? 94).map (·.size) = some 2 := by kernel_rfl
theorem wpList_ld94 {ops : Array Oper} {rest : List Oper} {o : Oper} {a : Act} {w : World} {Q : Exit → Act → World → Prop} (hgd : o.guard = none) (x : Operand) (ho : o.op = .load 94 x)
    (b off : Nat) (hx : a.eval x = .pointer (some ⟨b, off, none⟩)) (i p : Int) (hc : w.rangeAt b off (pc i p).toList)
    (h : wpList Try.prog ops Q rest (a.put o.dst (.agg (pc i p))) w) : wpList Try.prog ops Q (o :: rest) a w :=
  wpList_load_mid hgd 94 x ho b off hx (pc i p).toList _ hc Try.underlying94 rfl (by rw [info94]; simp [pc]) h
theorem Fr.ofGrown0 {w w' : World} (h : w.grownBy w' none) : Fr [] w w' := ⟨h.os, h.tape, h.output, h.size, fun k hk _ => h.block k hk (by simp)⟩
set_option maxRecDepth 100000 in
set_option maxHeartbeats 4000000 in
theorem del42_any {w : World} {b n g : Nat} {cb : Array Value} {D : DataW Unit} (pq : Lit → DataW Unit → Bool)
    (eg : ∀ args w, (callFunc g args).run Try.prog w = .ok (.enter g args) w) (hown : w.ownsMap Try.prog 94 (plainElem Try.prog 3) b n D)
    (hdel : ∀ (W : World) (i p v : Int), W64 i → W64 p → w.grownBy W (some b) →
      Calls Try.prog g (#[.agg (pc i p), .int .i64 v] ++ cb) W fun e w' => e = .returned (.bool (pq (pd i p).asKey (.lit (.int .i64 v)))) ∧ W.grownBy w' none) :
    Calls Try.prog 42 #[.map (some b), .func (.func g) #[] cb] w fun e w' => e = .returned (.tuple #[]) ∧ w'.ownsMap Try.prog 94 (plainElem Try.prog 3) b n (Lib.deleteFuncD pq D) ∧ w.grownBy w' (some b) := by
  obtain ⟨es0, rfl, hap, hkeys⟩ := hown.entries law94
  have HD : Hid _ := hdel
  clear hdel
  go_enter Try.func42, Try.ntmps42
  go_wp2_with (first
    | (at_range; refine wpList_range_own _ rfl _ 62 rfl 94 3 law94 under62 (plainElem Try.prog 3) b n _ rfl hown ?_; intro w0 hrg0 hg0 hs0)
    | go_in)
  go_frame
  go_loopw [8] (fun _ wr => ∃ (left : Lit → Bool) (cnt : Nat), wr.ranges Try.prog 94 (plainElem Try.prog 3) b w.heap.size n (Fk pq es0 left) left cnt ∧ w.grownBy wr (some b))
    (fun _ wr => wr.rangeLeft b w.heap.size)
  case atStart => exact ⟨_, _, by rw [Fk_start hkeys]; exact hrg0, hg0.but _⟩
  case round =>
    obtain ⟨left, cnt, hrg, hgw⟩ := hrel
    go_wp2_with (first
      | (at_next; refine wpList_next_ranges _ rfl _ rfl 94 law94 (plainElem Try.prog 3) (fun x : Int × Int => Value.agg (pc x.1 x.2)) (fun v : Int => Value.int .i64 v) (fun key kl hk => by obtain ⟨i, p, rfl, _⟩ := keyOf94_inv hk; exact ⟨(i, p), rfl⟩) (fun v y hv => by obtain ⟨c, rfl, _⟩ := plainElem_int_inv Try.underlying3 hv; exact ⟨c, rfl⟩) b w.heap.size n _ _ _ rfl hrg ?_ ?_)
      | go_in)
    · -- nothing is left
      intro _ hl0
      go_wp2
      go_end0
      exact ⟨rfl, by rw [← Fk_end hl0]; exact hrg.owns, hgw⟩
    · -- an entry has come
      intro i p c kl yd yp w1 cnt1 hkey hlx hv hat hrg1 hlt hg1 hs1 hen
      obtain ⟨i', p', he, hi, hp, rfl⟩ := keyOf94_inv hkey
      have he2 : i = i' ∧ p = p' := by simpa [pc] using he
      obtain ⟨rfl, rfl⟩ := he2
      obtain ⟨c', hc', hyd, _⟩ := plainElem_int_inv Try.underlying3 hv
      cases hc'
      cases hyd
      have HK : Hid (keyOf Try.prog 94 (.agg #[.int .i64 i, .int .i64 p]) = some (pd i p).asKey) := hkey
      have HG1 : Hid (w.grownBy w1 (some b)) := hgw.andThen hg1 (fun j hj => by cases hj; exact Or.inl (Nat.le_refl _))
      have HR1 : Hid (w1.ranges Try.prog 94 (plainElem Try.prog 3) b w.heap.size n (Fk pq es0 left) (fun z => left z && !z.sameKey (pd i p).asKey) cnt1) := hrg1
      have hbl := hrg1.owns.lt
      have hrl := hrg1.lt
      have HAT : Hid _ := hat
      unfold pc at hen ⊢
      clear hkey hg1 hs1 hv hrg1 hat
      go_upto_region 3 with (first | go_in)
      have hx1 := heap_alloc_new w1 (.cells #[.int .i64 i, .int .i64 p] 94)
      have hgv : w1.grownBy (w1.alloc (.cells #[.int .i64 i, .int .i64 p] 94)) none := ((Fr.refl [] w1).alloc _).grownBy
      have hsz : (w1.alloc (.cells #[.int .i64 i, .int .i64 p] 94)).heap.size = w1.heap.size + 1 := by simp
      generalize w1.alloc (.cells #[.int .i64 i, .int .i64 p] 94) = V at *
      have hc := HD.out V i p c hi hp (HG1.out.andThen hgv (fun j hj => by cases hj))
      have HB : Hid (V.rangeAt w1.heap.size 0 (pc i p).toList) := range_block hx1
      have HRV : Hid (V.ranges Try.prog 94 (plainElem Try.prog 3) b w.heap.size n (Fk pq es0 left) (fun z => left z && !z.sameKey (pd i p).asKey) cnt1) := World.ranges.kept HR1.out hgv (by simp) (by simp)
      have HGV : Hid (w.grownBy V (some b)) := HG1.out.andThen hgv (fun j hj => by cases hj)
      have HX : Hid (V.heap[w1.heap.size]? = some (.cells (pc i p) 94 (0, 0))) := hx1
      have HSZ : Hid (V.heap.size = w1.heap.size + 1) := hsz
      clear hx1 hgv hsz HR1 HG1
      generalize hq : pq (pd i p).asKey (.lit (.int .i64 c)) = q at hc
      have HQ : Hid (pq (pd i p).asKey (.lit (.int .i64 c)) = q) := hq
      clear hq
      have hkey : keyOf Try.prog 94 (.agg (pc i p)) = some (pd i p).asKey := HK.out
      have HLX : Hid (left (pd i p).asKey = true) := hlx
      clear hlx
      cases q
      · go_upto_region 4 with (first
          | refine wpList_ld94 rfl (.tmp 4) rfl w1.heap.size 0 rfl i p HB.out ?_
          | (go_at_fn g; refine hc.mono ?_; rintro e w2 ⟨rfl, hg2⟩)
          | go_in)
        have hrg2 := HRV.out.kept hg2 (by simp) (by simp)
        exact ⟨⟨_, cnt1, by rw [← Fk_stays hap (law94.key hkey) HLX.out HQ.out HAT.out]; exact hrg2, HGV.out.andThen hg2 (fun j hj => by cases hj)⟩, by rw [hrg2.left_eq, hrg.left_eq]; exact hlt⟩
      · go_upto_region 4 with (first
          | refine wpList_ld94 rfl (.tmp 4) rfl w1.heap.size 0 rfl i p HB.out ?_
          | (go_at_fn g; refine hc.mono ?_; rintro e w2 ⟨rfl, hg2⟩)
          | go_in)
        have hrg2 := HRV.out.kept hg2 (by simp) (by simp)
        have HB2 : Hid (w2.rangeAt w1.heap.size 0 (pc i p).toList) := range_block ((hg2.block _ (by have := HSZ.out; omega) (by simp)).trans HX.out)
        have HG2 : Hid (w.grownBy w2 (some b)) := HGV.out.andThen hg2 (fun j hj => by cases hj)
        clear hg2
        go_wp2_with (first
          | refine wpList_ld94 rfl (.tmp 4) rfl w1.heap.size 0 rfl i p HB2.out ?_
          | (at_delete; refine wpList_delete_ranges _ rfl _ _ 62 94 rfl 3 law94 under62 (plainElem Try.prog 3) b w.heap.size n _ _ _ rfl hrg2 _ _ rfl hkey ?_; intro w3 cnt3 hrg3 hle hturn; rw [strike_twice] at hrg3; go_frame)
          | go_in)
        exact ⟨⟨_, cnt3, by rw [← Fk_struck hap (law94.key hkey) HLX.out HQ.out HAT.out]; exact hrg3, HG2.out.andThen hturn.grown (fun j hj => by cases hj; exact Or.inr rfl)⟩, by rw [hrg3.left_eq, hrg.left_eq]; omega⟩
end Go.Proofs.Ytnhjplfdfbbihaa
