/-
  Whether lists of nodes are alike, places aside, by the document; condition: the lists lie as told.
-/
import Derived.Test.YtekjfddcbcijdaaGreatDoorMovC
namespace Go.Proofs.YtekjfddcbcijdaaGreatDoor
open Go.RowKit
set_option linter.unusedVariables false
set_option linter.unusedSimpArgs false

set_option maxRecDepth 100000 in
set_option maxHeartbeats 2000000 in
theorem rsame_any (B : Nat) (w : World) (L M : List Nd) (a b : Option Addr) (m n ac bc : Nat) (ha : L.length = m) (hb : M.length = n) (hm : m ≤ maxLen) (hn : n ≤ maxLen) (hA : NAt B w a L) (hBt : NAt B w b M) :
    Calls Tryz.prog 6 #[.slice a m ac, .slice b n bc] w fun e w' => e = .returned (.bool (sameL L M)) ∧ Fr [] w w' := by
  have z1 : ∀ (w : World) (o : Obj), (w.alloc o).heap.size = w.heap.size + 1 := fun _ _ => by simp
  unfold maxLen at hm hn
  have HA : Hid (L.length = m) := ha
  have HB : Hid (M.length = n) := hb
  clear ha hb
  by_cases hmn : m = n
  · subst hmn
    go_enter Tryz.func6, Tryz.ntmps6
    go_wp2
    go_loopw [16] (fun i wr => ∃ p : Nat, p ≤ m ∧ i = .int .i64 p ∧ Fr [] w wr ∧ Hid (sameL (L.drop p) (M.drop p) = sameL L M)) (fun i _ => m - (intOf i).toNat)
    case atStart => exact ⟨0, Nat.zero_le _, rfl, Fr.refl _ _, rfl⟩
    case round =>
      obtain ⟨p, hp, rfl, fw, he⟩ := hrel
      by_cases hlt : p < m
      · have hx : L[p]? = some (L[p]'(by rw [HA.out]; exact hlt)) := List.getElem?_eq_getElem _
        have hy : M[p]? = some (M[p]'(by rw [HB.out]; exact hlt)) := List.getElem?_eq_getElem _
        generalize L[p]'(by rw [HA.out]; exact hlt) = x at hx
        generalize M[p]'(by rw [HB.out]; exact hlt) = y at hy
        obtain ⟨b1, o1, rfl, hb1, c1⟩ := (hA.fr fw (by simp)) p x hx
        obtain ⟨b2, o2, rfl, hb2, c2⟩ := (hBt.fr fw (by simp)) p y hy
        have HS : Hid _ := same_at hx hy
        clear hx hy hA hBt
        have l1 := World.block_lt_of_cell? wr _ c1.c0
        have l2 := World.block_lt_of_cell? wr _ c2.c0
        simp only at l1 l2
        obtain ⟨kx, tx, xa, xc, xs, px⟩ := x
        obtain ⟨ky, ty, ya, yc, ys, py⟩ := y
        obtain ⟨p0, p1, p2, p3, hkx, hlx, _, _⟩ := c1
        obtain ⟨q0, q1, q2, q3, hky, hly, _, _⟩ := c2
        simp only at p0 p1 p2 p3 q0 q1 q2 q3 hkx hky hlx hly
        unfold maxLen at hlx hly
        go_wp2
        go_region
        have Bx : ((wr.alloc (.cells #[.int .i64 kx, .string tx, .slice xa xs.length xc, .int .i64 px] 30)).alloc (.cells #[.int .i64 ky, .string ty, .slice ya ys.length yc, .int .i64 py] 30)).drew.heap[wr.heap.size]? = some (.cells #[.int .i64 kx, .string tx, .slice xa xs.length xc, .int .i64 px] 30) := blk_old (blk_new wr _)
        have By : ((wr.alloc (.cells #[.int .i64 kx, .string tx, .slice xa xs.length xc, .int .i64 px] 30)).alloc (.cells #[.int .i64 ky, .string ty, .slice ya ys.length yc, .int .i64 py] 30)).drew.heap[wr.heap.size + 1]? = some (.cells #[.int .i64 ky, .string ty, .slice ya ys.length yc, .int .i64 py] 30) := by
          have := blk_new (wr.alloc (.cells #[.int .i64 kx, .string tx, .slice xa xs.length xc, .int .i64 px] 30)) (.cells #[.int .i64 ky, .string ty, .slice ya ys.length yc, .int .i64 py] 30)
          rw [z1] at this
          exact this
        have fa : Fr [] wr ((wr.alloc (.cells #[.int .i64 kx, .string tx, .slice xa xs.length xc, .int .i64 px] 30)).alloc (.cells #[.int .i64 ky, .string ty, .slice ya ys.length yc, .int .i64 py] 30)).drew := (((Fr.refl _ _).alloc _).alloc _).drew
        generalize ((wr.alloc (.cells #[.int .i64 kx, .string tx, .slice xa xs.length xc, .int .i64 px] 30)).alloc (.cells #[.int .i64 ky, .string ty, .slice ya ys.length yc, .int .i64 py] 30)).drew = A at *
        generalize wr.heap.size + 1 = gy at *
        generalize wr.heap.size = gx at *
        rotate_left
        have By : ((wr.alloc (.cells #[.int .i64 ky, .string ty, .slice ya ys.length yc, .int .i64 py] 30)).alloc (.cells #[.int .i64 kx, .string tx, .slice xa xs.length xc, .int .i64 px] 30)).drew.heap[wr.heap.size]? = some (.cells #[.int .i64 ky, .string ty, .slice ya ys.length yc, .int .i64 py] 30) := blk_old (blk_new wr _)
        have Bx : ((wr.alloc (.cells #[.int .i64 ky, .string ty, .slice ya ys.length yc, .int .i64 py] 30)).alloc (.cells #[.int .i64 kx, .string tx, .slice xa xs.length xc, .int .i64 px] 30)).drew.heap[wr.heap.size + 1]? = some (.cells #[.int .i64 kx, .string tx, .slice xa xs.length xc, .int .i64 px] 30) := by
          have := blk_new (wr.alloc (.cells #[.int .i64 ky, .string ty, .slice ya ys.length yc, .int .i64 py] 30)) (.cells #[.int .i64 kx, .string tx, .slice xa xs.length xc, .int .i64 px] 30)
          rw [z1] at this
          exact this
        have fa : Fr [] wr ((wr.alloc (.cells #[.int .i64 ky, .string ty, .slice ya ys.length yc, .int .i64 py] 30)).alloc (.cells #[.int .i64 kx, .string tx, .slice xa xs.length xc, .int .i64 px] 30)).drew := (((Fr.refl _ _).alloc _).alloc _).drew
        generalize ((wr.alloc (.cells #[.int .i64 ky, .string ty, .slice ya ys.length yc, .int .i64 py] 30)).alloc (.cells #[.int .i64 kx, .string tx, .slice xa xs.length xc, .int .i64 px] 30)).drew = A at *
        generalize wr.heap.size + 1 = gx at *
        generalize wr.heap.size = gy at *
        rotate_left
        all_goals
          have x0 : ∀ w', Fr [] A w' → w'.cell? ⟨gx, 0, none⟩ = some (.int .i64 kx) := fun w' f => f.cell1 (by simp [World.cell?, Bx]) (by simp)
          have x1 : ∀ w', Fr [] A w' → w'.cell? ⟨gx, 1, none⟩ = some (.string tx) := fun w' f => f.cell1 (by simp [World.cell?, Bx]) (by simp)
          have x2 : ∀ w', Fr [] A w' → w'.cell? ⟨gx, 2, none⟩ = some (.slice xa xs.length xc) := fun w' f => f.cell1 (by simp [World.cell?, Bx]) (by simp)
          have y0 : ∀ w', Fr [] A w' → w'.cell? ⟨gy, 0, none⟩ = some (.int .i64 ky) := fun w' f => f.cell1 (by simp [World.cell?, By]) (by simp)
          have y1 : ∀ w', Fr [] A w' → w'.cell? ⟨gy, 1, none⟩ = some (.string ty) := fun w' f => f.cell1 (by simp [World.cell?, By]) (by simp)
          have y2 : ∀ w', Fr [] A w' → w'.cell? ⟨gy, 2, none⟩ = some (.slice ya ys.length yc) := fun w' f => f.cell1 (by simp [World.cell?, By]) (by simp)
          have kx1 := hkx.fr fa (by simp)
          have ky1 := hky.fr fa (by simp)
          have F1 := fw.trans fa
          have X0 := x0 A (Fr.refl _ _)
          have X1 := x1 A (Fr.refl _ _)
          have X2 := x2 A (Fr.refl _ _)
          have Y0 := y0 A (Fr.refl _ _)
          have Y1 := y1 A (Fr.refl _ _)
          have Y2 := y2 A (Fr.refl _ _)
          have HS : Hid (sameL (L.drop p) (M.drop p) = ((kx == ky && (tx.toList == ty.toList) && ksEq xs ys) && sameL (L.drop (p + 1)) (M.drop (p + 1)))) := HS
          clear hkx hky fa Bx By p0 p1 p2 p3 q0 q1 q2 q3 fw l1 l2 x0 x1 y0 y1
          by_cases h1 : kx = ky
          · subst h1
            cases h2 : (tx.toList == ty.toList) with
            | false =>
              have HR : Hid (sameL L M = false) := by unfold Hid; rw [← he.out, HS.out, h2]; simp
              clear HS x2 y2
              go_wp2
              all_goals first | (exfalso; simp_all; done) | skip
              go_ret
              exact ⟨by rw [HR.out]; rfl, F1⟩
            | true =>
              by_cases h3 : xs.length = ys.length
              · have HS2 : Hid (sameL (L.drop p) (M.drop p) = (ksEq xs ys && sameL (L.drop (p + 1)) (M.drop (p + 1)))) := by unfold Hid; rw [HS.out, h2]; simp
                clear HS
                generalize hyl : ys.length = yl at *
                subst h3
                have HL3 : Hid (ys.length = xs.length) := hyl
                clear hyl
                go_wp2
                go_loopw [51] (fun j wq => ∃ q : Nat, q ≤ xs.length ∧ j = .int .i64 q ∧ Fr [] A wq ∧ Hid (ksEq (xs.drop q) (ys.drop q) = ksEq xs ys)) (fun j _ => xs.length - (intOf j).toNat)
                case atStart => exact ⟨0, Nat.zero_le _, rfl, Fr.refl _ _, rfl⟩
                case round =>
                  obtain ⟨q, hq, rfl, fq, hk⟩ := hrel
                  clear X0 X1 X2 Y0 Y1 Y2
                  by_cases hql : q < xs.length
                  · have hu : xs[q]? = some xs[q] := List.getElem?_eq_getElem hql
                    have hv : ys[q]? = some (ys[q]'(by rw [HL3.out]; exact hql)) := List.getElem?_eq_getElem _
                    generalize xs[q] = u at hu
                    generalize ys[q]'(by rw [HL3.out]; exact hql) = v at hv
                    obtain ⟨b3, o3, rfl, _, c3⟩ := (kx1.fr fq (by simp)) q u hu
                    obtain ⟨b4, o4, rfl, _, c4⟩ := (ky1.fr fq (by simp)) q v hv
                    have X2 := x2 _ fq
                    have Y2 := y2 _ fq
                    have HKS : Hid _ := ks_at hu hv
                    clear hu hv x2 y2 kx1 ky1
                    by_cases huv : u = v
                    · subst huv
                      have HR : Hid (ksEq (xs.drop (q + 1)) (ys.drop (q + 1)) = ksEq xs ys) := by unfold Hid; rw [← hk.out, HKS.out]; simp
                      clear HKS
                      go_wp2
                      go_quiet (fail)
                      go_wp2
                      go_roundw
                      case rel => exact ⟨q + 1, hql, by go_num, fq.drewN _, HR⟩
                      case measure => simp [intOf]; omega
                    · have huv' : (u == v) = false := by simp [huv]
                      have HR : Hid (sameL L M = false) := by unfold Hid; rw [← he.out, HS2.out, ← hk.out, HKS.out, huv']; simp
                      clear HKS huv
                      go_wp2
                      go_quiet (fail)
                      go_wp2
                      go_ret
                      exact ⟨by rw [HR.out]; rfl, (F1.trans fq).drewN _⟩
                  · have HKE : Hid (ksEq xs ys = true) := by
                      unfold Hid
                      rw [← hk.out, List.drop_of_length_le (by omega), List.drop_of_length_le (by rw [HL3.out]; omega)]
                      rfl
                    have HR : Hid (sameL (L.drop (p + 1)) (M.drop (p + 1)) = sameL L M) := by unfold Hid; rw [← he.out, HS2.out, HKE.out, Bool.true_and]
                    clear HS2 HKE hk x2 y2
                    go_wp2
                    go_roundw
                    case rel => exact ⟨p + 1, hlt, by go_num, F1.trans fq, HR⟩
                    case measure => simp [intOf]; omega
              · have h3' : ((xs.length : Int) == (ys.length : Int)) = false := beq_int_false (by omega)
                have HR : Hid (sameL L M = false) := by
                  unfold Hid
                  have : ksEq xs ys = false := by
                    unfold ksEq
                    rw [Bool.eq_false_iff]
                    intro h
                    have h4 : xs = ys := by simpa using h
                    exact h3 (by rw [h4])
                  rw [← he.out, HS.out, this]; simp
                clear HS x2 y2
                go_wp2
                all_goals first | (exfalso; simp_all; done) | skip
                go_ret
                exact ⟨by rw [HR.out]; rfl, F1⟩
          · have h1' : (kx == ky) = false := by simp [h1]
            have HR : Hid (sameL L M = false) := by unfold Hid; rw [← he.out, HS.out, h1']; simp
            clear HS x2 y2
            go_wp2
            all_goals first | (exfalso; omega) | skip
            go_ret
            exact ⟨by rw [HR.out]; rfl, F1⟩
      · have HE : Hid (sameL L M = true) := by
          unfold Hid
          rw [← he.out, List.drop_of_length_le (by rw [HA.out]; omega), List.drop_of_length_le (by rw [HB.out]; omega)]
          rfl
        go_wp2
        go_ret
        exact ⟨by rw [HE.out]; rfl, fw⟩
  · have HR : Hid (sameL L M = false) := same_len L M (by rw [HA.out, HB.out]; exact hmn)
    have hne : ((m : Int) == (n : Int)) = false := beq_int_false (by omega)
    go_enter Tryz.func6, Tryz.ntmps6
    go_wp2
    go_ret
    exact ⟨by rw [HR.out]; rfl, Fr.refl _ _⟩
end Go.Proofs.YtekjfddcbcijdaaGreatDoor
