/-
  Whether something that is reached is odd; conditions: things are few.
-/
import Derived.Test.YtefkcmeeagflmaaDoorMhRchW
import Derived.Test.YtefkcmeeagflmaaDoorMhPurK
namespace Go.Proofs.YtefkcmeeagflmaaDoor
open Go.RowKit
set_option linter.unusedVariables false
set_option linter.unusedSimpArgs false

theorem wpList_append_o {P : Program} (w : World) {ops : Array Oper} {rest : List Oper} {o : Oper} {a : Act} {Q : Exit → Act → World → Prop} (hgd : o.guard = none) (s x : Operand) (t : TypeId)
    (ho : o.op = .call { callee := .builtin .append, args := #[s, x], argTypes := #[t, t] })
    (base : Nat) (e : TypeId) (i : TypeInfo) (z : Value) (size bytes : Nat) (ht : P.underlying t = some (.slice e)) (hi : P.info? e = some i) (hz : i.zero = some z)
    (hsize : i.size = size) (hby : i.bytes = bytes) (hzs : z.cells.size = size) (hsz : 0 < size)
    (v : Value) (n : Nat) (xs : List Value) (hs : a.eval s = v) (hown : w.ownsRow base e size v n xs)
    (ao : Option Addr) (m c : Nat) (news : List Value) (hx : a.eval x = .slice ao m c) (hl : news.length = m * size) (hnone : ao = none → m = 0 ∧ c = 0) (hnews : ∀ ad, ao = some ad → ∀ j u, news[j]? = some u → w.cell? (ad.add j) = some u) (h1 : ∀ u ∈ news, u.oneCell' = true)
    (h63 : n + m ≤ maxLen) (hbytes : (n + m) * bytes ≤ 140737488355328) (hbase : base ≤ w.heap.size)
    (h : ∀ v' w', w'.ownsRow base e size v' (n + m) (xs ++ news) → w.grownBy w' v.ownBlock → (∀ k, v'.ownBlock = some k → v.ownBlock = some k ∨ w.heap.size ≤ k) → wpList P ops Q rest (a.put o.dst v') w') : wpList P ops Q (o :: rest) a w := by
  refine wpList_plain hgd fun K hK => ?_
  have key : ∃ v' w', (Builtin.append_ #[t, t] o.type #[v, .slice ao m c]).run P w = .ok v' w' ∧ w'.ownsRow base e size v' (n + m) (xs ++ news) ∧ w.grownBy w' v.ownBlock ∧ (∀ k, v'.ownBlock = some k → v.ownBlock = some k ∨ w.heap.size ≤ k) := by
    cases ao with
    | some ad => exact run_append_fp (P := P) w base t o.type e i z size bytes ht hi hz hsize hby hzs hsz v n xs hown ad m c news hl (hnews ad rfl) h1 h63 hbytes hbase
    | none =>
      obtain ⟨rfl, rfl⟩ := hnone rfl
      have hn0 : news = [] := List.eq_nil_of_length_eq_zero (by simpa using hl)
      subst hn0
      have hrun := run_append_owned_none (P := P) w base t o.type e i size ht hi v n xs hown
      exact ⟨v, w, hrun, by simpa using hown, World.grownBy.refl _ _, fun k hk => .inl hk⟩
  obtain ⟨v', w', hr, h2, h3, h4⟩ := key
  unfold Oper.wp execOp
  simp only [ho, resolve, invoke, builtin, Sem.run_bind, Sem.run_pure, Result.andThen_ok, List.map_toArray, List.map_cons, List.map_nil, hs, hx, hr]
  exact hK _ _ (h v' w' h2 h3 h4)

/-- A thing's cells. -/
def cellsOf (A : List (Int × List (Int × Int))) (i : Int) : List (Int × Int) := match thingAt A (2, i) with | some o => o.2 | none => []

theorem fm_len (f : Int → List (Int × Int)) (h : ∀ i, (f i).length ≤ 1000) : ∀ l : List Int, (l.flatMap f).length ≤ l.length * 1000
  | [] => by simp
  | i :: l => by
    have := fm_len f h l
    have := h i
    simp only [List.flatMap_cons, List.length_append, List.length_cons]
    omega
theorem cells_len {U : List RT} (hU : ∀ u, u ∈ U → u.cells.length ≤ 1000) (i : Int) : (cellsOf (U.map RT.abs) i).length ≤ 1000 := by
  unfold cellsOf
  cases h : thingAt (U.map RT.abs) (2, i) with
  | none => simp
  | some o =>
    obtain ⟨k, u, _, hu, rfl, _⟩ := thing_in h
    exact hU u (List.mem_of_getElem? hu)

/-- What odd comes to. -/
def OddP (A : List (Int × List (Int × Int))) (x : List (Int × Int)) (w : World) (e : Ending) (w' : World) : Prop := ∃ r, e = .returned (.bool r) ∧ (r = false → (∀ c, c ∈ x → Ev A c) ∧ ∀ i, i ∈ reachR A x → Gd A i) ∧ Fr [] w w'
theorem OddP.yes {A : List (Int × List (Int × Int))} {x : List (Int × Int)} {w w' : World} (f : Fr [] w w') : OddP A x w (.returned (.bool true)) w' := ⟨true, rfl, fun h => (by cases h), f⟩
theorem OddP.no {A : List (Int × List (Int × Int))} {x : List (Int × Int)} {w w' : World} (h : ∀ c, c ∈ x ++ (reachR A x).flatMap (cellsOf A) → Ev A c) (f : Fr [] w w') : OddP A x w (.returned (.bool false)) w' := by
  refine ⟨false, rfl, fun _ => ⟨fun c hc => h c (by simp [hc]), fun i hi o ho c hc => h c ?_⟩, f⟩
  simp only [List.mem_append, List.mem_flatMap]
  exact .inr ⟨i, hi, by unfold cellsOf; rw [ho]; exact hc⟩

set_option maxRecDepth 100000 in
set_option maxHeartbeats 8000000 in
theorem odd_any {w : World} {Bh b : Nat} {lim used : Int} {svh : Value} {rk rn : Int} {U : List RT} (R : RRep w Bh b lim used svh rk rn U) (hU : ∀ u, u ∈ U → u.cells.length ≤ 1000) (hUl : U.length ≤ 1000) (xs : List (Int × Int)) (a1 : Option Addr) (n c1 : Nat) (hxn : xs.length = n) (hl : Lies w a1 xs) (hno : a1 = none → n = 0 ∧ c1 = 0) (hn : n ≤ 1000) (hrl : (reachR (U.map RT.abs) xs).length ≤ 1000) :
    Calls Tryd.prog 18 #[.pointer (some ⟨b, 0, none⟩), .slice a1 n c1] w (OddP (U.map RT.abs) xs w) := by
  obtain ⟨i45, hi, hz, hs, hby⟩ := info_parts info45
  have hnI : (n : Int) ≤ 1000 := by omega
  have hfl : (flat xs).length = n * 2 := by rw [flat_length, hxn]
  have hone := flat_one xs
  have hsrc : ∀ w', Fr [] w w' → ∀ ad, a1 = some ad → ∀ j u, (flat xs)[j]? = some u → w'.cell? (ad.add j) = some u := fun w' h ad e j u hu => by
    have hne : xs ≠ [] := by
      intro e2
      rw [e2] at hu
      simp [flat] at hu
    obtain ⟨ad', e', hc⟩ := hl.fr h (by simp) (by cases xs with | nil => exact absurd rfl hne | cons _ _ => simp)
    rw [e] at e'
    injection e' with e'
    subst e'
    exact hc j u hu
  have hm1 : 0 + n ≤ maxLen := by have : maxLen = 9223372036854775807 := rfl; omega
  have hm2 : (0 + n) * 16 ≤ 140737488355328 := by omega
  go_enter Tryd.func18, Tryd.ntmps18
  go_wp2_with (at_builtin; go_loud (refine wpList_append_o _ rfl _ _ 23 rfl w.heap.size 45 i45 (.agg #[.int .i64 0, .int .i64 0]) 2 16 under23 hi hz hs hby rfl (by decide) (.slice none 0 0) 0 [] rfl (World.ownsRow_nil _ _ _ _) a1 n c1 (flat xs) rfl hfl hno (hsrc w (Fr.refl _ _)) hone hm1 hm2 (Nat.le_refl _) ?_))
  intro v1 w1 ho1 hg1 hk1
  have F1 : Fr [] w w1 := Fr.grown (Fr.refl _ _) hg1 (fun k e => by simp [Value.ownBlock] at e)
  try simp only [Nat.zero_add, List.nil_append] at ho1
  obtain ⟨av, cv, rfl, _⟩ := own_slice ho1
  clear hg1 hk1 hm1 hm2
  go_wp2_with fail
  refine (rReach_any (R.frame F1 (by simp)) (fun u hu => Nat.le_trans (hU u hu) (by omega)) (by omega) xs a1 n c1 hxn (hl.fr F1 (by simp)) (by omega)).mono ?_
  rintro e w2 ⟨v2, rfl, f2, ho2⟩
  have F2 := F1.trans f2
  have hoA := own_fr ho1 f2 (by simp)
  have hth : thgs (U.map RT.abs) (reachR (U.map RT.abs) xs) := lst_thgs (val_thgs _ _) _ _ _ (fun i hi => by simp at hi)
  have HNO : Hid (∀ w', (∀ c, c ∈ xs ++ (reachR (U.map RT.abs) xs).flatMap (cellsOf (U.map RT.abs)) → Ev (U.map RT.abs) c) → Fr [] w w' → OddP (U.map RT.abs) xs w (.returned (.bool false)) w') := fun w' h f => OddP.no h f
  have HYES : Hid (∀ w', Fr [] w w' → OddP (U.map RT.abs) xs w (.returned (.bool true)) w') := fun w' f => OddP.yes f
  generalize reachR (U.map RT.abs) xs = ol at *
  obtain ⟨m, hm⟩ : ∃ m, ol.length = m := ⟨_, rfl⟩
  have HM : Hid (ol.length = m) := hm
  have HX : Hid (xs.length = n) := hxn
  have HCL : Hid (∀ i, (cellsOf (U.map RT.abs) i).length ≤ 1000) := fun i => cells_len hU i
  rw [hm] at ho2 hrl
  obtain ⟨a2, c2, rfl, _⟩ := own_slice ho2
  have hmI : (m : Int) ≤ 1000 := by omega
  have HSt : Hid (w2.ownsRow w.heap.size 45 2 (.slice av n cv) (xs ++ (ol.take 0).flatMap (cellsOf (U.map RT.abs))).length (flat (xs ++ (ol.take 0).flatMap (cellsOf (U.map RT.abs))))) := by
    unfold Hid
    simp only [List.take_zero, List.flatMap_nil, List.append_nil, hxn]
    exact hoA
  clear hxn hm f2 F1 ho1 hoA
  go_wp2
  go_loopw [5, 7, 16] (fun va _ ix wr => ∃ (k : Nat), k ≤ m ∧ ix = .int .i64 k ∧ wr.ownsRow w.heap.size 45 2 va (xs ++ (ol.take k).flatMap (cellsOf (U.map RT.abs))).length (flat (xs ++ (ol.take k).flatMap (cellsOf (U.map RT.abs)))) ∧ Fr [] w wr ∧ wr.ownsRow w1.heap.size 2 1 (.slice a2 m c2) m (ol.map (Value.int .i64))) (fun _ _ ix _ => m - (intOf ix).toNat)
  case atStart => exact ⟨0, Nat.zero_le _, rfl, HSt.out, F2, ho2⟩
  case round =>
    clear ho2
    obtain ⟨k, hk, rfl, how, Fw, ho2⟩ := hrel
    obtain ⟨L, hLd⟩ : ∃ L, xs ++ (ol.take k).flatMap (cellsOf (U.map RT.abs)) = L := ⟨_, rfl⟩
    have hLl : L.length ≤ n + k * 1000 := by
      have := fm_len (cellsOf (U.map RT.abs)) HCL.out (ol.take k)
      rw [← hLd, List.length_append, HX.out]
      simp only [List.length_take] at this
      have := HM.out
      have : min k ol.length ≤ k := Nat.min_le_left _ _
      omega
    rw [hLd] at how
    obtain ⟨a3, c3, rfl, _⟩ := own_slice how
    by_cases hlt : k < m
    · have hx : ol[k]? = some (ol[k]'(by rw [HM.out]; exact hlt)) := List.getElem?_eq_getElem _
      obtain ⟨g, rfl, q0⟩ := row_at ho2 hx
      obtain ⟨o, ho'⟩ := hth _ (List.mem_of_getElem? hx)
      have HT : Hid (xs ++ (ol.take (k + 1)).flatMap (cellsOf (U.map RT.abs)) = L ++ cellsOf (U.map RT.abs) (ol[k]'(by rw [HM.out]; exact hlt))) := by
        unfold Hid
        rw [List.take_add_one, hx, ← hLd]
        simp only [Option.toList_some, List.flatMap_append, List.flatMap_cons, List.flatMap_nil, List.append_nil, List.append_assoc]
      generalize ol[k]'(by rw [HM.out]; exact hlt) = i0 at *
      obtain ⟨i, u, hpe, hu, rfl, hil⟩ := thing_in ho'
      simp only [Prod.mk.injEq, true_and] at hpe
      subst hpe
      have hcu : cellsOf (U.map RT.abs) (i : Int) = u.cells := by unfold cellsOf; rw [ho']; rfl
      rw [hcu] at HT
      obtain ⟨gs, cs, a4, c4, hsv, hsl, hrd⟩ := R.reads hu
      obtain ⟨r0, r1, r2⟩ := hrd wr Fw
      have hul := hU u (List.mem_of_getElem? hu)
      have hil2 : (i : Int) < (U.length : Int) := by omega
      have hulI : (u.cells.length : Int) ≤ 1000 := by omega
      have hUlI : (U.length : Int) ≤ 1000 := by omega
      have hkI : (k : Int) < (m : Int) := by omega
      have hth' := own_fr (R.th u (List.mem_of_getElem? hu)) Fw (by simp)
      rw [hsl] at hth'
      have hn4 : a4 = none → u.cells.length = 0 ∧ c4 = 0 := fun e => by
        subst e
        rcases hth'.2 with ⟨e1, _⟩ | ⟨g, cap, cur, e1, _⟩
        · injection e1 with _ e2 e3
          exact ⟨e2, e3⟩
        · injection e1 with e1
          cases e1
      have hs4 : ∀ ad, a4 = some ad → ∀ j x, (flat u.cells)[j]? = some x → wr.cell? (ad.add j) = some x := fun ad e j x hx => by
        obtain ⟨g, c, e1, hc, _⟩ := own_cells hth' hx
        injection e1 with e1
        rw [e] at e1
        injection e1 with e1
        subst e1
        rw [Addr.add_lit, Nat.zero_add]
        exact hc
      have hf4 : (flat u.cells).length = u.cells.length * 2 := flat_length _
      have ho4 := flat_one u.cells
      have hm1 : L.length + u.cells.length ≤ maxLen := by have : maxLen = 9223372036854775807 := rfl; omega
      have hm2 : (L.length + u.cells.length) * 16 ≤ 140737488355328 := by omega
      have hbs : w.heap.size ≤ wr.heap.size := Fw.size
      clear hx ho' hcu hrd hLd
      go_wp2_with (at_builtin; go_loud (refine wpList_append_o _ rfl _ _ 23 rfl w.heap.size 45 i45 (.agg #[.int .i64 0, .int .i64 0]) 2 16 under23 hi hz hs hby rfl (by decide) (.slice a3 L.length c3) L.length (flat L) rfl how a4 u.cells.length c4 (flat u.cells) rfl hf4 hn4 hs4 ho4 hm1 hm2 hbs ?_))
      intro v5 w5 ho5 hg5 hk5
      have f5 : Fr [] w w5 := Fr.grown Fw hg5 (fun k e => .inr (how.lt k e).1)
      have ho6 := own_fr ho2 (Fr.ofGrown hg5) (fun k hk hm => by simp only [Option.mem_toList] at hm; exact own_ne2 ho2 how (by decide) k hk hm)
      have ho5' : w5.ownsRow w.heap.size 45 2 v5 (xs ++ (ol.take (k + 1)).flatMap (cellsOf (U.map RT.abs))).length (flat (xs ++ (ol.take (k + 1)).flatMap (cellsOf (U.map RT.abs)))) := by
        rw [HT.out, List.length_append, flat_app]
        exact ho5
      obtain ⟨a6, c6, rfl, _⟩ := own_slice ho5
      clear hg5 hk5 ho5 r0 r1 r2 q0 how
      go_wp2
      go_roundw
      case rel => exact ⟨k + 1, by omega, by go_num, ho5', f5, ho6⟩
      case measure => simp [intOf]; omega
    · have hkI : ¬ (k : Int) < (m : Int) := by omega
      have hke : k = m := by omega
      have HL : Hid (xs ++ ol.flatMap (cellsOf (U.map RT.abs)) = L) := by unfold Hid; rw [← hLd, List.take_of_length_le (by rw [HM.out]; omega)]
      have hLlI : (L.length : Int) ≤ 1001000 := by
        have : k * 1000 ≤ 1000 * 1000 := Nat.mul_le_mul_right _ (by omega)
        omega
      have HEND : Hid (∀ w', (∀ c, c ∈ L → Ev (U.map RT.abs) c) → Fr [] w w' → OddP (U.map RT.abs) xs w (.returned (.bool false)) w') := fun w' h f => HNO.out w' (by rw [HL.out]; exact h) f
      clear HNO hLd HL hLl ho2 HCL hth HSt
      go_wp2
      go_loopw [9, 33] (fun _ ix wr' => ∃ (j : Nat), j ≤ L.length ∧ ix = .int .i64 j ∧ Fr [] wr wr' ∧ Hid (∀ c, c ∈ L.take j → Ev (U.map RT.abs) c)) (fun _ ix _ => L.length - (intOf ix).toNat)
      case atStart => exact ⟨0, Nat.zero_le _, rfl, Fr.refl _ _, fun c hc => by simp at hc⟩
      case round =>
        obtain ⟨j, hj, rfl, fw, HE⟩ := hrel
        by_cases hlt2 : j < L.length
        · have hx : L[j]? = some (L[j]'hlt2) := List.getElem?_eq_getElem _
          have how' := own_fr how fw (by simp)
          have hcell : ∃ g, a3 = some ⟨g, 0, none⟩ ∧ wr.cell? ⟨g, j * 2, none⟩ = some (.int .i64 (L[j]'hlt2).1) ∧ wr.cell? ⟨g, j * 2 + 1, none⟩ = some (.int .i64 (L[j]'hlt2).2) := by
            have ha := flat_at _ _ _ hx
            obtain ⟨g, c, e, hc, _⟩ := own_cells how' ha.1
            obtain ⟨g', c', e', hc', _⟩ := own_cells how' ha.2
            injection e with e1
            injection e' with e1'
            rw [e1] at e1'
            injection e1' with e1'
            injection e1' with e1'
            subst e1'
            exact ⟨g, e1, hc, hc'⟩
          obtain ⟨g, rfl, z0, z1⟩ := hcell
          have HT : Hid (L.take (j + 1) = L.take j ++ [L[j]'hlt2]) := by unfold Hid; rw [List.take_add_one, hx]; rfl
          generalize L[j]'hlt2 = x at *
          obtain ⟨x1, x2⟩ := x
          have HN : Ev (U.map RT.abs) (x1, x2) → Hid (∀ c, c ∈ L.take (j + 1) → Ev (U.map RT.abs) c) := fun h c hc => by
            rw [HT.out] at hc
            simp only [List.mem_append, List.mem_singleton] at hc
            rcases hc with hc | rfl
            · exact HE.out c hc
            · exact h
          have hkJ : (j : Int) < (L.length : Int) := by omega
          have FR := fw.alloc (.cells #[.int .i64 x1, .int .i64 x2] 45)
          have FB : Fr [] w (wr.alloc (.cells #[.int .i64 x1, .int .i64 x2] 45)) := Fw.trans FR
          clear hx how' HT
          by_cases h0 : x1 = 0
          · subst h0
            have HN := HN (.inl rfl)
            go_wp2
            go_roundw
            case rel => exact ⟨j + 1, by omega, by go_num, FR, HN⟩
            case measure => simp [intOf]; omega
          · have hd0 : (x1 == 0) = false := by simpa using h0
            by_cases h1 : x1 = 1 ∧ x2 = 0
            · obtain ⟨rfl, rfl⟩ := h1
              have HN := HN (.inr (.inl rfl))
              go_wp2
              go_roundw
              case rel => exact ⟨j + 1, by omega, by go_num, FR, HN⟩
              case measure => simp [intOf]; omega
            · cases ht : thingAt (U.map RT.abs) (x1, x2) with
              | none =>
                have CA := At_bad (R.frame FB (by simp)) x1 x2 (thing_out ht)
                have HY : Hid (∀ w', Fr [] w w' → OddP (U.map RT.abs) xs w (.returned (.bool true)) w') := HYES
                clear HN ht
                by_cases h2 : x1 = 1
                · subst h2
                  have hd2 : (x2 == 0) = false := by simpa using h1
                  go_wp2_with fail
                  refine CA.mono ?_
                  rintro e w7 ⟨rfl, f7⟩
                  have FF : Hid (Fr [] w w7) := FB.trans f7
                  clear CA
                  go_wp2
                  go_ret
                  exact HY.out _ FF.out
                · have hd2 : (x1 == 1) = false := by simpa using h2
                  go_wp2_with fail
                  refine CA.mono ?_
                  rintro e w7 ⟨rfl, f7⟩
                  have FF : Hid (Fr [] w w7) := FB.trans f7
                  clear CA
                  go_wp2
                  go_ret
                  exact HY.out _ FF.out
              | some o =>
                obtain ⟨i, u, hpe, hu, rfl, hil⟩ := thing_in ht
                simp only [Prod.mk.injEq] at hpe
                obtain ⟨rfl, rfl⟩ := hpe
                have HN := HN (.inr (.inr ⟨_, ht⟩))
                have CA := At_ok (R.frame FB (by simp)) (i : Int) (by omega) (by omega)
                have hi0 : decide ((i : Int) < 0) = false := by simp
                clear ht
                go_wp2_with fail
                refine CA.mono ?_
                rintro e w7 ⟨rfl, f7⟩
                have FR7 := FR.trans f7
                clear CA
                go_wp2
                go_roundw
                case rel => exact ⟨j + 1, by omega, by go_num, FR7, HN⟩
                case measure => simp [intOf]; omega
        · have hkJ : ¬ (j : Int) < (L.length : Int) := by omega
          have hje : j = L.length := by omega
          have HA : Hid (∀ c, c ∈ L → Ev (U.map RT.abs) c) := fun c hc => HE.out c (by rw [hje, List.take_length]; exact hc)
          have FF : Hid (Fr [] w wr) := Fw.trans fw
          clear HE hje
          go_wp2
          go_ret
          exact HEND.out _ HA.out FF.out
end Go.Proofs.YtefkcmeeagflmaaDoor
