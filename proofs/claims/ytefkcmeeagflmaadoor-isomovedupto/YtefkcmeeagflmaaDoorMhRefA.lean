/-
  The document's Reach: the numbers of the things that are reached; conditions: things are few, numbers are of 64 bits.
-/
import Derived.Test.YtefkcmeeagflmaaDoorMgDNND
namespace Go.Proofs.YtefkcmeeagflmaaDoor
open Go.RowKit
set_option linter.unusedVariables false
set_option linter.unusedSimpArgs false

/-- A number's place, or -1. -/
def fnd (out : List Int) (n : Int) : Int := match idx out n with | some k => (k : Int) | none => -1

set_option maxRecDepth 100000 in
set_option maxHeartbeats 1000000 in
theorem find_any (w : World) (out : List Int) (v : Value) (B : Nat) (ho : w.ownsRow B 2 1 v out.length (out.map (Value.int .i64))) (hm : out.length ≤ 1000000) (n : Int) :
    Calls Tryd.prog 48 #[v, .int .i64 n] w fun e w' => e = .returned (.int .i64 (fnd out n)) ∧ Fr [] w w' := by
  obtain ⟨a, c, rfl, _⟩ := own_slice ho
  have HM : Hid (out.length ≤ 1000000) := hm
  obtain ⟨len, hlen⟩ : ∃ len, out.length = len := ⟨_, rfl⟩
  have HN : Hid (out.length = len) := hlen
  rw [hlen] at ho ⊢
  have hlI : (len : Int) ≤ 1000000 := by omega
  clear hm hlen
  go_enter Tryd.func48, Tryd.ntmps48
  go_wp2
  go_loopw [5, 6, 9] (fun _ _ i wr => ∃ k : Nat, k ≤ len ∧ i = .int .i64 k ∧ wr = w ∧ idx (out.take k) n = none) (fun _ _ i _ => len - (intOf i).toNat)
  case atStart => exact ⟨0, Nat.zero_le _, rfl, rfl, by simp [idx]⟩
  case round =>
    obtain ⟨k, hk, rfl, rfl, hno⟩ := hrel
    by_cases hlt : k < len
    · have hx : out[k]? = some (out[k]'(by rw [HN.out]; exact hlt)) := List.getElem?_eq_getElem _
      have hcell : ∃ g, a = some ⟨g, 0, none⟩ ∧ wr.cell? ⟨g, k, none⟩ = some (.int .i64 (out[k]'(by rw [HN.out]; exact hlt))) := by
        obtain ⟨g', c', e', hc, _⟩ := own_cells ho (j := k) (x := .int .i64 (out[k]'(by rw [HN.out]; exact hlt))) (by simp [hx])
        injection e' with e1
        exact ⟨g', e1, hc⟩
      obtain ⟨g, rfl, hc⟩ := hcell
      have HT : Hid (out.take (k + 1) = out.take k ++ [out[k]'(by rw [HN.out]; exact hlt)]) := by unfold Hid; rw [List.take_add_one, hx]; rfl
      have HD : Hid (out = out.take k ++ out[k]'(by rw [HN.out]; exact hlt) :: out.drop (k + 1)) := by
        unfold Hid
        rw [← List.drop_eq_getElem_cons, List.take_append_drop]
      have HK : Hid ((out.take k).length = k) := by unfold Hid; rw [List.length_take]; have := HN.out; omega
      generalize out[k]'(by rw [HN.out]; exact hlt) = x at *
      have hkI : (k : Int) < (len : Int) := by omega
      clear hx
      by_cases he : x = n
      · subst he
        have HF : Hid (fnd out x = (k : Int)) := by
          unfold Hid fnd
          rw [HD.out, idx_app, hno]
          simp [idx, HK.out]
        have hno' : Hid (idx (out.take k) x = none) := hno
        clear hno
        go_wp2
        go_ret
        exact ⟨by rw [HF.out]; rfl, Fr.refl _ _⟩
      · have he' : (x == n) = false := by simpa using he
        have hno' : Hid (idx (out.take (k + 1)) n = none) := by
          unfold Hid
          rw [HT.out, idx_one, hno]
          simp [he]
        clear hno
        go_wp2
        go_roundw
        case rel => exact ⟨k + 1, by omega, by go_num, by first | trivial | rfl, hno'.out⟩
        case measure => simp [intOf]; omega
    · obtain rfl : k = len := by omega
      have HF : Hid (fnd out n = -1) := by
        unfold Hid fnd
        rw [List.take_of_length_le (by rw [HN.out]; omega)] at hno
        rw [hno]
      clear hno
      go_wp2
      go_ret
      exact ⟨by rw [HF.out]; rfl, Fr.refl _ _⟩

theorem lst_fold (f : Int × Int → List Int → List UInt8 × List Int) : ∀ (s : List UInt8) (x : List (Int × Int)) (out : List Int), (lstR f s x out).2 = x.foldl (fun o v => (f v o).2) out
  | _, [], out => rfl
  | s, v :: r, out => by rw [lstR]; exact lst_fold f [32] r _
theorem fold_take (f : List Int → Int × Int → List Int) (x : List (Int × Int)) (k : Nat) (v : Int × Int) (h : x[k]? = some v) (out : List Int) : (x.take (k + 1)).foldl f out = f ((x.take k).foldl f out) v := by
  rw [List.take_add_one, h]
  simp [List.foldl_append]

theorem fold_len (A : List (Int × List (Int × Int))) (n : Nat) (x : List (Int × Int)) (out : List Int) : (x.foldl (fun o v => (valR A n v o).2) out).length + lft (fun _ => 1) A (x.foldl (fun o v => (valR A n v o).2) out) ≤ out.length + lft (fun _ => 1) A out := by
  have := lst_len (A := A) (val_len A n) [] x out
  rwa [lst_fold] at this
theorem fold_lft (A : List (Int × List (Int × Int))) (n : Nat) (x : List (Int × Int)) (out : List Int) : lft (fun _ => 1) A (x.foldl (fun o v => (valR A n v o).2) out) ≤ lft (fun _ => 1) A out := by
  obtain ⟨t, ht⟩ := lst_pre (val_pre A n) [] x out
  rw [lst_fold] at ht
  rw [ht]
  exact lft_app _ _ _ _
theorem wf_zero : (Lit.int .i64 (0 : Int)).wf = true := by decide

theorem thing_in {U : List RT} {p : Int × Int} {o : Int × List (Int × Int)} (h : thingAt (U.map RT.abs) p = some o) : ∃ (i : Nat) (u : RT), p = (2, (i : Int)) ∧ U[i]? = some u ∧ o = u.abs ∧ i < U.length := by
  unfold thingAt at h
  split at h
  · rename_i h2
    rw [List.getElem?_map] at h
    cases hu : U[p.2.toNat]? with
    | none => rw [hu] at h; simp at h
    | some u =>
      rw [hu] at h
      simp at h
      refine ⟨p.2.toNat, u, ?_, hu, h.symm, (List.getElem?_eq_some_iff.1 hu).1⟩
      have : ((p.2.toNat : Nat) : Int) = p.2 := by omega
      rw [this, ← h2.1]
  · cases h
theorem thing_out {U : List RT} {p : Int × Int} (h : thingAt (U.map RT.abs) p = none) : badN U.length p.1 p.2 := by
  intro hb
  unfold thingAt at h
  rw [if_pos ⟨hb.1, hb.2.1⟩, List.getElem?_map] at h
  have : p.2.toNat < U.length := by omega
  rw [List.getElem?_eq_getElem this] at h
  simp at h

theorem rrep_keep {w w' : World} {B b : Nat} {lim used : Int} {sv : Value} {rk rn : Int} {U : List RT} (R : RRep w B b lim used sv rk rn U) {B0 n : Nat} {v : Value} {xs : List Value} (ho : w.ownsRow B0 2 1 v n xs) (f : Fr v.ownBlock.toList w w') : RRep w' B b lim used sv rk rn U := by
  refine R.fr f (fun k hk hm => ?_)
  simp only [Option.mem_toList] at hm
  unfold rfoot at hk
  simp only [List.mem_cons, List.mem_append, Option.mem_toList, List.mem_flatMap] at hk
  rcases hk with rfl | hk | ⟨u, hu, hk⟩
  · exact own_ne ho R.hb (by decide) hm
  · exact own_ne2 ho R.row (by decide) k hm hk
  · exact own_ne2 ho (R.th u hu) (by decide) k hm hk

/-- What a call that tells more leaves. -/
def Told (w : World) (B0 : Nat) (v : Value) (out : List Int) (e : Ending) (w' : World) : Prop :=
  ∃ v', e = .returned v' ∧ w'.ownsRow B0 2 1 v' out.length (out.map (Value.int .i64)) ∧ Fr v.ownBlock.toList w w' ∧ (∀ k, v'.ownBlock = some k → v.ownBlock = some k ∨ w.heap.size ≤ k)

set_option maxRecDepth 100000 in
set_option maxHeartbeats 4000000 in
theorem reach_any {Bh b : Nat} {lim used : Int} {svh : Value} {rk rn : Int} {U : List RT} (hU : ∀ u, u ∈ U → u.cells.length ≤ 1000000) (hUl : U.length ≤ 1000000) : ∀ (fu : Nat) (w : World) (p : Int × Int) (out : List Int) (v : Value) (B0 : Nat), RRep w Bh b lim used svh rk rn U → w.ownsRow B0 2 1 v out.length (out.map (Value.int .i64)) → B0 ≤ w.heap.size → out.length + lft (fun _ => 1) (U.map RT.abs) out ≤ 1000000 → lft (fun _ => 1) (U.map RT.abs) out < fu →
    Calls Tryd.prog 29 #[.pointer (some ⟨b, 0, none⟩), .agg #[.int .i64 p.1, .int .i64 p.2], v] w (Told w B0 v (valR (U.map RT.abs) fu p out).2)
  | 0, w, p, out, v, B0, _, _, _, _, h => by omega
  | fu + 1, w, p, out, v, B0, R, ho, hB, hsz, hf => by
    obtain ⟨i2, hi, hz, hs, hby⟩ := info_parts info2
    obtain ⟨av, cv, rfl, _⟩ := own_slice ho
    have hlo : out.length ≤ 1000000 := by omega
    have f0 : Fr [] w (w.alloc (.cells #[.int .i64 p.1, .int .i64 p.2] 45)) := (Fr.refl _ _).alloc _
    have B1 : (w.alloc (.cells #[.int .i64 p.1, .int .i64 p.2] 45)).heap[w.heap.size]? = some (.cells #[.int .i64 p.1, .int .i64 p.2] 45 (0, 0)) := heap_alloc_new w _
    have HV : Hid ((valR (U.map RT.abs) (fu + 1) p out) = (valR (U.map RT.abs) (fu + 1) p out)) := rfl
    go_enter Tryd.func29, Tryd.ntmps29
    go_wp2_with fail
    generalize w.alloc (.cells #[.int .i64 p.1, .int .i64 p.2] 45) = w0 at *
    have R0 := R.frame f0 (by simp)
    have ho0 := own_fr ho f0 (by simp)
    cases ht : thingAt (U.map RT.abs) p with
    | none =>
      have hv : (valR (U.map RT.abs) (fu + 1) p out).2 = out := by rw [valR, ht]
      refine (At_bad R0 p.1 p.2 (thing_out ht)).mono ?_
      rintro e w1 ⟨rfl, f1⟩
      have ho1 := own_fr ho0 f1 (by simp)
      have F1 := f0.trans f1
      go_wp2
      go_ret
      exact ⟨.slice av out.length cv, rfl, by rw [hv]; exact ho1, F1.sub (by simp), fun k hk => .inl hk⟩
    | some o =>
      obtain ⟨i, u, rfl, hu, rfl, hil⟩ := thing_in ht
      refine (At_ok R0 (i : Int) (by omega) (by omega)).mono ?_
      rintro e w1 ⟨rfl, f1⟩
      have ho1 := own_fr ho0 f1 (by simp)
      have F1 := f0.trans f1
      have R1 := R0.frame f1 (by simp)
      have hi0 : decide ((i : Int) < 0) = false := by simp
      go_wp2_with fail
      refine (find_any w1 out _ B0 ho1 hlo (i : Int)).mono ?_
      rintro e w2 ⟨rfl, f2⟩
      have ho2 := own_fr ho1 f2 (by simp)
      have F2 := F1.trans f2
      have R2 := R1.frame f2 (by simp)
      cases hix : idx out (i : Int) with
      | some k =>
        have hv : (valR (U.map RT.abs) (fu + 1) (2, (i : Int)) out).2 = out := by rw [valR, ht]; simp only [hix]
        have hfk : fnd out (i : Int) = (k : Int) := by unfold fnd; rw [hix]
        rw [hfk]
        go_wp2
        go_ret
        exact ⟨.slice av out.length cv, rfl, by rw [hv]; exact ho2, F2.sub (by simp), fun k hk => .inl hk⟩
      | none =>
        have hv : (valR (U.map RT.abs) (fu + 1) (2, (i : Int)) out).2 = u.cells.foldl (fun o v => (valR (U.map RT.abs) fu v o).2) (out ++ [(i : Int)]) := by
          rw [valR, ht]
          simp only [hix, lst_fold]
          rfl
        have hfk : fnd out (i : Int) = -1 := by unfold fnd; rw [hix]
        rw [hfk]
        have hmx : out.length + 1 ≤ maxLen := by have : maxLen = 9223372036854775807 := rfl; omega
        have hmb : (out.length + 1) * 8 ≤ 140737488355328 := by omega
        have hB2 : B0 ≤ w2.heap.size := by have := F2.size; omega
        go_wp2_with (at_builtin; go_loud (refine wpList_append_fp _ rfl _ _ 33 rfl B0 2 i2 (.int .i64 0) 1 8 under33 hi hz hs hby rfl (by decide) (.slice av out.length cv) out.length (out.map (Value.int .i64)) rfl ?own _ 1 _ [.int .i64 (i : Int)] rfl rfl ?news ?one ?max ?byt ?base ?_))
        case own => exact ho2.alloc _
        case news => exact cell_one_new w2 _ 2
        case one => simp [Value.oneCell']
        case max => exact hmx
        case byt => exact hmb
        case base => simp; omega
        intro v3 w3 ho3 hg3 hk3
        have f3 : Fr (Value.slice av out.length cv).ownBlock.toList w2 w3 := ((Fr.refl _ _).alloc _).trans ((Fr.ofGrown hg3).sub (fun k hk => .inl hk))
        have ho3' : w3.ownsRow B0 2 1 v3 (out ++ [(i : Int)]).length ((out ++ [(i : Int)]).map (Value.int .i64)) := by
          rw [List.length_append, List.map_append]
          exact ho3
        have R3 := rrep_keep R2 ho2 f3
        have F3 : Fr (Value.slice av out.length cv).ownBlock.toList w w3 := (F2.sub (by simp)).trans f3
        have hk3' : ∀ k, v3.ownBlock = some k → (Value.slice av out.length cv).ownBlock = some k ∨ w.heap.size ≤ k := fun k hk => by
          rcases hk3 k hk with h1 | h1
          · exact .inl h1
          · have := F2.size
            exact .inr (by first | omega | (simp at h1; omega))
        obtain ⟨a3, c3, hv3, _⟩ := own_slice ho3
        subst hv3
        have HS1 : lft (fun _ => 1) (U.map RT.abs) (out ++ [(i : Int)]) + 1 = lft (fun _ => 1) (U.map RT.abs) out := lft_one (fun _ => 1) ht hix
        obtain ⟨gs, cs, a4, c4, hsv, hsl, hrd⟩ := R3.reads hu
        obtain ⟨r0, r1, r2⟩ := hrd w3 (Fr.refl _ _)
        have hul := hU u (List.mem_of_getElem? hu)
        have hil2 : (i : Int) < (U.length : Int) := by omega
        have hulI : (u.cells.length : Int) ≤ 1000000 := by omega
        have hUlI : (U.length : Int) ≤ 1000000 := by omega
        have Hlies : Hid (∀ w', RRep w' Bh b lim used svh rk rn U → ∀ (k : Nat) (x : Int × Int), u.cells[k]? = some x → ∃ g o, a4 = some ⟨g, o, none⟩ ∧ w'.cell? ⟨g, o + k * 2, none⟩ = some (.int .i64 x.1) ∧ w'.cell? ⟨g, o + k * 2 + 1, none⟩ = some (.int .i64 x.2)) := fun w' R' k x hx => by
          have hth := R'.th u (List.mem_of_getElem? hu)
          rw [hsl] at hth
          have ha := flat_at _ _ _ hx
          obtain ⟨g, c, e, hc, _⟩ := own_cells hth ha.1
          obtain ⟨g', c', e', hc', _⟩ := own_cells hth ha.2
          injection e with e1
          injection e' with e1'
          rw [e1] at e1'
          injection e1' with e1'
          injection e1' with e1'
          subst e1'
          exact ⟨g, 0, e1, by rw [Nat.zero_add]; exact hc, by rw [Nat.zero_add]; exact hc'⟩
        have HCL : Hid ((valR (U.map RT.abs) (fu + 1) (2, (i : Int)) out).2 = u.cells.foldl (fun o v => (valR (U.map RT.abs) fu v o).2) (out ++ [(i : Int)])) := hv
        clear hv hrd HV hix ht hi hz hs hby hg3 hk3 ho3 ho2 f3 R2 R1 R0 ho1 ho0 f0 f1 f2 F1 F2 B1
        go_wp2
        have hfl := fold_len (U.map RT.abs) fu u.cells
        go_loopw [2, 9, 35] (fun vo _ ix wr => ∃ (k : Nat), k ≤ u.cells.length ∧ ix = .int .i64 k ∧ wr.ownsRow B0 2 1 vo ((u.cells.take k).foldl (fun o v => (valR (U.map RT.abs) fu v o).2) (out ++ [(i : Int)])).length (((u.cells.take k).foldl (fun o v => (valR (U.map RT.abs) fu v o).2) (out ++ [(i : Int)])).map (Value.int .i64)) ∧ Fr (Value.slice av out.length cv).ownBlock.toList w wr ∧ (∀ k, vo.ownBlock = some k → (Value.slice av out.length cv).ownBlock = some k ∨ w.heap.size ≤ k) ∧ RRep wr Bh b lim used svh rk rn U) (fun _ _ ix _ => u.cells.length - (intOf ix).toNat)
        case atStart => exact ⟨0, Nat.zero_le _, rfl, ho3', F3, hk3', R3⟩
        case round =>
          obtain ⟨k, hk, rfl, how, Fw, hkw, Rw⟩ := hrel
          by_cases hlt : k < u.cells.length
          · have hx : u.cells[k]? = some (u.cells[k]'hlt) := List.getElem?_eq_getElem _
            obtain ⟨g, o, rfl, x0, x1⟩ := Hlies.out wr Rw k _ hx
            have HT : Hid ((u.cells.take (k + 1)).foldl (fun o v => (valR (U.map RT.abs) fu v o).2) (out ++ [(i : Int)]) = (valR (U.map RT.abs) fu (u.cells[k]'hlt) ((u.cells.take k).foldl (fun o v => (valR (U.map RT.abs) fu v o).2) (out ++ [(i : Int)]))).2) := fold_take _ _ _ _ hx _
            have hl1 := fold_len (U.map RT.abs) fu (u.cells.take k) (out ++ [(i : Int)])
            have hl2 := fold_lft (U.map RT.abs) fu (u.cells.take k) (out ++ [(i : Int)])
            generalize u.cells[k]'hlt = x at *
            generalize (u.cells.take k).foldl (fun o v => (valR (U.map RT.abs) fu v o).2) (out ++ [(i : Int)]) = outk at *
            have hkI : (k : Int) < (u.cells.length : Int) := by omega
            have fb : Fr [] wr (wr.alloc (.cells #[.int .i64 x.1, .int .i64 x.2] 45)) := (Fr.refl _ _).alloc _
            have hBw : B0 ≤ wr.heap.size := by have := Fw.size; omega
            have C := reach_any hU hUl fu (wr.alloc (.cells #[.int .i64 x.1, .int .i64 x.2] 45)) x outk u2 B0 (Rw.frame fb (by simp)) (how.alloc _) (by simp; omega) (by simp only [List.length_append, List.length_singleton] at hl1; omega) (by omega)
            have HB : Hid (w.heap.size ≤ wr.heap.size) := Fw.size
            have how' := how.alloc (.cells #[.int .i64 x.1, .int .i64 x.2] 45)
            have Rb := Rw.frame fb (by simp)
            obtain ⟨a5, c5, hv5, _⟩ := own_slice how
            subst hv5
            clear hl1 hl2 hx
            go_wp2_with fail
            refine C.mono ?_
            rintro e w5 ⟨v5, rfl, ho5, f5, hk5⟩
            have F5 : Fr (Value.slice av out.length cv).ownBlock.toList w w5 := by
              have big : Fr ((Value.slice av out.length cv).ownBlock.toList ++ (Value.slice a5 outk.length c5).ownBlock.toList) w w5 := ((Fw.sub (fun k hk => .inl (by simp only [List.mem_append]; exact .inl hk))).trans (fb.sub (by simp))).trans (f5.sub (fun k hk => .inl (by simp only [List.mem_append]; exact .inr hk)))
              refine big.sub (fun k hk => ?_)
              simp only [List.mem_append, Option.mem_toList] at hk ⊢
              rcases hk with hk | hk
              · exact .inl hk
              · exact hkw k hk
            have hk6 : ∀ k, v5.ownBlock = some k → (Value.slice av out.length cv).ownBlock = some k ∨ w.heap.size ≤ k := fun k hk => by
              rcases hk5 k hk with h1 | h1
              · exact hkw k h1
              · have := HB.out
                simp at h1
                exact .inr (by omega)
            have R5 := rrep_keep Rb how' f5
            obtain ⟨a6, c6, hv6, _⟩ := own_slice ho5
            subst hv6
            clear C f5 hk5 how how' Rb x0 x1
            go_wp2
            go_roundw
            case rel => exact ⟨k + 1, by omega, by go_num, by rw [HT.out]; exact ho5, F5, hk6, R5⟩
            case measure => simp [intOf]; omega
          · have hke : k = u.cells.length := by omega
            have HE : Hid (u.cells.take k = u.cells) := by unfold Hid; rw [hke, List.take_length]
            rw [HE.out] at how
            have hlt' : ¬ (k : Int) < (u.cells.length : Int) := by omega
            have HF : Hid (Fr (Value.slice av out.length cv).ownBlock.toList w wr) := Fw
            have HW := hkw
            have HO : Hid (wr.ownsRow B0 2 1 u2 (u.cells.foldl (fun o v => (valR (U.map RT.abs) fu v o).2) (out ++ [(i : Int)])).length ((u.cells.foldl (fun o v => (valR (U.map RT.abs) fu v o).2) (out ++ [(i : Int)])).map (Value.int .i64))) := how
            clear hke Hlies how hfl
            go_wp2
            go_ret
            exact ⟨u2, rfl, by rw [HCL.out]; exact HO.out, HF.out, HW⟩

set_option maxRecDepth 100000 in
set_option maxHeartbeats 4000000 in
theorem rReach_any {w : World} {Bh b : Nat} {lim used : Int} {svh : Value} {rk rn : Int} {U : List RT} (R : RRep w Bh b lim used svh rk rn U) (hU : ∀ u, u ∈ U → u.cells.length ≤ 1000000) (hUl : U.length ≤ 1000000) (xs : List (Int × Int)) (a1 : Option Addr) (n c1 : Nat) (hxn : xs.length = n) (hl : Lies w a1 xs) (hn : (n : Int) ≤ 1000000) :
    Calls Tryd.prog 15 #[.pointer (some ⟨b, 0, none⟩), .slice a1 n c1] w fun e w' => ∃ v, e = .returned v ∧ Fr [] w w' ∧ w'.ownsRow w.heap.size 2 1 v (reachR (U.map RT.abs) xs).length ((reachR (U.map RT.abs) xs).map (Value.int .i64)) := by
  have HX : Hid (xs.length = n) := hxn
  have hre : reachR (U.map RT.abs) xs = xs.foldl (fun o v => (valR (U.map RT.abs) ((U.map RT.abs).length + 1) v o).2) [] := by unfold reachR; rw [lst_fold]
  obtain ⟨fu, hfu⟩ : ∃ fu, (U.map RT.abs).length + 1 = fu := ⟨_, rfl⟩
  rw [hfu] at hre
  rw [hre]
  have HFU : Hid (U.length < fu) := by unfold Hid; rw [← hfu]; simp
  have HL0 : Hid (lft (fun _ => 1) (U.map RT.abs) [] ≤ U.length) := by
    have := wg_len (mt []) 0 (U.map RT.abs)
    simp only [List.length_map] at this
    exact this
  clear hxn hre hfu
  go_enter Tryd.func15, Tryd.ntmps15
  go_wp2
  go_loopw [5, 7, 10] (fun vo _ ix wr => ∃ (k : Nat), k ≤ n ∧ ix = .int .i64 k ∧ wr.ownsRow w.heap.size 2 1 vo ((xs.take k).foldl (fun o v => (valR (U.map RT.abs) fu v o).2) []).length (((xs.take k).foldl (fun o v => (valR (U.map RT.abs) fu v o).2) []).map (Value.int .i64)) ∧ Fr [] w wr ∧ RRep wr Bh b lim used svh rk rn U) (fun _ _ ix _ => n - (intOf ix).toNat)
  case atStart => exact ⟨0, Nat.zero_le _, rfl, by simpa using World.ownsRow_nil _ _ _ _, Fr.refl _ _, R⟩
  case round =>
    obtain ⟨k, hk, rfl, how, Fw, Rw⟩ := hrel
    by_cases hlt : k < n
    · have hx : xs[k]? = some (xs[k]'(by rw [HX.out]; exact hlt)) := List.getElem?_eq_getElem _
      obtain ⟨g, o, rfl, x0, x1⟩ := (hl.fr Fw (by simp)).at hx
      have HT : Hid ((xs.take (k + 1)).foldl (fun o v => (valR (U.map RT.abs) fu v o).2) [] = (valR (U.map RT.abs) fu (xs[k]'(by rw [HX.out]; exact hlt)) ((xs.take k).foldl (fun o v => (valR (U.map RT.abs) fu v o).2) [])).2) := fold_take _ _ _ _ hx _
      have hl1 := fold_len (U.map RT.abs) fu (xs.take k) []
      have hl2 := fold_lft (U.map RT.abs) fu (xs.take k) []
      generalize xs[k]'(by rw [HX.out]; exact hlt) = x at *
      generalize (xs.take k).foldl (fun o v => (valR (U.map RT.abs) fu v o).2) [] = outk at *
      have hkI : (k : Int) < (n : Int) := by omega
      have fb : Fr [] wr (wr.alloc (.cells #[.int .i64 x.1, .int .i64 x.2] 45)) := (Fr.refl _ _).alloc _
      have hBw : w.heap.size ≤ wr.heap.size := Fw.size
      have HB : Hid (w.heap.size ≤ wr.heap.size) := Fw.size
      have C := reach_any hU hUl fu (wr.alloc (.cells #[.int .i64 x.1, .int .i64 x.2] 45)) x outk u5 w.heap.size (Rw.frame fb (by simp)) (how.alloc _) (by simp; omega) (by have := HL0.out; simp only [List.length_nil] at hl1; omega) (by have := HL0.out; have := HFU.out; omega)
      have how' := how.alloc (.cells #[.int .i64 x.1, .int .i64 x.2] 45)
      have Rb := Rw.frame fb (by simp)
      have hkw := how.lt
      obtain ⟨a5, c5, hv5, _⟩ := own_slice how
      subst hv5
      clear hl1 hl2 hx hBw
      go_wp2_with fail
      refine C.mono ?_
      rintro e w5 ⟨v5, rfl, ho5, f5, hk5⟩
      have F5 : Fr [] w w5 := (((Fw.trans fb).sub (T := (Value.slice a5 outk.length c5).ownBlock.toList) (by simp)).trans f5).sub (fun k hk => .inr (by simp only [Option.mem_toList] at hk; exact (hkw k hk).1))
      have R5 := rrep_keep Rb how' f5
      obtain ⟨a6, c6, hv6, _⟩ := own_slice ho5
      subst hv6
      clear C f5 hk5 how how' Rb x0 x1
      go_wp2
      go_roundw
      case rel => exact ⟨k + 1, by omega, by go_num, by rw [HT.out]; exact ho5, F5, R5⟩
      case measure => simp [intOf]; omega
    · have hke : k = n := by omega
      have HE : Hid (xs.take k = xs) := by unfold Hid; rw [List.take_of_length_le (by rw [HX.out]; omega)]
      rw [HE.out] at how
      have hlt' : ¬ (k : Int) < (n : Int) := by omega
      have HF : Hid (Fr [] w wr) := Fw
      have HO : Hid (wr.ownsRow w.heap.size 2 1 u5 (xs.foldl (fun o v => (valR (U.map RT.abs) fu v o).2) []).length ((xs.foldl (fun o v => (valR (U.map RT.abs) fu v o).2) []).map (Value.int .i64))) := how
      clear hke how
      go_wp2
      go_ret
      exact ⟨u5, rfl, HF.out, HO.out⟩
end Go.Proofs.YtefkcmeeagflmaaDoor
