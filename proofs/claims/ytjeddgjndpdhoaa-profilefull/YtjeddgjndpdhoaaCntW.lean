/-
  ProfileCounts returns true, told of values and worlds; conditions: the acts are of numbers of 64 bits and lie as told.
-/
import Derived.Test.YtjeddgjndpdhoaaCtR
import Derived.Test.YtjeddgjndpdhoaaEchW
import Derived.Deep.Cut
namespace Go.Proofs.Ytjeddgjndpdhoaa
open Go.RowKit Go.Shelf Go.Maps Go.ChangeShapes
set_option linter.unusedVariables false
set_option linter.unusedSimpArgs false

/-- The book behind so many acts. -/
def cntS (t : Int) (l : List (Int × Ky)) : Nat → Bk
  | 0 => ⟨max t 1, [], 0, []⟩
  | i + 1 => match l[i]? with
    | some y => if y.1 = 0 then banB (cntS t l i) y.2 else (hitB (cntS t l i) y.2).1
    | none => cntS t l i
theorem cntS_ban {t : Int} {l : List (Int × Ky)} {i : Nat} {y : Int × Ky} (h : l[i]? = some y) (hd : y.1 = 0) : cntS t l (i + 1) = banB (cntS t l i) y.2 := by simp [cntS, h, hd]
theorem cntS_hit {t : Int} {l : List (Int × Ky)} {i : Nat} {y : Int × Ky} (h : l[i]? = some y) (hd : y.1 ≠ 0) : cntS t l (i + 1) = (hitB (cntS t l i) y.2).1 := by simp [cntS, h, hd]
theorem add_len (O : List Ky) (k : Ky) : (addO O k).length ≤ O.length + 1 := by
  unfold addO; split
  · omega
  · simp
theorem add_mem {O : List Ky} {k x : Ky} (h : x ∈ addO O k) : x ∈ O ∨ x = k := by
  unfold addO at h; split at h
  · exact .inl h
  · simpa using h
theorem cntS_inv {t : Int} (ht : t ≤ 9223372036854775807) {l : List (Int × Ky)} (hl : ∀ y ∈ l, kw y.2) : ∀ i, Ok (cntS t l i) ∧ (cntS t l i).ent ≤ i ∧ (cntS t l i).O.length ≤ i ∧ ∀ x ∈ (cntS t l i).O, kw x
  | 0 => ⟨ok_new t ht, by simp [cntS], by simp [cntS], by simp [cntS]⟩
  | i + 1 => by
    obtain ⟨h1, h2, h3, h4⟩ := cntS_inv ht hl i
    cases hy : l[i]? with
    | none =>
      have e : cntS t l (i + 1) = cntS t l i := by simp [cntS, hy]
      rw [e]
      exact ⟨h1, by omega, by omega, h4⟩
    | some y =>
      have hk := hl y (List.mem_of_getElem? hy)
      by_cases hd : y.1 = 0
      · rw [cntS_ban hy hd]
        refine ⟨ok_ban h1 _, by show (cntS t l i).ent ≤ _; omega, ?_, ?_⟩
        · have := add_len (cntS t l i).O y.2
          show (addO (cntS t l i).O y.2).length ≤ _
          omega
        · intro x hx
          rcases add_mem (show x ∈ addO (cntS t l i).O y.2 from hx) with h | h
          · exact h4 x h
          · rw [h]; exact hk
      · rw [cntS_hit hy hd]
        have hO := (hit_thr (cntS t l i) y.2).2
        refine ⟨ok_hit h1 hk, ?_, by rw [hO]; omega, by rw [hO]; exact h4⟩
        have := hit_ent (cntS t l i) y.2
        omega
/-- How both books lie. -/
structure Two (w : World) (n : Nat) (S : Bk) : Prop where
  a : BA w (n + 2) n (n + 1) S
  r : RBk (n + 4) w (n + 3) S
  z : n + 4 ≤ w.heap.size
theorem Two.fr0 {w w' : World} {n : Nat} {S : Bk} (h : Two w n S) (f : Fr [] w w') : Two w' n S := ⟨h.a.fr f (by simp) (by simp) (by simp), h.r.fr0 f, Nat.le_trans h.z f.size⟩
/-- What a book must be to be asked. -/
structure Good (S : Bk) : Prop where
  ok : Ok S
  ent : S.ent ≤ 100000
  len : S.O.length ≤ 100000
  kw : ∀ x ∈ S.O, kw x
theorem cntS_good {t : Int} (ht : t ≤ 9223372036854775807) {l : List (Int × Ky)} (hl : ∀ y ∈ l, kw y.2) {i : Nat} (hi : i ≤ 1500) : Good (cntS t l i) := by
  obtain ⟨h1, h2, h3, h4⟩ := cntS_inv ht hl i
  exact ⟨h1, by omega, by omega, h4⟩
def CRel (w wr : World) (n : Nat) (S : Bk) : Prop := Hid (Two wr n S) ∧ Hid (Fr [] w wr)
set_option maxRecDepth 100000 in
set_option maxHeartbeats 4000000 in
theorem profileCounts_walk (w : World) (t : Int) (wt : (Lit.int .i64 t).wf = true) (l : List (Int × Ky)) (a : Option Addr) (c : Nat) (hp : ∀ y ∈ l, kw y.2) (hlc : l.length ≤ c) (hcm : c ≤ maxLen) (hno : a = none → c = 0)
    (hat : ∀ (i : Nat) (y : Int × Ky), l[i]? = some y → ∃ b o, a = some ⟨b, o, none⟩ ∧ b < w.heap.size ∧ ∀ (j : Nat) (u : Value), (.int .i64 y.1 :: (kc y.2).toList)[j]? = some u → w.cell? ⟨b, o + i * 11 + j, none⟩ = some u)
    : Calls Try.prog 4 #[.int .i64 t, .slice a l.length c] w fun e w' => e = .returned (.bool true) ∧ Fr [] w w' := by
  have CA := awake_any w
  have HT2 : Hid (t ≤ 9223372036854775807) := (wf64 wt).2
  have HL : Hid (LAt w.heap.size w a l) := fun i y hy => by
    obtain ⟨b, o, e, hb, h⟩ := hat i y hy
    exact ⟨b, o, e, hb, fun j u hu => h j u (by simpa [ac] using hu)⟩
  have HP : Hid (∀ y ∈ l, kw y.2) := hp
  obtain ⟨N, hN⟩ : ∃ N, N = l.length := ⟨_, rfl⟩
  rw [← hN]
  have HN : Hid (N = l.length) := hN
  clear wt hat hp hlc hcm hno hN
  by_cases hq : 1500 < N
  · have hqI : (1500 : Int) < N := by omega
    go_enter Try.func4, Try.ntmps4
    go_wp2_with fail
    refine CA.mono ?_
    rintro e w1 ⟨rfl, f1⟩
    have F1 : Hid (Fr [] w w1) := f1
    clear CA f1
    go_wp2
    go_ret
    exact ⟨rfl, F1.out⟩
  · have hqI : ¬ ((1500 : Int) < N) := by omega
    have hNI : (N : Int) ≤ 1500 := by omega
    have hN5 : N ≤ 1500 := by omega
    clear hq
    go_enter Try.func4, Try.ntmps4
    go_wp2_with fail
    refine CA.mono ?_
    rintro e w1 ⟨rfl, f1⟩
    have F1 : Hid (Fr [] w w1) := f1
    have HS1 : Hid (w.heap.size ≤ w1.heap.size) := f1.size
    have CN := new_any w1 t
    clear CA f1
    go_wp2_with fail
    refine CN.mono ?_
    rintro e w2 ⟨rfl, f2, b2, z2⟩
    have F2 : Hid (Fr [] w w2) := F1.out.trans f2
    have B2 : Hid (BA w2 (w1.heap.size + 2) w1.heap.size (w1.heap.size + 1) ⟨max t 1, [], 0, []⟩) := b2
    have CM := rnew_any (w1.heap.size + 4) w2 t 0
    rw [z2] at CM
    simp only [Nat.add_assoc, Nat.reduceAdd] at CM
    clear f2 b2 z2 CN F1
    go_wp2_with fail
    refine CM.mono ?_
    rintro e w3 ⟨rfl, f3, r3, z3⟩
    have R0 : Hid (CRel w w3 w1.heap.size (cntS t l 0)) := ⟨⟨B2.out.fr f3 (by simp) (by simp) (by simp), r3, by rw [z3]; exact Nat.le_refl _⟩, F2.out.trans f3⟩
    clear f3 r3 z3 CM B2 F2
    generalize w1.heap.size = n at *
    go_wp2_with fail
    go_loopw [8, 24] (fun _ i wr => ∃ j : Nat, j ≤ N ∧ i = .int .i64 j ∧ CRel w wr n (cntS t l j)) (fun _ i _ => N - (intOf i).toNat)
    case atStart => exact ⟨0, Nat.zero_le _, rfl, R0.out⟩
    case round =>
      obtain ⟨j, hj, rfl, hT, hF⟩ := hrel
      by_cases hlt : j < N
      · have G0 : Hid (Good (cntS t l j)) := cntS_good HT2.out HP.out (by omega)
        have G1 : Hid (Good (cntS t l (j + 1))) := cntS_good HT2.out HP.out (by omega)
        have hx : l[j]? = some (l[j]'(by rw [← HN.out]; exact hlt)) := List.getElem?_eq_getElem _
        generalize l[j]'(by rw [← HN.out]; exact hlt) = y at hx
        obtain ⟨gb, go, rfl, hgb, hr⟩ := (HL.out.fr hF.out (by simp)) j y hx
        have HX : Hid (l[j]? = some y) := hx
        have HY : Hid (kw y.2) := HP.out y (List.mem_of_getElem? hx)
        have HR : Hid (wr.rangeAt gb (go + j * 11) (ac y).toList) := hr
        have hltI : (j : Int) < N := by omega
        obtain ⟨X, hX⟩ : ∃ X, X = wr.alloc (.cells (ac y) 38) := ⟨_, rfl⟩
        have zz := heap_alloc_new wr (.cells Z38 38)
        have HS : Hid ((wr.alloc (.cells Z38 38)).setRow wr.heap.size (ac y) = X) := by rw [hX]; exact World.setRow_alloc_new wr _ _ _
        have FX : Fr [] wr X := by rw [hX]; exact (Fr.refl _ _).alloc _
        have XX : Hid (X.heap[wr.heap.size]? = some (.cells (ac y) 38 (0, 0))) := by rw [hX]; exact heap_alloc_new _ _
        have TX : Hid (Two X n (cntS t l j)) := hT.out.fr0 FX
        have HF : Hid (Fr [] w X) := hF.out.trans FX
        have HZ : Hid (n + 4 ≤ wr.heap.size) := hT.out.z
        unfold Z38 at zz HS
        clear hX FX hT hF hr hx
        by_cases hd : y.1 = 0
        · have HE : Hid (cntS t l (j + 1) = banB (cntS t l j) y.2) := cntS_ban HX.out hd
          have x0 : X.cell? ⟨wr.heap.size, 0, none⟩ = some (.int .i64 0) := at_cells XX.out 0 (by rw [← hd]; rfl)
          have CB := ban_any TX.out.a G0.out.ok.nd G0.out.len HY.out
          clear hd
          go_wp2_with (
              first
                | refine wpList_load38 rfl (.tmp 26) rfl gb (go + j * 11) rfl y HR.out ?_
                | (refine wpList_store_row rfl 38 (.tmp 8) (.tmp 27) rfl wr.heap.size (ac y) rfl rfl 38 _ zz (by rw [info38, ac_size]) (by rw [ac_size]; rfl) (ac_one _) ?_; rw [HS.out])
                | refine wpList_load28 rfl (.tmp 32) rfl wr.heap.size 1 rfl y.2 (range_act XX.out) ?_)
          refine CB.mono ?_
          rintro e X1 ⟨rfl, f1, a1⟩
          have X1X : Hid (X1.heap[wr.heap.size]? = some (.cells (ac y) 38 (0, 0))) := (f1.block _ (Array.getElem?_eq_some_iff.1 XX.out).1 (by have := HZ.out; simp; omega)).trans XX.out
          have A1 : Hid (BA X1 (n + 2) n (n + 1) (cntS t l (j + 1))) := by rw [HE.out]; exact a1
          have F1 : Hid (Fr [] w X1) := HF.out.over f1 (fun i hi => .inr (by have := HS1.out; simp at hi; omega))
          have R1 := TX.out.r.fr f1 (by simp) (fun q hq => .inl (by simp at hq; omega))
          have Z1 : Hid (n + 4 ≤ X1.heap.size) := Nat.le_trans TX.out.z f1.size
          have CR := rban_any R1 Z1.out G0.out.ok G0.out.len G0.out.kw HY.out
          clear f1 a1 CB zz HS x0 R1
          go_wp2_with (refine wpList_load28 rfl (.tmp 36) rfl wr.heap.size 1 rfl y.2 (range_act X1X.out) ?_)
          refine CR.mono ?_
          rintro e X2 ⟨rfl, f2, r2⟩
          have X2X : Hid (X2.heap[wr.heap.size]? = some (.cells (ac y) 38 (0, 0))) := (f2.block _ (Array.getElem?_eq_some_iff.1 X1X.out).1 (by have := HZ.out; simp; omega) (.inr (fun c t z hc => by rw [X1X.out] at hc; cases hc; rfl))).trans X1X.out
          have T2 : Hid (Two X2 n (cntS t l (j + 1))) := ⟨A1.out.gr f2 rfl (by simp) (by simp) (by simp), by rw [HE.out]; exact r2, Nat.le_trans Z1.out f2.size⟩
          have F2 : Hid (Fr [] w X2) := F1.out.overG f2 (by have := HS1.out; omega) (fun i hi => by have := HS1.out; simp at hi; omega)
          clear f2 r2 CR
          go_wp2_with fail
          refine reg4b (k := y.2) (S := cntS t l (j + 1)) (a := n + 2) (ma := n) (ca := n + 1) (rb := n + 3) (xb := wr.heap.size) (B := n + 4) T2.out.a T2.out.r G1.out.ok G1.out.len G1.out.kw HY.out ?_ ?_
          · intro w' f; exact range_act ((f.block _ (Array.getElem?_eq_some_iff.1 X2X.out).1 (by simp)).trans X2X.out)
          · intro n48 n49 n50 n51 n52 n53 n54 n55 n56 n57 n58 n59 n60 n61 n62 n63 n64 n65 n66 n67 n68 n69 n70 n71 n72 n73 n74 n75 n76 X3 f3
            have R2 : Hid (CRel w X3 n (cntS t l (j + 1))) := ⟨T2.out.fr0 f3, F2.out.trans f3⟩
            clear f3
            go_wp2
            go_roundw
            case rel => exact ⟨j + 1, hlt, by go_num, R2.out⟩
            case measure => simp [intOf]; omega
        · have HE : Hid (cntS t l (j + 1) = (hitB (cntS t l j) y.2).1) := cntS_hit HX.out hd
          have x0 : X.cell? ⟨wr.heap.size, 0, none⟩ = some (.int .i64 y.1) := at_cells XX.out 0 rfl
          have hd1 : (y.1 == 0) = false := by simp [hd]
          clear hd
          go_wp2_with (
              first
                | refine wpList_load38 rfl (.tmp 26) rfl gb (go + j * 11) rfl y HR.out ?_
                | (refine wpList_store_row rfl 38 (.tmp 8) (.tmp 27) rfl wr.heap.size (ac y) rfl rfl 38 _ zz (by rw [info38, ac_size]) (by rw [ac_size]; rfl) (ac_one _) ?_; rw [HS.out]))
          clear x0 hd1 zz HS
          refine reg4a (k := y.2) (S := cntS t l j) (a := n + 2) (ma := n) (ca := n + 1) (rb := n + 3) (xb := wr.heap.size) (B := n + 4) TX.out.a TX.out.r TX.out.z G0.out.ok (by have := G0.out.ent; omega) G0.out.len G0.out.kw HY.out ?_ (by omega) (by omega) (by omega) (by omega) (by omega) (by omega) ?_
          · intro w' f; exact range_act ((f.block _ (Array.getElem?_eq_some_iff.1 XX.out).1 (by have := HZ.out; simp; omega) (.inr (fun c t z hc => by rw [XX.out] at hc; cases hc; rfl))).trans XX.out)
          · intro n39 n40 n41 n42 n43 n44 n45 n46 X2 f2 a2 r2
            have X2X : Hid (X2.heap[wr.heap.size]? = some (.cells (ac y) 38 (0, 0))) := (f2.block _ (Array.getElem?_eq_some_iff.1 XX.out).1 (by have := HZ.out; simp; omega) (.inr (fun c t z hc => by rw [XX.out] at hc; cases hc; rfl))).trans XX.out
            have T2 : Hid (Two X2 n (cntS t l (j + 1))) := ⟨by rw [HE.out]; exact a2, by rw [HE.out]; exact r2, Nat.le_trans TX.out.z f2.size⟩
            have F2 : Hid (Fr [] w X2) := HF.out.overG f2 (by have := HS1.out; omega) (fun i hi => by have := HS1.out; simp at hi; omega)
            clear f2 a2 r2
            go_wp2_with fail
            refine reg4b (k := y.2) (S := cntS t l (j + 1)) (a := n + 2) (ma := n) (ca := n + 1) (rb := n + 3) (xb := wr.heap.size) (B := n + 4) T2.out.a T2.out.r G1.out.ok G1.out.len G1.out.kw HY.out ?_ ?_
            · intro w' f; exact range_act ((f.block _ (Array.getElem?_eq_some_iff.1 X2X.out).1 (by simp)).trans X2X.out)
            · intro n48 n49 n50 n51 n52 n53 n54 n55 n56 n57 n58 n59 n60 n61 n62 n63 n64 n65 n66 n67 n68 n69 n70 n71 n72 n73 n74 n75 n76 X3 f3
              have R2 : Hid (CRel w X3 n (cntS t l (j + 1))) := ⟨T2.out.fr0 f3, F2.out.trans f3⟩
              clear f3
              go_wp2
              go_roundw
              case rel => exact ⟨j + 1, hlt, by go_num, R2.out⟩
              case measure => simp [intOf]; omega
      · have hjN : j = N := by omega
        subst hjN
        have G1 : Hid (Good (cntS t l j)) := cntS_good HT2.out HP.out (by omega)
        obtain ⟨S, hS⟩ : ∃ S, S = cntS t l j := ⟨_, rfl⟩
        have R1 : Hid (CRel w wr n S) := by rw [hS]; exact ⟨hT, hF⟩
        rw [← hS] at G1
        obtain ⟨N, hNj⟩ : ∃ N, N = j := ⟨_, rfl⟩
        subst hNj
        clear hS hlt hT hF
        go_wp2_with fail
        go_loopw [10, 81] (fun _ i wr => ∃ j : Nat, j ≤ N ∧ i = .int .i64 j ∧ CRel w wr n S) (fun _ i _ => N - (intOf i).toNat)
        case atStart => exact ⟨0, Nat.zero_le _, rfl, R1.out⟩
        case round =>
          rename_i wr0 _
          obtain ⟨j, hj, rfl, hT, hF⟩ := hrel
          by_cases hlt : j < N
          · have hx : l[j]? = some (l[j]'(by rw [← HN.out]; exact hlt)) := List.getElem?_eq_getElem _
            generalize l[j]'(by rw [← HN.out]; exact hlt) = y at hx
            obtain ⟨gb, go, rfl, hgb, hr⟩ := (HL.out.fr hF.out (by simp)) j y hx
            have HX : Hid (l[j]? = some y) := hx
            have HY : Hid (kw y.2) := HP.out y (List.mem_of_getElem? hx)
            have HR : Hid (wr.rangeAt gb (go + j * 11) (ac y).toList) := hr
            have hltI : (j : Int) < N := by omega
            obtain ⟨X, hX⟩ : ∃ X, X = wr.alloc (.cells (ac y) 38) := ⟨_, rfl⟩
            have zz := heap_alloc_new wr (.cells Z38 38)
            have HS : Hid ((wr.alloc (.cells Z38 38)).setRow wr.heap.size (ac y) = X) := by rw [hX]; exact World.setRow_alloc_new wr _ _ _
            have FX : Fr [] wr X := by rw [hX]; exact (Fr.refl _ _).alloc _
            have XX : Hid (X.heap[wr.heap.size]? = some (.cells (ac y) 38 (0, 0))) := by rw [hX]; exact heap_alloc_new _ _
            have TX : Hid (Two X n S) := hT.out.fr0 FX
            have HF : Hid (Fr [] w X) := hF.out.trans FX
            have HZ : Hid (n + 4 ≤ wr.heap.size) := hT.out.z
            unfold Z38 at zz HS
            clear hX FX hT hF hr hx
            go_wp2_with (
                first
                  | refine wpList_load38 rfl (.tmp 83) rfl gb (go + j * 11) rfl y HR.out ?_
                  | (refine wpList_store_row rfl 38 (.tmp 10) (.tmp 84) rfl wr.heap.size (ac y) rfl rfl 38 _ zz (by rw [info38, ac_size]) (by rw [ac_size]; rfl) (ac_one _) ?_; rw [HS.out]))
            refine reg4c (k := y.2) (S := S) (a := n + 2) (ma := n) (ca := n + 1) (rb := n + 3) (xb := wr.heap.size) (B := n + 4) TX.out.a TX.out.r G1.out.ok G1.out.len G1.out.kw HY.out ?_ ?_
            · intro w' f; exact range_act ((f.block _ (Array.getElem?_eq_some_iff.1 XX.out).1 (by simp)).trans XX.out)
            · intro n85 n86 n87 n88 n89 n90 n91 n92 n93 n94 n95 n96 n97 n98 n99 n100 n101 n102 n103 X3 f3
              have R2 : Hid (CRel w X3 n S) := ⟨TX.out.fr0 f3, HF.out.trans f3⟩
              clear f3 zz HS
              go_wp2
              go_roundw
              case rel => exact ⟨j + 1, hlt, by go_num, R2.out⟩
              case measure => simp [intOf]; omega
          · have HF : Hid (Fr [] w wr) := hF
            have hjN : j = N := by omega
            subst hjN
            clear hlt
            go_wp2
            go_ret
            exact ⟨rfl, HF.out⟩
end Go.Proofs.Ytjeddgjndpdhoaa
