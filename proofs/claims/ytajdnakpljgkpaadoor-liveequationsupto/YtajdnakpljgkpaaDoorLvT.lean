/-
  Those from which the code comes take over what is live; by the program; conditions: the reckoning lies as told.
-/
import Derived.Test.YtajdnakpljgkpaaDoorLvS
import Derived.BigQuiet
import Derived.Deep.QuietTactic
namespace Go.Proofs.YtajdnakpljgkpaaDoor
open Go.RowKit
set_option linter.unusedVariables false
set_option linter.unusedSimpArgs false

/-- The set of a place, as a whole. -/
theorem RK.range {w : World} {bp br base N : Nat} {P : Nat → Pl} {wv : Value} {Wt : List Int} (h : RK w bp br base N P wv Wt) {i : Nat} (hi : i < N) : w.rangeAt bp (i * 19) (setL (P i).s) := by
  intro j v hv
  have hj : j < 16 := by have := (List.getElem?_eq_some_iff.1 hv).1; rw [setL_len] at this; exact this
  rw [setL_at _ hj] at hv
  injection hv with hv
  rw [h.row.cell (by omega), plc_s _ _ _ hj, hv]
theorem range_fr {w w' : World} {b o : Nat} {l : List Value} (h : w.rangeAt b o l) (f : Fr [] w w') : w'.rangeAt b o l := fun j v hv => f.cell1 (h j v hv) (by simp)
theorem RK.load {w : World} {bp br base N : Nat} {P : Nat → Pl} {wv : Value} {Wt : List Int} (h : RK w bp br base N P wv Wt) {i : Nat} (hi : i < N) : (Instr.loadAt 67 (.pointer (some ⟨bp, i * 19, none⟩))).run Tryd.prog w = .ok (.agg (setA (P i).s)) w := by
  refine run_loadAt_mid w bp (i * 19) 67 (setL (P i).s) (.array 16 65) ?_ under67 rfl (by rw [setL_len]; exact info67)
  intro j v hv
  have hj : j < 16 := by have := (List.getElem?_eq_some_iff.1 hv).1; rw [setL_len] at this; exact this
  rw [setL_at _ hj] at hv
  injection hv with hv
  rw [h.row.cell (by omega), plc_s _ _ _ hj, hv]

theorem OR.len {w : World} {base : Nat} {v : Value} {K : List Int} (h : OR w base v K) : K.length ≤ maxLen := by
  rcases h.2 with ⟨e, h0⟩ | ⟨g, cap, cur, e, hb, hg, hc, hm, hs, ht⟩
  · omega
  · omega
theorem row_setCells {b : Nat} {t : TypeId} {n : Nat} : ∀ (vs : List Value) (o : Nat) {w : World} {f : Nat → Value}, w.rowIs b t n f → (w.setCells b o vs).rowIs b t n (fun k => if o ≤ k ∧ k < o + vs.length then vs.getD (k - o) undef else f k)
  | [], o, w, f, h => h.congr (fun k _ => by simp; intro h1 h2; omega)
  | v :: r, o, w, f, h => by
    refine (row_setCells r (o + 1) (h.set o v)).congr (fun k _ => ?_)
    by_cases h1 : k = o
    · subst h1
      rw [if_neg (by omega), if_pos rfl, if_pos (by simp)]
      simp
    · by_cases h2 : o + 1 ≤ k ∧ k < o + 1 + r.length
      · rw [if_pos h2, if_pos (by simp; omega)]
        obtain ⟨j, rfl⟩ : ∃ j, k = o + 1 + j := ⟨k - (o + 1), by omega⟩
        rw [show o + 1 + j - (o + 1) = j by omega, show o + 1 + j - o = j + 1 by omega]
        rfl
      · rw [if_neg h2, if_neg h1, if_neg (by simp; omega)]
theorem Fr.setCells {S : List Nat} {b : Nat} : ∀ (vs : List Value) (o : Nat) {a c : World}, Fr S a c → (b ∈ S ∨ a.heap.size ≤ b) → Fr S a (c.setCells b o vs)
  | [], o, a, c, h, _ => h
  | v :: r, o, a, c, h, hb => Fr.setCells r (o + 1) (h.setCell (p := ⟨b, o, none⟩) hb v) hb
theorem RK.set_s {w : World} {bp br base N : Nat} {P : Nat → Pl} {wv : Value} {Wt : List Int} (h : RK w bp br base N P wv Wt) (n : Nat) (s : Nat → Nat) : RK (w.setCells bp (n * 19) (setL s)) bp br base N (upd P n { P n with s := s }) wv Wt := by
  refine h.put (Fr.setCells _ _ (Fr.refl _ _) (.inl (by simp))) ((row_setCells (setL s) (n * 19) h.row).congr (fun k hk => ?_)) ?_
  · rw [← plc_set_s P n s N k hk, setL_len]
    split
    · rename_i h1
      have := setL_at s (i := k - n * 19) (by omega)
      rw [List.getD_eq_getElem?_getD, this]
      rfl
    · rfl
  · intro i hi
    by_cases e : i = n
    · subst e; rw [upd_at]; exact ⟨rfl, rfl⟩
    · rw [upd_ne _ _ e]; exact ⟨rfl, rfl⟩
theorem RK.there {w : World} {bp br base N : Nat} {P : Nat → Pl} {wv : Value} {Wt : List Int} (h : RK w bp br base N P wv Wt) {n : Nat} (hn : n < N) : w.there bp (n * 19) 16 := fun j hj => by
  refine ⟨?_, h.row.frozen _⟩
  rw [h.row.cell (by omega)]
  rfl
theorem store_s {w : World} {bp o : Nat} (s : Nat → Nat) (h : w.there bp o 16) : (storeCells ⟨bp, o, none⟩ (setA s).toList).run Tryd.prog w = .ok () (w.setCells bp o (setL s)) := by
  have := run_storeCells_cells (P := Tryd.prog) bp o (setL s) 0 w (fun j hj => by rw [setL_len] at hj; simpa using (h j hj).1) (fun j hj => by rw [setL_len] at hj; simpa using (h j hj).2) (fun v hv => by unfold setL at hv; simp at hv; obtain ⟨i, _, rfl⟩ := hv; rfl)
  simpa [setA] using this
theorem grow_P (P : Nat → Pl) (m : Nat) (s : Nat → Nat) : (if (upd P m { P m with s := s } m).wt = true then upd P m { P m with s := s } else upd (upd P m { P m with s := s }) m { upd P m { P m with s := s } m with wt := true }) = upd P m { P m with s := s, wt := true } := by
  rw [upd_at]
  funext i
  split
  · rename_i h
    by_cases e : i = m
    · subst e
      rw [upd_at, upd_at]
      cases hp : P i
      simp only [hp] at h ⊢
      rw [h]
    · rw [upd_ne _ _ e, upd_ne _ _ e]
  · by_cases e : i = m
    · subst e; rw [upd_at, upd_at]
    · rw [upd_ne _ _ e, upd_ne _ _ e, upd_ne _ _ e]
theorem neS_false {s t : Nat → Nat} (h : neS s t = false) : ∀ i, i < 16 → s i = t i := by
  unfold neS at h
  simp at h
  exact h
theorem neS_true {s t : Nat → Nat} (h : neS s t = true) : ∃ i, i < 16 ∧ s i ≠ t i := by
  unfold neS at h
  simp at h
  exact h

set_option maxRecDepth 100000 in
set_option maxHeartbeats 1000000 in
theorem tell_any (L : List In) (rs : Int) (w : World) (bp br base : Nat) (P : Nat → Pl) (wv : Value) (Wt : List Int) (at_ : Nat) (h : RK w bp br base L.length P wv Wt) (hI : Inv L rs at_ 0 P Wt) (ha : at_ < L.length) (hN : L.length ≤ 2000000) (hW : left L.length P Wt ≤ 9000000000) :
    Calls Tryd.prog 44 #[.pointer (some ⟨br, 0, none⟩), .int .i64 at_] w fun e w' => e = .returned (.tuple #[]) ∧ ∃ P' v Wt', RK w' bp br base L.length P' v Wt' ∧ Inv L rs at_ (P' at_).fr.length P' Wt' ∧ left L.length P' Wt' ≤ left L.length P Wt ∧ Kp bp br base w w' := by
  have HL : Hid (∀ i, i < L.length → i < 2000000) := fun i hi => by omega
  have hflen : (P at_).fr.length ≤ 9000000000 ∨ True := .inr trivial
  generalize hNL : L.length = N at *
  have HNL : Hid (L.length = N) := hNL
  clear hNL
  have haI : (at_ : Int) < N := by omega
  have hNI : (N : Int) ≤ 2000000 := by omega
  have c0 : w.cell? ⟨br, 0, none⟩ = some (.slice (some ⟨bp, 0, none⟩) N N) := at_cells h.rc 0 rfl
  have cf := h.frc ha
  have HH : Hid (RK w bp br base N P wv Wt) := h
  have HI : Hid (Inv L rs at_ 0 P Wt) := hI
  have HW : Hid (left N P Wt ≤ 9000000000) := hW
  clear h hI hW
  generalize hfl : (P at_).fr.length = n at *
  have HFL : Hid ((P at_).fr.length = n) := hfl
  generalize hfa : (P at_).fa = fa at *
  generalize hfc : (P at_).fc = fc at *
  have HFA : Hid (frV (P at_) = .slice fa n fc) := by unfold Hid frV; rw [hfl, hfa, hfc]
  have hnm := (HH.out.fo at_ ha).len
  rw [hfl] at hnm
  unfold maxLen at hnm
  have hnI : (n : Int) ≤ 9223372036854775807 := by omega
  clear hfl hfa hfc hflen hnm
  go_enter Tryd.func44, Tryd.ntmps44
  go_wp2
  go_loopw [17] (fun i wr => ∃ (j : Nat) (P' : Nat → Pl) (v : Value) (Wt' : List Int), j ≤ n ∧ i = .int .i64 j ∧ Hid (RK wr bp br base N P' v Wt') ∧ Hid (Inv L rs at_ j P' Wt') ∧ Hid (left N P' Wt' ≤ left N P Wt) ∧ Hid (Kp bp br base w wr) ∧ Hid (frV (P' at_) = frV (P at_) ∧ (P' at_).fr = (P at_).fr)) (fun i _ => n - (intOf i).toNat)
  case atStart => exact ⟨0, P, wv, Wt, by omega, rfl, HH, HI, Nat.le_refl _, Kp.refl _ _ _ _, rfl, rfl⟩
  case round =>
    obtain ⟨j, P', v, Wt', hj, rfl, R, I, LE, KP, FV⟩ := hrel
    clear c0 cf
    by_cases hlt : j < n
    · have hq : (P' at_).fr[j]? = some ((P' at_).fr[j]'(by rw [FV.out.2, HFL.out]; exact hlt)) := List.getElem?_eq_getElem _
      generalize (P' at_).fr[j]'(by rw [FV.out.2, HFL.out]; exact hlt) = q at hq
      obtain ⟨m, e, hm, hk⟩ := I.out.frm at_ q (by rw [HNL.out]; exact ha) (List.mem_of_getElem? hq)
      subst e
      rw [HNL.out] at hm
      have hmI : (m : Int) < N := by omega
      have ho := R.out.fo at_ ha
      rw [FV.out.1, HFA.out] at ho
      obtain ⟨b, o, rfl, hb, hc⟩ := ho.kat j (m : Int) hq
      have c0 : ∀ w', Fr [] wr w' → w'.cell? ⟨br, 0, none⟩ = some (.slice (some ⟨bp, 0, none⟩) N N) := fun w' f => f.cell1 (at_cells R.out.rc 0 rfl) (by simp)
      have c0' := c0 _ (Fr.refl _ _)
      have cwr : ∀ w', Fr [] wr w' → w'.cell? ⟨bp, m * 19 + 16, none⟩ = some (.int .i64 (P' m).wr) := fun w' f => f.cell1 (R.out.wrc hm) (by simp)
      have l1 : ∀ w', Fr [] wr w' → w'.rangeAt bp (m * 19) (setL (P' m).s) := fun w' f => range_fr (R.out.range hm) f
      have l2 : ∀ w', Fr [] wr w' → w'.rangeAt bp (at_ * 19) (setL (P' at_).s) := fun w' f => range_fr (R.out.range ha) f
      have ok1 := I.out.ok m (by rw [HNL.out]; exact hm)
      have ok2 := I.out.ok at_ (by rw [HNL.out]; exact ha)
      have C72 := fun w' => without_any (P' at_).s (P' m).wr w' ok2
      have C71 := fun w' => joined_any (P' m).s (witS (P' at_).s (P' m).wr) w' ok1 (ok2.wit _)
      have HG : Hid (joinS (P' m).s (witS (P' at_).s (P' m).wr) = grw P' at_ m) := rfl
      rw [HG.out] at C71
      generalize (P' m).wr = wr1 at *
      clear ho ok1 ok2 HG
      go_upto_region 4 with fail
      clear c0' hc
      refine reg44 l1 l2 c0 cwr C72 C71 haI hNI ?_
      intro n27 n28 n29 n30 n31 n32 n33 n34 n35 n36 n37 n38 n39 n40 n41 n42 n43 n44 X2 nb f2 bA hnb
      have R2 : Hid (RK X2 bp br base N P' v Wt') := R.out.fr f2
      have KP2 : Hid (Kp bp br base w X2) := KP.out.trans (f2.kp R.out.le (by simp))
      have hnbb : base ≤ nb := Nat.le_trans R.out.le hnb
      clear l1 l2 c0 cwr C72 C71 R KP
      have l1 : ∀ w', Fr [] X2 w' → w'.rangeAt nb 0 (setL (grw P' at_ m)) := fun w' f => by
        intro k v hv
        have hk : k < 16 := by have := (List.getElem?_eq_some_iff.1 hv).1; rw [setL_len] at this; exact this
        have := at_cells (f.at bA (by simp)) k (setA_at _ hk)
        rw [setL_at _ hk] at hv
        injection hv with hv
        rw [Nat.zero_add, ← hv]
        exact this
      have l2 : ∀ w', Fr [] X2 w' → w'.rangeAt bp (m * 19) (setL (P' m).s) := fun w' f => range_fr (R2.out.range hm) f
      cases hne : neS (grw P' at_ m) (P' m).s with
      | false =>
        have I2 : Hid (Inv L rs at_ (j + 1) P' Wt') := I.out.same (by rw [HNL.out]; exact ha) hq (neS_false hne)
        go_upto_region 5 with fail
        refine reg44b l1 l2 false hne ?_
        intro n45 n46 n47 n48 n49
        have R3 : Hid (RK X2.drew bp br base N P' v Wt') := R2.out.fr ((Fr.refl _ _).drew)
        have KP3 : Hid (Kp bp br base w X2.drew) := KP2.out.trans (((Fr.refl [] _).drew).kp R2.out.le (by simp))
        clear l1 l2 hne bA R2 KP2 f2
        go_wp2
        go_roundw
        case rel => exact ⟨j + 1, P', v, Wt', hlt, by go_num, R3, I2, LE, KP3, FV⟩
        case measure => simp [intOf]; omega
      | true =>
        obtain ⟨i0, hi0, hd0⟩ := neS_true hne
        have I2 : Hid _ := I.out.grow (by rw [HNL.out]; exact ha) hq
        have LE2 : Hid _ := left_grow I.out (by rw [HNL.out]; exact ha) (by rw [HNL.out]; exact hm) hi0 hd0
        go_upto_region 5 with fail
        refine reg44b l1 l2 true hne ?_
        intro n45 n46 n47 n48 n49
        have R3 : Hid (RK X2.drew bp br base N P' v Wt') := R2.out.fr ((Fr.refl _ _).drew)
        have KP3 : Hid (Kp bp br base w X2.drew) := KP2.out.trans (((Fr.refl [] _).drew).kp R2.out.le (by simp))
        have bA' : X2.drew.heap[nb]? = some (.cells (setA (grw P' at_ m)) 67 (0, 0)) := bA
        clear l1 l2 hne bA R2 KP2 f2 hi0 hd0
        generalize X2.drew = X3 at *
        have T3 := R3.out.there hm
        have R4 : Hid _ := R3.out.set_s m (grw P' at_ m)
        have KP4 : Hid (Kp bp br base w (X3.setCells bp (m * 19) (setL (grw P' at_ m)))) := KP3.out.trans ((Fr.setCells (S := [bp]) (setL (grw P' at_ m)) (m * 19) (Fr.refl _ _) (.inl (by simp))).kp R3.out.le (by simp))
        have C43 := wait_any _ bp br base N _ v Wt' m R4.out hm hN (by
          have h1 := LE.out
          have h2 := HW.out
          unfold left at h1 h2
          omega)
        rw [grow_P, upd_at] at C43
        have FV2 : Hid (frV (upd P' m { P' m with s := grw P' at_ m, wt := true } at_) = frV (P at_) ∧ (upd P' m { P' m with s := grw P' at_ m, wt := true } at_).fr = (P at_).fr) := by
          unfold Hid
          rw [← FV.out.1, ← FV.out.2]
          by_cases e : at_ = m
          · subst e; rw [upd_at]; exact ⟨rfl, rfl⟩
          · rw [upd_ne _ _ e]; exact ⟨rfl, rfl⟩
        rw [HNL.out] at LE2
        have LE3 : Hid (left N (upd P' m { P' m with s := grw P' at_ m, wt := true }) (if (P' m).wt = true then Wt' else Wt' ++ [(m : Int)]) ≤ left N P Wt) := by
          have h1 := LE2.out
          have h2 := LE.out
          unfold Hid
          omega
        have hst := store_s (grw P' at_ m) T3
        have HbA : Hid _ := bA'
        clear T3 bA'
        go_upto_region 6 with fail
        go_upto_region 7 with (with_reducible (refine wpList_load_row rfl 67 (.tmp 7) rfl nb rfl 67 (setA (grw P' at_ m)) (0, 0) (.array 16 65) HbA.out under67 rfl (by rw [setA_size]; exact info67) ?_))
        go_wp2_with fail
        with_reducible (refine C43.mono ?_)
        rintro e w7 ⟨rfl, v7, R7, K7⟩
        have HR7 : Hid _ := R7
        have HK7 : Hid (Kp bp br base w w7) := KP4.out.trans K7
        clear R7 K7 C43 hst HbA
        go_wp2
        go_roundw
        case rel => exact ⟨j + 1, _, v7, _, hlt, by go_num, HR7, I2, LE3, HK7, FV2⟩
        case measure => simp [intOf]; omega
    · obtain rfl : j = n := by omega
      have I2 := I.out.full (by rw [FV.out.2, HFL.out]; exact Nat.le_refl _) at_
      have HI2 : Hid _ := I2
      clear I2 I
      go_wp2
      go_end0
      exact ⟨rfl, P', v, Wt', R.out, HI2.out, LE.out, KP.out⟩
end Go.Proofs.YtajdnakpljgkpaaDoor
