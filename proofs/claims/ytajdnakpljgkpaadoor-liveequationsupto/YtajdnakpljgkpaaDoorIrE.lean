/-
  Which registers the document says are read; conditions: the instruction lies as told.
-/
import Derived.Test.YtajdnakpljgkpaaDoorIrD
import Derived.Deep.RegionHeldLaw
namespace Go.Proofs.YtajdnakpljgkpaaDoor
open Go.RowKit
set_option linter.unusedVariables false
set_option linter.unusedSimpArgs false

def plainLs (l : List UInt8) : Bool := l.all (fun c => decide (c = 65 ∨ c = 66 ∨ c = 67 ∨ c = 76))
theorem plain_r : ∀ n, n < 29 → plainLs (readsT.getD n []) = true := by decide
theorem regs1_field (x : In) {c : UInt8} (h : c = 65 ∨ c = 66 ∨ c = 67) : regs1 x c.toNat = [fieldL x c.toNat] := by
  rcases h with rfl | rfl | rfl <;> rfl
theorem regsL_snoc (x : In) (l : List UInt8) (c : UInt8) : regsL x (l ++ [c]) = regsL x l ++ regs1 x c.toNat := by
  induction l with
  | nil => simp [regsL]
  | cons d r ih => simp [regsL] at ih ⊢; rw [ih]
theorem index_txt (l : List UInt8) (p : Nat) (h : p < l.length) : ((txt l)[p]'(by rw [txt_size]; exact h)) = l[p] := by simp [txt]; rfl

set_option maxRecDepth 100000 in
set_option maxHeartbeats 4000000 in
theorem rreads_any (B : Nat) (x : In) (w : World) (hx : InOk B w x) (hB : B ≤ w.heap.size) (hxl : x.l.length ≤ 8000000000000) :
    Calls Tryd.prog 21 #[.agg x.arr] w fun e w' => ∃ v, e = .returned v ∧ OR w' w.heap.size v (regsL x (rT x.op)) ∧ Fr [] w w' := by
  obtain ⟨i3, hi, hz, hz1, hby⟩ := info_parts info3
  have hlt := rowN_lt x.op
  have F0 : Fr [] w (w.alloc (.cells x.arr 59)) := (Fr.refl _ _).alloc _
  have bx : (w.alloc (.cells x.arr 59)).heap[w.heap.size]? = some (.cells x.arr 59 (0, 0)) := heap_alloc_new w _
  have C := fun w' => rrow_any x.op w'
  have HP : Hid (plainLs (rT x.op) = true) := plain_r _ hlt
  have HO : okLs (rT x.op) = true := okLs_r _ hlt
  unfold rowV at C
  generalize rT x.op = R at *
  unfold okLs at HO
  simp only [Bool.and_eq_true, decide_eq_true_eq] at HO
  have HLN := fun p => regsL_take_len x R HO.2 p
  have hRl : R.length ≤ 10 := HO.1.1
  have HBD : ∀ p, Hid ((regsL x (R.take p)).length ≤ 10 + x.l.length) := fun p => by have := HLN p; unfold Hid; omega
  have HB : Hid (B ≤ w.heap.size) := hB
  have HXL : Hid (x.l.length ≤ 8000000000000) := hxl
  have HX : Hid (InOk B w x) := hx
  have hxln : (x.l.length : Int) ≤ 8000000000000 := by omega
  have hsz : (txt R).size = R.length := txt_size R
  have hkn := hx.kn
  have hkc := hx.kc
  clear HO HLN hx hB hxl hlt
  have HA : Hid (∀ w', Calls Tryd.prog 40 #[.agg x.arr, .int .u8 0] w' fun e w'' => e = .returned (.int .i64 (fieldL x 0)) ∧ Fr [] w' w'') := fun w' => field_any x 0 w'
  have FA := fun (c : Nat) (w' : World) => field_any x c w'
  go_enter Tryd.func21, Tryd.ntmps21
  unfold In.arr at *
  go_wp2_with (go_at_call 39; refine (C _).mono ?_; rintro e w' ⟨rfl, rfl⟩)
  generalize w.alloc (.cells #[.int .i64 x.op, .int .i64 x.a, .int .i64 x.b, .int .i64 x.c, .int .i64 x.k, .slice x.la x.l.length x.lc] 59) = W0 at *
  have HSZ : Hid ((txt R).size = R.length) := hsz
  generalize hSS : txt R = SS at *
  have HSS : Hid (txt R = SS) := hSS
  clear hSS hsz
  go_loopw [7, 8] (fun v k wr => ∃ p : Nat, p ≤ SS.size ∧ k = .int .i64 p ∧ OR wr w.heap.size v (regsL x (R.take p)) ∧ Fr [] w wr ∧ wr.heap[w.heap.size]? = some (.cells #[.int .i64 x.op, .int .i64 x.a, .int .i64 x.b, .int .i64 x.c, .int .i64 x.k, .slice x.la x.l.length x.lc] 59 (0, 0))) (fun _ k _ => SS.size - (intOf k).toNat)
  case atStart => exact ⟨0, Nat.zero_le _, rfl, OR.nil _ _, F0, bx⟩
  case round =>
    obtain ⟨p, hp, rfl, ho, Fw, bw⟩ := hrel
    clear C F0 bx HA
    have hsm : (SS.size : Int) ≤ 10 := by rw [HSZ.out]; omega
    by_cases hlt : p < SS.size
    · have hlt' : p < R.length := by rw [← HSZ.out]; exact hlt
      have HTK : Hid (regsL x (R.take (p + 1)) = regsL x (R.take p) ++ regs1 x (SS[p]'hlt).toNat) := by
        unfold Hid
        have h1 : R.take (p + 1) = R.take p ++ [R[p]] := by rw [List.take_add_one, List.getElem?_eq_getElem hlt']; rfl
        rw [h1, regsL_snoc]
        subst SS
        rw [index_txt R p hlt']
      have HCH : (SS[p]'hlt) = 65 ∨ (SS[p]'hlt) = 66 ∨ (SS[p]'hlt) = 67 ∨ (SS[p]'hlt) = 76 := by
        have h1 := List.all_eq_true.1 HP.out R[p] (List.getElem_mem _)
        have h2 : (SS[p]'hlt) = R[p] := by subst SS; exact index_txt R p hlt'
        rw [h2]
        simpa using h1
      have hbd := HBD p
      obtain ⟨a5, c5, hv, hlc, hnil⟩ := ho.slice
      subst hv
      have HFw : Hid (Fr [] w wr) := Fw
      have n0 : (Value.slice a5 (regsL x (R.take p)).length c5).ownBlock ≠ some w.heap.size := own_ne ho bw (by decide)
      have HKW : Hid (KAt B wr x.la x.l) := HX.out.k.fr Fw (by simp)
      have hszw : Hid (w.heap.size ≤ wr.heap.size) := Fw.size
      unfold OR at ho
      generalize regsL x (R.take p) = K at *
      have hKl : (K.length : Int) ≤ 8000000000010 := by have := hbd.out; have := HXL.out; omega
      have hlo := ho.lt
      have hci := byte_lt (SS[p]'hlt)
      by_cases hc : (SS[p]'hlt) = 76
      · have hsum : K.length + x.l.length ≤ 16000000000010 := by have := hbd.out; have := HXL.out; omega
        have hE : (((SS[p]'hlt).toNat : Int) == 76) = true := by rw [hc]; rfl
        have hnews := HKW.out.news
        have hno : x.la = none → x.l.length = 0 ∧ x.lc = 0 := fun h => by
          have := hkn h
          omega
        have q5 : wr.cell? ⟨w.heap.size, 5, none⟩ = some (.slice x.la x.l.length x.lc) := at_cells bw 5 rfl
        have HR1 : Hid (regs1 x (SS[p]'hlt).toNat = x.l) := by unfold Hid; rw [hc]; rfl
        clear FA HCH hc
        go_wp2_with (at_builtin; refine wpList_append_src _ rfl _ _ 30 rfl w.heap.size 3 i3 (.int .i64 0) 1 8 Tryd.underlying30 hi hz hz1 hby rfl (by decide) (.slice a5 K.length c5) K.length (K.map (Value.int .i64)) rfl ho x.la x.l.length x.lc (x.l.map (Value.int .i64)) rfl (by simp) hno hnews (fun u hu => by simp at hu; obtain ⟨z, _, rfl⟩ := hu; rfl) (by unfold maxLen; omega) (by omega) (by have := hszw.out; omega) ?_)
        intro v3 w3 ho3 hg hl
        have f3 := Fr.ofGrown hg
        have b3 := (f3.block _ (Array.getElem?_eq_some_iff.1 bw).1 (by simpa using n0)).trans bw
        have O3 : OR w3 w.heap.size v3 (regsL x (R.take (p + 1))) := by unfold OR; rw [HTK.out, HR1.out]; simpa using ho3
        have F3 : Fr [] w w3 := ((HFw.out.sub (T := (Value.slice a5 K.length c5).ownBlock.toList) (by simp)).trans f3).sub (fun k hk => .inr (hlo k (by simpa using hk)).1)
        clear ho3 hg hl f3 hnews hno ho n0 hlo
        go_wp2
        go_roundw
        case rel => exact ⟨p + 1, by omega, by go_num, O3, F3, b3⟩
        case measure => simp [intOf]; omega
      · have hE : (((SS[p]'hlt).toNat : Int) == 76) = false := by
          refine beq_int_false (fun h => hc ?_)
          apply UInt8.toNat_inj.1
          show _ = 76
          omega
        have HR1 : Hid (regs1 x (SS[p]'hlt).toNat = [fieldL x (SS[p]'hlt).toNat]) := regs1_field x (by rcases HCH with h | h | h | h; exact .inl h; exact .inr (.inl h); exact .inr (.inr h); exact absurd h hc)
        have CF := fun w' => FA (SS[p]'hlt).toNat w'
        clear FA HCH hc
        generalize fieldL x (SS[p]'hlt).toNat = fv at *
        have G0 : Fr (Value.slice a5 K.length c5).ownBlock.toList wr wr := Fr.refl _ _
        have HGm : Hid (∀ k, k ∈ (Value.slice a5 K.length c5).ownBlock.toList → w.heap.size ≤ k) := fun k hk => (hlo k (by simpa using hk)).1
        have HGn : w.heap.size ∉ (Value.slice a5 K.length c5).ownBlock.toList := by simpa using n0
        have HGi : Hid (∀ w1 w3 : World, Fr (Value.slice a5 K.length c5).ownBlock.toList wr w1 → w1.grownBy w3 (Value.slice a5 K.length c5).ownBlock → Fr (Value.slice a5 K.length c5).ownBlock.toList wr w3) := fun w1 w3 h1 h2 => h1.trans (Fr.ofGrown h2)
        generalize hG : (Value.slice a5 K.length c5).ownBlock.toList = G at *
        have m0 : ∀ w', Fr G wr w' → w'.cell? ⟨w.heap.size, 0, none⟩ = some (.int .i64 x.op) := fun w' f => f.cell1 (at_cells bw 0 rfl) HGn
        have m1 : ∀ w', Fr G wr w' → w'.cell? ⟨w.heap.size, 1, none⟩ = some (.int .i64 x.a) := fun w' f => f.cell1 (at_cells bw 1 rfl) HGn
        have m2 : ∀ w', Fr G wr w' → w'.cell? ⟨w.heap.size, 2, none⟩ = some (.int .i64 x.b) := fun w' f => f.cell1 (at_cells bw 2 rfl) HGn
        have m3 : ∀ w', Fr G wr w' → w'.cell? ⟨w.heap.size, 3, none⟩ = some (.int .i64 x.c) := fun w' f => f.cell1 (at_cells bw 3 rfl) HGn
        have m4 : ∀ w', Fr G wr w' → w'.cell? ⟨w.heap.size, 4, none⟩ = some (.int .i64 x.k) := fun w' f => f.cell1 (at_cells bw 4 rfl) HGn
        have m5 : ∀ w', Fr G wr w' → w'.cell? ⟨w.heap.size, 5, none⟩ = some (.slice x.la x.l.length x.lc) := fun w' f => f.cell1 (at_cells bw 5 rfl) HGn
        have HD : ∀ w' : World, Fr G wr w' → Fr G wr w'.drew := fun w' h => h.drew
        have HAl : ∀ (w' : World) (o : Obj), Fr G wr w' → Fr G wr (w'.alloc o) := fun w' o h => h.alloc o
        have hmx : K.length + 1 ≤ maxLen := by unfold maxLen; omega
        have hmb : (K.length + 1) * 8 ≤ 140737488355328 := by omega
        go_wp2_with fail
        go_region_held_law (fun w' : World => Fr G wr w')
          (with_reducible (first | assumption | exact HD _ (by assumption) | exact HAl _ _ (by assumption)))
          (first
            | (go_at_call 40; with_reducible (refine (CF _).mono ?_); rintro e w1 ⟨rfl, f1⟩; have F1 : Fr G wr w1 := Fr.trans (by assumption) (f1.sub (by simp)); have F1e : Fr [] wr w1 := Fr.trans (by first | exact Fr.refl _ _ | exact (Fr.refl _ _).drew) f1; have hs1 : w.heap.size ≤ w1.heap.size := Nat.le_trans hszw.out F1e.size)
            | (refine step_append_src rfl (.tmp 31) (.tmp 37) 30 rfl w.heap.size 3 i3 (.int .i64 0) 1 8 Tryd.underlying30 hi hz hz1 hby rfl (by decide) (.slice a5 K.length c5) K.length (K.map (Value.int .i64)) rfl ((own_fr ho F1e (by simp)).alloc _) (some ⟨w1.heap.size, 0, none⟩) 1 1 [.int .i64 fv] rfl rfl (by simp) (fun ad h => by cases h; exact one_new w1 _) (by simp [Value.oneCell']) hmx hmb (by simp; omega) ?_; intro v3 w3 ho3 hg3 hl3; have F3 : Fr G wr w3 := HGi.out _ _ (HAl _ _ F1) hg3))
        have b3 := (F3.block _ (Array.getElem?_eq_some_iff.1 bw).1 HGn).trans bw
        have O3 : OR w3 w.heap.size v3 (regsL x (R.take (p + 1))) := by unfold OR; rw [HTK.out, HR1.out]; simpa using ho3
        have F4 : Fr [] w w3 := ((HFw.out.sub (T := G) (by simp)).trans F3).sub (fun k hk => .inr (HGm.out k hk))
        clear ho3 hg3 hl3 F1 F1e F3 m0 m1 m2 m3 m4 m5 HD HAl CF ho hlo hG
        go_wp2
        go_roundw
        case rel => exact ⟨p + 1, by omega, by go_num, O3, F4, b3⟩
        case measure => simp [intOf]; omega
    · have HE : Hid (R.take p = R) := List.take_of_length_le (by rw [← HSZ.out]; omega)
      have HOw : Hid (OR wr w.heap.size u7 (regsL x (R.take p))) := ho
      have HFw : Hid (Fr [] w wr) := Fw
      clear ho
      go_wp2
      go_ret
      refine ⟨u7, rfl, ?_, HFw.out⟩
      have := HOw.out
      rw [HE.out] at this
      exact this
end Go.Proofs.YtajdnakpljgkpaaDoor
