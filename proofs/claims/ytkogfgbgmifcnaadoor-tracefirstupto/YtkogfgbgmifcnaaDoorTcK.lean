/-
  Whether the inputs and what is behind may be; conditions: what lies in memory lies as told.
-/
import Derived.Test.YtkogfgbgmifcnaaDoorTcJ
namespace Go.Proofs.YtkogfgbgmifcnaaDoor
open Go.RowKit Go.Shelf Go.Maps Go.ChangeShapes
set_option linter.unusedVariables false
set_option linter.unusedSimpArgs false
def insOk : Int → List Int → Bool
  | _, [] => true
  | la, x :: r => (decide (la + 1 ≤ x) && decide (x ≤ 999)) && insOk x r
theorem insOk_drop {la x : Int} {L : List Int} {q : Nat} (h : L[q]? = some x) : insOk la (L.drop q) = ((decide (la + 1 ≤ x) && decide (x ≤ 999)) && insOk x (L.drop (q + 1))) := by
  obtain ⟨hq, rfl⟩ := List.getElem?_eq_some_iff.1 h
  rw [List.drop_eq_getElem_cons hq]
  rfl
set_option maxRecDepth 100000 in
set_option maxHeartbeats 8000000 in
theorem inputs95 {w : World} {B : Nat} {t : Tr} {jb : Nat} {p : Int} {wp : Value} (h : JS w B t jb p wp) : Calls Tryd.prog 95 #[.pointer (some ⟨jb, 0, none⟩)] w (Jd (insOk (-1) t.ins) p w) := by
  have k12 : w.cell? ⟨jb, 12, none⟩ = some (.slice t.ia t.ins.length t.ic) := at_cells h.jb 12 (t.jc_arr p wp t.at_ins)
  have hf : t.ins.length * 8 ≤ 140737488355328 := h.ok.ins.fit
  have hfI : (t.ins.length : Int) ≤ 140737488355328 := by omega
  have HS : Hid (JS w B t jb p wp) := h
  unfold Jd
  obtain ⟨R, hR⟩ : ∃ R : Ending, R = (if insOk (-1) t.ins = true then .returned (.tuple #[]) else thrown p) := ⟨_, rfl⟩
  have HR : Hid (R = (if insOk (-1) t.ins = true then .returned (.tuple #[]) else thrown p)) := hR
  rw [← hR]
  clear hR h hf
  go_enter Tryd.func95, Tryd.ntmps95
  go_wp2
  clear k12
  go_loopw [2, 11] (fun la i wr => ∃ (q : Nat) (z : Int), q ≤ t.ins.length ∧ la = .int .i64 z ∧ i = .int .i64 q ∧ Hid (Fr [] w wr ∧ (-1 ≤ z ∧ z ≤ 999) ∧ insOk (-1) t.ins = insOk z (t.ins.drop q))) (fun _ i _ => t.ins.length - (intOf i).toNat)
  case atStart => exact ⟨0, -1, Nat.zero_le _, rfl, rfl, Fr.refl _ _, ⟨by omega, by omega⟩, rfl⟩
  case round =>
    obtain ⟨q, z, hq, rfl, rfl, F⟩ := hrel
    by_cases hlt : q < t.ins.length
    · have hltI : (q : Int) < t.ins.length := by omega
      obtain ⟨x, hx⟩ : ∃ x, t.ins[q]? = some x := ⟨_, List.getElem?_eq_getElem hlt⟩
      obtain ⟨b, o, ea, hc, _⟩ := HS.out.ok.ins.cell q (.int .i64 x) (by simp [hx])
      have c1 : wr.cell? ⟨b, o + q, none⟩ = some (.int .i64 x) := F.out.1.cell1 hc (by simp)
      rw [ea] at *
      have hl1 : IntKind.i64.wrap (z + 1) = z + 1 := by rw [IntKind.wrap_i64]; have := F.out.2.1; omega
      have C := within_any (HS.out.fr0 F.out.1).jb x (z + 1) 999
      have HQ : Hid (insOk (-1) t.ins = ((decide (z + 1 ≤ x) && decide (x ≤ 999)) && insOk x (t.ins.drop (q + 1))) ∧ Fr [] w wr ∧ -1 ≤ z) := ⟨by rw [F.out.2.2, insOk_drop hx], F.out.1, F.out.2.1.1⟩
      clear hc ea hx F
      cases ho : (decide (z + 1 ≤ x) && decide (x ≤ 999)) with
      | true =>
        rw [ho] at C
        simp only [if_true] at C
        have HZ : Hid (-1 ≤ x ∧ x ≤ 999) := by
          simp at ho
          have := HQ.out.2.2
          exact ⟨by omega, by omega⟩
        have HE : Hid (insOk (-1) t.ins = insOk x (t.ins.drop (q + 1))) := by unfold Hid; rw [HQ.out.1, ho]; rfl
        clear ho
        go_wp2_with (go_at_call 94; refine C.mono ?_; rintro e w9 ⟨rfl, e9⟩; have e9 := e9.symm; subst e9)
        go_roundw
        case rel => exact ⟨q + 1, x, hlt, rfl, by go_num, HQ.out.2.1, HZ.out, HE.out⟩
        case measure => simp [intOf]; omega
      | false =>
        rw [ho] at C
        simp only [Bool.false_eq_true, if_false] at C
        have HE : Hid (thrown p = R) := by unfold Hid; rw [HR.out, HQ.out.1, ho]; simp
        clear ho
        unfold thrown at C
        go_wp2_with (go_at_call 94; refine C.mono ?_; rintro e w9 ⟨rfl, e9⟩; have e9 := e9.symm; subst e9)
        exact ⟨rfl, HE.out, HQ.out.2.1⟩
    · obtain rfl : q = t.ins.length := by omega
      have HE : Hid (R = .returned (.tuple #[])) := by unfold Hid; rw [HR.out, F.out.2.2, List.drop_length]; rfl
      go_wp2
      go_end0
      exact ⟨HE.out.symm, F.out.1⟩
def backOk (a : AT) (p : Int) : Bool := decide (a.back.length = a.ins.length) && a.back.all (argOk a p)
set_option maxRecDepth 100000 in
set_option maxHeartbeats 8000000 in
theorem back96 {w : World} {B : Nat} {t : Tr} {jb : Nat} {p : Int} {wp : Value} (h : JS w B t jb p wp) (hp : p ≤ t.ops.length) (hw : ∀ s ∈ t.back, s.w) : Calls Tryd.prog 96 #[.pointer (some ⟨jb, 0, none⟩)] w (Jd (backOk t.abs p) p w) := by
  have hf : t.ins.length * 8 ≤ 140737488355328 := h.ok.ins.fit
  have hfI : (t.ins.length : Int) ≤ 140737488355328 := by omega
  have hf2 : t.back.length * 32 ≤ 140737488355328 := h.ok.back.fit
  have hfI2 : (t.back.length : Int) ≤ 140737488355328 := by omega
  have RF : Fr [] w w := Fr.refl _ _
  have HD : ∀ w' : World, Fr [] w w' → Fr [] w w'.drew := fun w' h => h.drew
  have j12 : ∀ w', Fr [] w w' → w'.cell? ⟨jb, 12, none⟩ = some (.slice t.ia t.ins.length t.ic) := fun w' f => f.cell1 (at_cells h.jb 12 (t.jc_arr p wp t.at_ins)) (by simp)
  have j16 : ∀ w', Fr [] w w' → w'.cell? ⟨jb, 16, none⟩ = some (.slice t.ba t.back.length t.bc) := fun w' f => f.cell1 (at_cells h.jb 16 (t.jc_arr p wp t.at_back)) (by simp)
  have CW : ∀ (ok : Bool) w', Fr [] w w' → Calls Tryd.prog 110 #[.pointer (some ⟨jb, 0, none⟩), .bool ok] w' _ := fun ok w' f => want_any (h.jb.fr0 f) ok
  have HS : Hid (JS w B t jb p wp ∧ (∀ s ∈ t.back, s.w) ∧ p ≤ t.ops.length) := ⟨h, hw, hp⟩
  unfold Jd
  obtain ⟨R, hR⟩ : ∃ R : Ending, R = (if (decide (t.back.length = t.ins.length) && t.back.all (argOk t.abs p)) = true then .returned (.tuple #[]) else thrown p) := ⟨_, rfl⟩
  have HR0 : Hid (R = (if (decide (t.back.length = t.ins.length) && t.back.all (argOk t.abs p)) = true then .returned (.tuple #[]) else thrown p)) := hR
  show Calls _ _ _ _ (fun e w' => (e = (if (decide (t.back.length = t.ins.length) && t.back.all (argOk t.abs p)) = true then .returned (.tuple #[]) else thrown p)) ∧ Fr [] w w')
  rw [← hR]
  clear hR h hf hf2 hp hw
  by_cases hl : t.back.length = t.ins.length
  · have CW2 := fun w' f => CW true w' f
    simp only [if_true] at CW2
    have HR : Hid (R = (if (t.back.all (argOk t.abs p)) = true then .returned (.tuple #[]) else thrown p)) := by unfold Hid; rw [HR0.out, decide_eq_true hl]; simp
    have dl : ((t.back.length : Int) == (t.ins.length : Int)) = true := by simp [hl]
    clear CW HR0 hl
    go_enter Tryd.func96, Tryd.ntmps96
    go_upto_region 0 with fail
    go_region_held3 (fun w' : World => Fr [] w w')
      (with_reducible (first | assumption | exact HD _ (by assumption)))
      (first
        | (go_at_call 110; with_reducible (refine (CW2 _ (by assumption)).mono ?_); rintro e w9 ⟨rfl, rfl⟩))
    have G1 : Fr [] w w.drew := HD _ RF
    have n16 := j16 _ G1
    have HS2 : Hid (JS w.drew B t jb p wp ∧ (∀ s ∈ t.back, s.w) ∧ p ≤ t.ops.length ∧ Fr [] w w.drew) := ⟨HS.out.1.fr0 G1, HS.out.2.1, HS.out.2.2, G1⟩
    clear CW2 RF HD j12 j16 G1 HS dl
    generalize w.drew = w2 at *
    go_wp2
    clear n16
    go_loopw [25] (fun i wr => ∃ q : Nat, q ≤ (t.back).length ∧ i = .int .i64 q ∧ Hid (Fr [] w2 wr ∧ ∀ j y, j < q → (t.back)[j]? = some y → (argOk t.abs p) y = true)) (fun i _ => (t.back).length - (intOf i).toNat)
    case atStart => exact ⟨0, Nat.zero_le _, rfl, Fr.refl _ _, fun j y hj => by omega⟩
    case round =>
      obtain ⟨q, hq, rfl, F⟩ := hrel
      by_cases hlt : q < (t.back).length
      · have hltI : (q : Int) < (t.back).length := by omega
        obtain ⟨x, hx⟩ : ∃ x, (t.back)[q]? = some x := ⟨_, List.getElem?_eq_getElem hlt⟩
        obtain ⟨b, ob, ead, r1, _⟩ := (HS2.out.1.ok.back.fr F.out.1 (Away.nil _ _)).elem (f := Sr.cl) (fun x _ => x.cl_len) (by omega) hx
        rw [ead] at *
        have R1 : Hid (wr.rangeAt b (ob + q * 4) x.cl) := r1
        have bA := heap_alloc_new wr (.cells #[.int .i64 0, .int .i64 0, .int .i64 0, .int .i64 0] 51)
        have FB : Fr [] wr ((wr.alloc (.cells #[.int .i64 0, .int .i64 0, .int .i64 0, .int .i64 0] 51)).setRow wr.heap.size x.cl.toArray) := ((Fr.refl _ _).alloc _).setRow (.inr (Nat.le_refl _)) _
        have bB := setRow_heap (wr.alloc (.cells #[.int .i64 0, .int .i64 0, .int .i64 0, .int .i64 0] 51)) wr.heap.size _ x.cl.toArray _ _ bA
        have HA : Hid ((wr.alloc (.cells #[.int .i64 0, .int .i64 0, .int .i64 0, .int .i64 0] 51)).heap[wr.heap.size]? = some (.cells #[.int .i64 0, .int .i64 0, .int .i64 0, .int .i64 0] 51 (0, 0))) := bA
        have HBx : Hid (((wr.alloc (.cells #[.int .i64 0, .int .i64 0, .int .i64 0, .int .i64 0] 51)).setRow wr.heap.size x.cl.toArray).heap[wr.heap.size]? = some (.cells x.cl.toArray 51 (0, 0)) ∧ Fr [] w2 ((wr.alloc (.cells #[.int .i64 0, .int .i64 0, .int .i64 0, .int .i64 0] 51)).setRow wr.heap.size x.cl.toArray)) := ⟨bB, F.out.1.trans FB⟩
        have C3 := argument116 (HS2.out.1.fr0 HBx.out.2) HS2.out.2.2.1 x (HS2.out.2.1 x (List.mem_of_getElem? hx))
        unfold Jd at C3
        have HQ : Hid ((t.back)[q]? = some x ∧ ∀ j y, j < q → (t.back)[j]? = some y → (argOk t.abs p) y = true) := ⟨hx, F.out.2⟩
        clear r1 bA FB bB hx F
        go_upto_region 4 with (first
          | refine wpList_load_mid rfl 51 (.tmp 27) rfl b (ob + q * 4) rfl x.cl _ R1.out Tryd.underlying51 rfl (by rw [info51]; rfl) ?_
          | refine wpList_store_row rfl 51 (.tmp 3) (.tmp 28) rfl wr.heap.size x.cl.toArray rfl rfl 51 _ HA.out (by rw [info51]; rfl) rfl (by simp [Sr.cl, Sr.il, Value.oneCell']) ?_)
        clear R1 HA
        generalize (wr.alloc (.cells #[.int .i64 0, .int .i64 0, .int .i64 0, .int .i64 0] 51)).setRow wr.heap.size x.cl.toArray = X at *
        generalize wr.heap.size = bx at *
        cases ho : (argOk t.abs p) x with
        | true =>
          rw [ho] at C3
          simp only [if_true] at C3
          have HQ2 : Hid ((argOk t.abs p) x = true) := ho
          clear ho
          go_wp2_with (first
            | refine wpList_ld51 rfl (.tmp 3) rfl bx rfl x.cl.toArray rfl HBx.out.1 ?_
            | (go_at_call 116; refine C3.mono ?_; rintro e w9 ⟨rfl, f9⟩; have HF9 : Hid (Fr [] w2 w9) := HBx.out.2.trans f9; clear f9 C3))
          go_roundw
          case rel => exact ⟨q + 1, hlt, by go_num, HF9.out, ahead_next HQ.out.2 HQ.out.1 HQ2.out⟩
          case measure => simp [intOf]; omega
        | false =>
          rw [ho] at C3
          simp only [Bool.false_eq_true, if_false] at C3
          have HE : Hid ((t.back).all (argOk t.abs p) = false) := all_not HQ.out.1 ho
          clear ho
          have HR2 : Hid (thrown p = R) := by unfold Hid; rw [HR.out, HE.out]; simp
          unfold thrown at C3
          go_wp2_with (first
            | refine wpList_ld51 rfl (.tmp 3) rfl bx rfl x.cl.toArray rfl HBx.out.1 ?_
            | (go_at_call 116; refine C3.mono ?_; rintro e w9 ⟨rfl, f9⟩; have HF9 : Hid (Fr [] w2 w9) := HBx.out.2.trans f9; clear f9 C3))
          exact ⟨rfl, HR2.out, HS2.out.2.2.2.trans HF9.out⟩
      · obtain rfl : q = (t.back).length := by omega
        have HE : Hid ((t.back).all (argOk t.abs p) = true) := all_take F.out.2
        have HE2 : Hid (R = .returned (.tuple #[])) := by unfold Hid; rw [HR.out, HE.out]; rfl
        go_wp2
        go_end0
        exact ⟨HE2.out.symm, HS2.out.2.2.2.trans F.out.1⟩
  · have CW2 := fun w' f => CW false w' f
    simp only [Bool.false_eq_true, if_false] at CW2
    have HE : Hid (thrown p = R) := by unfold Hid; rw [HR0.out, decide_eq_false hl]; rfl
    have dl : ((t.back.length : Int) == (t.ins.length : Int)) = false := beq_int_false (by omega)
    have n12 := j12 _ RF
    have n16 := j16 _ RF
    clear CW HR0 hl
    unfold thrown at CW2
    go_enter Tryd.func96, Tryd.ntmps96
    go_upto_region 0 with fail
    go_region_dies
    all_goals
      with_reducible (refine (CW2 _ (HD _ RF)).mono ?_)
      rintro e w9 ⟨rfl, rfl⟩
      exact ⟨rfl, HE.out, HD _ RF⟩
end Go.Proofs.YtkogfgbgmifcnaaDoor
