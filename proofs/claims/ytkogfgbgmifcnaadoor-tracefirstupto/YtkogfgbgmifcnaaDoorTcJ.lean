/-
  Whether an operation's arguments, the inputs and what is behind may be; conditions: what lies in memory lies as told.
-/
import Derived.Test.YtkogfgbgmifcnaaDoorTcI
namespace Go.Proofs.YtkogfgbgmifcnaaDoor
open Go.RowKit Go.Shelf Go.Maps Go.ChangeShapes
set_option linter.unusedVariables false
set_option linter.unusedSimpArgs false
def countOk (ar : Int) (n : Nat) : Bool := if ar = -1 then decide (n ≤ 1000) else decide ((n : Int) = ar)
def isOk (o : Int) (l : List Sr) : Bool := if o = 32 then decide (((l[1]?).map Sr.k).getD 1 = 0) else true
def argsOk (a : AT) (p : Int) (o : Int) (l : List Sr) : Bool := (countOk (rowP o).ar l.length && l.all (argOk a p)) && isOk o l
set_option maxRecDepth 100000 in
set_option maxHeartbeats 8000000 in
theorem arguments112 {w : World} {B : Nat} {t : Tr} {jb : Nat} {p : Int} {wp : Value} (h : JS w B t jb p wp) (hp : p ≤ t.ops.length) {o k cc sn : Int} {a : Option Addr} {c : Nat} {l : List Sr} (hsl : SL w B 51 a l.length c 4 32 (flatS l)) (hw : ∀ s ∈ l, s.w) :
    Calls Tryd.prog 112 #[.pointer (some ⟨jb, 0, none⟩), .agg #[.int .i64 o, .slice a l.length c, .int .i64 k, .int .i64 cc, .int .i64 sn]] w (Jd (argsOk t.abs p o l) p w) := by
  have F1 : Fr [] w (w.alloc (.cells #[.int .i64 o, .slice a l.length c, .int .i64 k, .int .i64 cc, .int .i64 sn] 48)) := (Fr.refl _ _).alloc _
  have hx := heap_alloc_new w (.cells #[.int .i64 o, .slice a l.length c, .int .i64 k, .int .i64 cc, .int .i64 sn] 48)
  have h1 := h.fr0 F1
  have hs1 := hsl.fr F1 (Away.nil _ _)
  have C1 := args16 h1.tab o
  have c0 : (w.alloc (.cells #[.int .i64 o, .slice a l.length c, .int .i64 k, .int .i64 cc, .int .i64 sn] 48)).cell? ⟨w.heap.size, 0, none⟩ = some (.int .i64 o) := at_cells hx 0 rfl
  have hfl : l.length * 32 ≤ 140737488355328 := hsl.fit
  have hfI : (l.length : Int) ≤ 140737488355328 := by omega
  have HS : Hid (JS (w.alloc (.cells #[.int .i64 o, .slice a l.length c, .int .i64 k, .int .i64 cc, .int .i64 sn] 48)) B t jb p wp ∧ SL (w.alloc (.cells #[.int .i64 o, .slice a l.length c, .int .i64 k, .int .i64 cc, .int .i64 sn] 48)) B 51 a l.length c 4 32 (flatS l) ∧ (∀ s ∈ l, s.w) ∧ Fr [] w (w.alloc (.cells #[.int .i64 o, .slice a l.length c, .int .i64 k, .int .i64 cc, .int .i64 sn] 48)) ∧ p ≤ t.ops.length ∧ (w.alloc (.cells #[.int .i64 o, .slice a l.length c, .int .i64 k, .int .i64 cc, .int .i64 sn] 48)).heap[w.heap.size]? = some (.cells #[.int .i64 o, .slice a l.length c, .int .i64 k, .int .i64 cc, .int .i64 sn] 48 (0, 0))) := ⟨h1, hs1, hw, F1, hp, hx⟩
  clear hx F1 h h1 hs1 hsl hw hfl hp
  unfold Jd
  obtain ⟨R, hR⟩ : ∃ R : Ending, R = (if argsOk t.abs p o l = true then .returned (.tuple #[]) else thrown p) := ⟨_, rfl⟩
  have HR0 : Hid (R = (if ((countOk (rowP o).ar l.length && l.all (argOk t.abs p)) && isOk o l) = true then .returned (.tuple #[]) else thrown p)) := hR
  rw [← hR]
  clear hR
  obtain ⟨ar, har⟩ : ∃ ar, ar = (rowP o).ar := ⟨_, rfl⟩
  have HAR : Hid (ar = (rowP o).ar) := har
  rw [← har] at C1 HR0
  clear har
  have HC : Hid (countOk ar l.length = if ar = -1 then decide (l.length ≤ 1000) else decide ((l.length : Int) = ar)) := rfl
  go_enter Tryd.func112, Tryd.ntmps112
  go_upto_region 1 with fail
  generalize w.alloc (.cells #[.int .i64 o, .slice a l.length c, .int .i64 k, .int .i64 cc, .int .i64 sn] 48) = W0 at *
  generalize hb0 : w.heap.size = b0 at *
  go_upto_region 2 with (go_at_call 16; refine C1.mono ?_; rintro e w2 ⟨rfl, f2⟩; have HF2 : Hid (Fr [] W0 w2) := f2; have n0 : w2.cell? ⟨b0, 0, none⟩ = some (.int .i64 o) := f2.cell1 c0 (by simp); clear f2 C1 c0)
  have HS2 : Hid (JS w2 B t jb p wp ∧ SL w2 B 51 a l.length c 4 32 (flatS l) ∧ (∀ s ∈ l, s.w) ∧ Fr [] w w2 ∧ p ≤ t.ops.length ∧ w2.heap[b0]? = some (.cells #[.int .i64 o, .slice a l.length c, .int .i64 k, .int .i64 cc, .int .i64 sn] 48 (0, 0))) := ⟨HS.out.1.fr0 HF2.out, HS.out.2.1.fr HF2.out (Away.nil _ _), HS.out.2.2.1, HS.out.2.2.2.1.trans HF2.out, HS.out.2.2.2.2.1, (HF2.out.block _ (Array.getElem?_eq_some_iff.1 HS.out.2.2.2.2.2).1 (by simp)).trans HS.out.2.2.2.2.2⟩
  clear HS HF2 n0
  have n1 : w2.cell? ⟨b0, 1, none⟩ = some (.slice a l.length c) := at_cells HS2.out.2.2.2.2.2 1 rfl
  have CW : ∀ ok : Bool, Calls Tryd.prog 110 #[.pointer (some ⟨jb, 0, none⟩), .bool ok] w2 _ := fun ok => want_any HS2.out.1.jb ok
  have HBad : Hid (countOk ar l.length = false → thrown p = R) := fun e => by rw [HR0.out, e]; simp
  have HGo : Hid (countOk ar l.length = true → ∃ b : Bool, R = (if (l.all (argOk t.abs p) && isOk o l) = true then .returned (.tuple #[]) else thrown p)) := fun e => ⟨true, by rw [HR0.out, e]; simp⟩
  by_cases hm1 : ar = -1
  · have HC2 : Hid (countOk ar l.length = decide (l.length ≤ 1000)) := by unfold Hid; rw [HC.out, if_pos hm1]
    by_cases hl : l.length ≤ 1000
    · have CW2 := CW true
      simp only [if_true] at CW2
      have dl : decide ((l.length : Int) ≤ 1000) = true := decide_eq_true (by omega)
      have dm : (ar == -1) = true := by simp [hm1]
      have HR : Hid (R = (if (l.all (argOk t.abs p) && isOk o l) = true then .returned (.tuple #[]) else thrown p)) := by
        obtain ⟨_, e⟩ := HGo.out (by rw [HC2.out]; exact decide_eq_true hl)
        exact e
      subst hm1
      clear CW HBad HGo HC HC2 HR0 hl dm
      go_upto_region 5 with (go_at_call 110; refine CW2.mono ?_; rintro e w3 ⟨rfl, e3⟩; have e3 := e3.symm; subst e3)
      clear CW2 dl n1
      have n1 : w2.cell? ⟨b0, 1, none⟩ = some (.slice a l.length c) := at_cells HS2.out.2.2.2.2.2 1 rfl
      go_wp2
      clear n1
      go_loopw [28] (fun i wr => ∃ q : Nat, q ≤ (l).length ∧ i = .int .i64 q ∧ Hid (Fr [] w2 wr ∧ ∀ j y, j < q → (l)[j]? = some y → (argOk t.abs p) y = true)) (fun i _ => (l).length - (intOf i).toNat)
      case atStart => exact ⟨0, Nat.zero_le _, rfl, Fr.refl _ _, fun j y hj => by omega⟩
      case round =>
        obtain ⟨q, hq, rfl, F⟩ := hrel
        by_cases hlt : q < (l).length
        · have hltI : (q : Int) < (l).length := by omega
          obtain ⟨x, hx⟩ : ∃ x, (l)[q]? = some x := ⟨_, List.getElem?_eq_getElem hlt⟩
          obtain ⟨b, ob, rfl, r1, _⟩ := (HS2.out.2.1.fr F.out.1 (Away.nil _ _)).elem (f := Sr.cl) (fun x _ => x.cl_len) (by omega) hx
          have R1 : Hid (wr.rangeAt b (ob + q * 4) x.cl) := r1
          have bA := heap_alloc_new wr (.cells #[.int .i64 0, .int .i64 0, .int .i64 0, .int .i64 0] 51)
          have FB : Fr [] wr ((wr.alloc (.cells #[.int .i64 0, .int .i64 0, .int .i64 0, .int .i64 0] 51)).setRow wr.heap.size x.cl.toArray) := ((Fr.refl _ _).alloc _).setRow (.inr (Nat.le_refl _)) _
          have bB := setRow_heap (wr.alloc (.cells #[.int .i64 0, .int .i64 0, .int .i64 0, .int .i64 0] 51)) wr.heap.size _ x.cl.toArray _ _ bA
          have HA : Hid ((wr.alloc (.cells #[.int .i64 0, .int .i64 0, .int .i64 0, .int .i64 0] 51)).heap[wr.heap.size]? = some (.cells #[.int .i64 0, .int .i64 0, .int .i64 0, .int .i64 0] 51 (0, 0))) := bA
          have HBx : Hid (((wr.alloc (.cells #[.int .i64 0, .int .i64 0, .int .i64 0, .int .i64 0] 51)).setRow wr.heap.size x.cl.toArray).heap[wr.heap.size]? = some (.cells x.cl.toArray 51 (0, 0)) ∧ Fr [] w2 ((wr.alloc (.cells #[.int .i64 0, .int .i64 0, .int .i64 0, .int .i64 0] 51)).setRow wr.heap.size x.cl.toArray)) := ⟨bB, F.out.1.trans FB⟩
          have C3 := argument116 (HS2.out.1.fr0 HBx.out.2) HS2.out.2.2.2.2.1 x (HS2.out.2.2.1 x (List.mem_of_getElem? hx))
          unfold Jd at C3
          have HQ : Hid ((l)[q]? = some x ∧ ∀ j y, j < q → (l)[j]? = some y → (argOk t.abs p) y = true) := ⟨hx, F.out.2⟩
          clear r1 bA FB bB hx F
          go_upto_region 8 with (first
            | refine wpList_load_mid rfl 51 (.tmp 30) rfl b (ob + q * 4) rfl x.cl _ R1.out Tryd.underlying51 rfl (by rw [info51]; rfl) ?_
            | refine wpList_store_row rfl 51 (.tmp 6) (.tmp 31) rfl wr.heap.size x.cl.toArray rfl rfl 51 _ HA.out (by rw [info51]; rfl) rfl (by simp [Sr.cl, Sr.il, Value.oneCell']) ?_)
          clear R1 HA
          generalize (wr.alloc (.cells #[.int .i64 0, .int .i64 0, .int .i64 0, .int .i64 0] 51)).setRow wr.heap.size x.cl.toArray = X at *
          generalize wr.heap.size = bx at *
          cases ho : (argOk t.abs p) x with
          | true =>
            rw [ho] at C3
            simp only [if_true] at C3
            have HQ2 : Hid ((argOk t.abs p) x = true) := ho
            clear ho
            go_wp2_with (first
              | refine wpList_ld51 rfl (.tmp 6) rfl bx rfl x.cl.toArray rfl HBx.out.1 ?_
              | (go_at_call 116; refine C3.mono ?_; rintro e w9 ⟨rfl, f9⟩; have HF9 : Hid (Fr [] w2 w9) := HBx.out.2.trans f9; clear f9 C3))
            go_roundw
            case rel => exact ⟨q + 1, hlt, by go_num, HF9.out, ahead_next HQ.out.2 HQ.out.1 HQ2.out⟩
            case measure => simp [intOf]; omega
          | false =>
            rw [ho] at C3
            simp only [Bool.false_eq_true, if_false] at C3
            have HE : Hid ((l).all (argOk t.abs p) = false) := all_not HQ.out.1 ho
            clear ho
            have HR2 : Hid (thrown p = R) := by unfold Hid; rw [HR.out, HE.out]; simp
            unfold thrown at C3
            go_wp2_with (first
              | refine wpList_ld51 rfl (.tmp 6) rfl bx rfl x.cl.toArray rfl HBx.out.1 ?_
              | (go_at_call 116; refine C3.mono ?_; rintro e w9 ⟨rfl, f9⟩; have HF9 : Hid (Fr [] w2 w9) := HBx.out.2.trans f9; clear f9 C3))
            exact ⟨rfl, HR2.out, HS2.out.2.2.2.1.trans HF9.out⟩
        · obtain rfl : q = (l).length := by omega
          have HE : Hid ((l).all (argOk t.abs p) = true) := all_take F.out.2
          have HR3 : Hid (R = if isOk o l = true then .returned (.tuple #[]) else thrown p) := by unfold Hid; rw [HR.out, HE.out]; simp
          have HLEN : Hid (o = 32 → l.length = 2) := fun e => by have h9 := HAR.out; rw [e] at h9; exact absurd h9 (by decide)
          have BX := (F.out.1.block _ (Array.getElem?_eq_some_iff.1 HS2.out.2.2.2.2.2).1 (by simp)).trans HS2.out.2.2.2.2.2
          have n0 : wr.cell? ⟨b0, 0, none⟩ = some (.int .i64 o) := at_cells BX 0 rfl
          have n1 : wr.cell? ⟨b0, 1, none⟩ = some (.slice a l.length c) := at_cells BX 1 rfl
          by_cases h32 : o = 32
          · have hl2 := HLEN.out h32
            obtain ⟨y, hy⟩ : ∃ y, l[1]? = some y := ⟨_, List.getElem?_eq_getElem (by omega)⟩
            obtain ⟨b, ob, rfl, r1, _⟩ := (HS2.out.2.1.fr F.out.1 (Away.nil _ _)).elem (f := Sr.cl) (fun x _ => x.cl_len) (by omega) hy
            have ck : wr.cell? ⟨b, ob + 4, none⟩ = some (.int .i64 y.k) := r1 0 _ rfl
            have CW : ∀ ok : Bool, Calls Tryd.prog 110 #[.pointer (some ⟨jb, 0, none⟩), .bool ok] wr _ := fun ok => want_any (HS2.out.1.fr0 F.out.1).jb ok
            have HI : Hid (isOk o l = decide (y.k = 0)) := by unfold Hid isOk; rw [if_pos h32, hy]; rfl
            subst h32
            have hl2I : (2 : Int) = l.length := by omega
            clear r1 hy BX hl2
            by_cases hk : y.k = 0
            · have CW2 := CW true
              simp only [if_true] at CW2
              have HR4 : Hid (R = .returned (.tuple #[])) := by unfold Hid; rw [HR3.out, HI.out, decide_eq_true hk]; rfl
              have dk : (y.k == 0) = true := by simp [hk]
              clear CW HI hk HR HR3
              go_wp2_with (go_at_call 110; refine CW2.mono ?_; rintro e w9 ⟨rfl, e9⟩; have e9 := e9.symm; subst e9)
              go_end0
              exact ⟨HR4.out.symm, HS2.out.2.2.2.1.trans F.out.1⟩
            · have CW2 := CW false
              simp only [Bool.false_eq_true, if_false] at CW2
              have HR4 : Hid (thrown p = R) := by unfold Hid; rw [HR3.out, HI.out, decide_eq_false hk]; rfl
              have dk : (y.k == 0) = false := beq_int_false hk
              clear CW HI hk HR HR3
              unfold thrown at CW2
              go_wp2_with (go_at_call 110; refine CW2.mono ?_; rintro e w9 ⟨rfl, e9⟩; have e9 := e9.symm; subst e9)
              exact ⟨rfl, HR4.out, HS2.out.2.2.2.1.trans F.out.1⟩
          · have d32 : (o == 32) = false := beq_int_false h32
            have HR4 : Hid (R = .returned (.tuple #[])) := by unfold Hid; rw [HR3.out]; unfold isOk; rw [if_neg h32]; rfl
            clear BX h32 HR HR3
            go_wp2
            go_end0
            exact ⟨HR4.out.symm, HS2.out.2.2.2.1.trans F.out.1⟩
    · have CW2 := CW false
      simp only [Bool.false_eq_true, if_false] at CW2
      have dl : decide ((l.length : Int) ≤ 1000) = false := decide_eq_false (by omega)
      have HR2 : Hid (thrown p = R) := HBad.out (by rw [HC2.out]; exact decide_eq_false hl)
      subst hm1
      clear CW HBad HGo HC HC2 HR0 hl
      unfold thrown at CW2
      go_wp2_with (go_at_call 110; refine CW2.mono ?_; rintro e w3 ⟨rfl, e3⟩; have e3 := e3.symm; subst e3)
      exact ⟨rfl, HR2.out, HS2.out.2.2.2.1⟩
  · have dm : (ar == -1) = false := beq_int_false hm1
    have HC2 : Hid (countOk ar l.length = decide ((l.length : Int) = ar)) := by unfold Hid; rw [HC.out, if_neg hm1]
    by_cases hl : (l.length : Int) = ar
    · have CW2 := CW true
      simp only [if_true] at CW2
      have HR : Hid (R = (if (l.all (argOk t.abs p) && isOk o l) = true then .returned (.tuple #[]) else thrown p)) := by
        obtain ⟨_, e⟩ := HGo.out (by rw [HC2.out]; exact decide_eq_true hl)
        exact e
      subst hl
      clear CW HBad HGo HC HC2 HR0 hm1
      go_upto_region 5 with (go_at_call 110; refine CW2.mono ?_; rintro e w3 ⟨rfl, e3⟩; have e3 := e3.symm; subst e3)
      clear CW2 n1
      have n1 : w2.cell? ⟨b0, 1, none⟩ = some (.slice a l.length c) := at_cells HS2.out.2.2.2.2.2 1 rfl
      go_wp2
      clear n1
      go_loopw [28] (fun i wr => ∃ q : Nat, q ≤ (l).length ∧ i = .int .i64 q ∧ Hid (Fr [] w2 wr ∧ ∀ j y, j < q → (l)[j]? = some y → (argOk t.abs p) y = true)) (fun i _ => (l).length - (intOf i).toNat)
      case atStart => exact ⟨0, Nat.zero_le _, rfl, Fr.refl _ _, fun j y hj => by omega⟩
      case round =>
        obtain ⟨q, hq, rfl, F⟩ := hrel
        by_cases hlt : q < (l).length
        · have hltI : (q : Int) < (l).length := by omega
          obtain ⟨x, hx⟩ : ∃ x, (l)[q]? = some x := ⟨_, List.getElem?_eq_getElem hlt⟩
          obtain ⟨b, ob, rfl, r1, _⟩ := (HS2.out.2.1.fr F.out.1 (Away.nil _ _)).elem (f := Sr.cl) (fun x _ => x.cl_len) (by omega) hx
          have R1 : Hid (wr.rangeAt b (ob + q * 4) x.cl) := r1
          have bA := heap_alloc_new wr (.cells #[.int .i64 0, .int .i64 0, .int .i64 0, .int .i64 0] 51)
          have FB : Fr [] wr ((wr.alloc (.cells #[.int .i64 0, .int .i64 0, .int .i64 0, .int .i64 0] 51)).setRow wr.heap.size x.cl.toArray) := ((Fr.refl _ _).alloc _).setRow (.inr (Nat.le_refl _)) _
          have bB := setRow_heap (wr.alloc (.cells #[.int .i64 0, .int .i64 0, .int .i64 0, .int .i64 0] 51)) wr.heap.size _ x.cl.toArray _ _ bA
          have HA : Hid ((wr.alloc (.cells #[.int .i64 0, .int .i64 0, .int .i64 0, .int .i64 0] 51)).heap[wr.heap.size]? = some (.cells #[.int .i64 0, .int .i64 0, .int .i64 0, .int .i64 0] 51 (0, 0))) := bA
          have HBx : Hid (((wr.alloc (.cells #[.int .i64 0, .int .i64 0, .int .i64 0, .int .i64 0] 51)).setRow wr.heap.size x.cl.toArray).heap[wr.heap.size]? = some (.cells x.cl.toArray 51 (0, 0)) ∧ Fr [] w2 ((wr.alloc (.cells #[.int .i64 0, .int .i64 0, .int .i64 0, .int .i64 0] 51)).setRow wr.heap.size x.cl.toArray)) := ⟨bB, F.out.1.trans FB⟩
          have C3 := argument116 (HS2.out.1.fr0 HBx.out.2) HS2.out.2.2.2.2.1 x (HS2.out.2.2.1 x (List.mem_of_getElem? hx))
          unfold Jd at C3
          have HQ : Hid ((l)[q]? = some x ∧ ∀ j y, j < q → (l)[j]? = some y → (argOk t.abs p) y = true) := ⟨hx, F.out.2⟩
          clear r1 bA FB bB hx F
          go_upto_region 8 with (first
            | refine wpList_load_mid rfl 51 (.tmp 30) rfl b (ob + q * 4) rfl x.cl _ R1.out Tryd.underlying51 rfl (by rw [info51]; rfl) ?_
            | refine wpList_store_row rfl 51 (.tmp 6) (.tmp 31) rfl wr.heap.size x.cl.toArray rfl rfl 51 _ HA.out (by rw [info51]; rfl) rfl (by simp [Sr.cl, Sr.il, Value.oneCell']) ?_)
          clear R1 HA
          generalize (wr.alloc (.cells #[.int .i64 0, .int .i64 0, .int .i64 0, .int .i64 0] 51)).setRow wr.heap.size x.cl.toArray = X at *
          generalize wr.heap.size = bx at *
          cases ho : (argOk t.abs p) x with
          | true =>
            rw [ho] at C3
            simp only [if_true] at C3
            have HQ2 : Hid ((argOk t.abs p) x = true) := ho
            clear ho
            go_wp2_with (first
              | refine wpList_ld51 rfl (.tmp 6) rfl bx rfl x.cl.toArray rfl HBx.out.1 ?_
              | (go_at_call 116; refine C3.mono ?_; rintro e w9 ⟨rfl, f9⟩; have HF9 : Hid (Fr [] w2 w9) := HBx.out.2.trans f9; clear f9 C3))
            go_roundw
            case rel => exact ⟨q + 1, hlt, by go_num, HF9.out, ahead_next HQ.out.2 HQ.out.1 HQ2.out⟩
            case measure => simp [intOf]; omega
          | false =>
            rw [ho] at C3
            simp only [Bool.false_eq_true, if_false] at C3
            have HE : Hid ((l).all (argOk t.abs p) = false) := all_not HQ.out.1 ho
            clear ho
            have HR2 : Hid (thrown p = R) := by unfold Hid; rw [HR.out, HE.out]; simp
            unfold thrown at C3
            go_wp2_with (first
              | refine wpList_ld51 rfl (.tmp 6) rfl bx rfl x.cl.toArray rfl HBx.out.1 ?_
              | (go_at_call 116; refine C3.mono ?_; rintro e w9 ⟨rfl, f9⟩; have HF9 : Hid (Fr [] w2 w9) := HBx.out.2.trans f9; clear f9 C3))
            exact ⟨rfl, HR2.out, HS2.out.2.2.2.1.trans HF9.out⟩
        · obtain rfl : q = (l).length := by omega
          have HE : Hid ((l).all (argOk t.abs p) = true) := all_take F.out.2
          have HR3 : Hid (R = if isOk o l = true then .returned (.tuple #[]) else thrown p) := by unfold Hid; rw [HR.out, HE.out]; simp
          have HLEN : Hid (o = 32 → l.length = 2) := fun e => by have h9 := HAR.out; rw [e, show (rowP 32).ar = 2 from by decide] at h9; omega
          have BX := (F.out.1.block _ (Array.getElem?_eq_some_iff.1 HS2.out.2.2.2.2.2).1 (by simp)).trans HS2.out.2.2.2.2.2
          have n0 : wr.cell? ⟨b0, 0, none⟩ = some (.int .i64 o) := at_cells BX 0 rfl
          have n1 : wr.cell? ⟨b0, 1, none⟩ = some (.slice a l.length c) := at_cells BX 1 rfl
          by_cases h32 : o = 32
          · have hl2 := HLEN.out h32
            obtain ⟨y, hy⟩ : ∃ y, l[1]? = some y := ⟨_, List.getElem?_eq_getElem (by omega)⟩
            obtain ⟨b, ob, rfl, r1, _⟩ := (HS2.out.2.1.fr F.out.1 (Away.nil _ _)).elem (f := Sr.cl) (fun x _ => x.cl_len) (by omega) hy
            have ck : wr.cell? ⟨b, ob + 4, none⟩ = some (.int .i64 y.k) := r1 0 _ rfl
            have CW : ∀ ok : Bool, Calls Tryd.prog 110 #[.pointer (some ⟨jb, 0, none⟩), .bool ok] wr _ := fun ok => want_any (HS2.out.1.fr0 F.out.1).jb ok
            have HI : Hid (isOk o l = decide (y.k = 0)) := by unfold Hid isOk; rw [if_pos h32, hy]; rfl
            subst h32
            have hl2I : (2 : Int) = l.length := by omega
            clear r1 hy BX hl2
            by_cases hk : y.k = 0
            · have CW2 := CW true
              simp only [if_true] at CW2
              have HR4 : Hid (R = .returned (.tuple #[])) := by unfold Hid; rw [HR3.out, HI.out, decide_eq_true hk]; rfl
              have dk : (y.k == 0) = true := by simp [hk]
              clear CW HI hk HR HR3
              go_wp2_with (go_at_call 110; refine CW2.mono ?_; rintro e w9 ⟨rfl, e9⟩; have e9 := e9.symm; subst e9)
              go_end0
              exact ⟨HR4.out.symm, HS2.out.2.2.2.1.trans F.out.1⟩
            · have CW2 := CW false
              simp only [Bool.false_eq_true, if_false] at CW2
              have HR4 : Hid (thrown p = R) := by unfold Hid; rw [HR3.out, HI.out, decide_eq_false hk]; rfl
              have dk : (y.k == 0) = false := beq_int_false hk
              clear CW HI hk HR HR3
              unfold thrown at CW2
              go_wp2_with (go_at_call 110; refine CW2.mono ?_; rintro e w9 ⟨rfl, e9⟩; have e9 := e9.symm; subst e9)
              exact ⟨rfl, HR4.out, HS2.out.2.2.2.1.trans F.out.1⟩
          · have d32 : (o == 32) = false := beq_int_false h32
            have HR4 : Hid (R = .returned (.tuple #[])) := by unfold Hid; rw [HR3.out]; unfold isOk; rw [if_neg h32]; rfl
            clear BX h32 HR HR3
            go_wp2
            go_end0
            exact ⟨HR4.out.symm, HS2.out.2.2.2.1.trans F.out.1⟩
    · have CW2 := CW false
      simp only [Bool.false_eq_true, if_false] at CW2
      have dl : ((l.length : Int) == ar) = false := beq_int_false hl
      have HR2 : Hid (thrown p = R) := HBad.out (by rw [HC2.out]; exact decide_eq_false hl)
      clear CW HBad HGo HC HC2 HR0 hl hm1
      unfold thrown at CW2
      go_wp2_with (go_at_call 110; refine CW2.mono ?_; rintro e w3 ⟨rfl, e3⟩; have e3 := e3.symm; subst e3)
      exact ⟨rfl, HR2.out, HS2.out.2.2.2.1⟩
end Go.Proofs.YtkogfgbgmifcnaaDoor
