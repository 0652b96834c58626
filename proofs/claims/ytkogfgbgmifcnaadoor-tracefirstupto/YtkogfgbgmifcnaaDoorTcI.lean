/-
  Whether links and Virts may be; conditions: what lies in memory lies as told.
-/
import Derived.Test.YtkogfgbgmifcnaaDoorTcG
namespace Go.Proofs.YtkogfgbgmifcnaaDoor
open Go.RowKit Go.Shelf Go.Maps Go.ChangeShapes
set_option linter.unusedVariables false
set_option linter.unusedSimpArgs false
theorem all_take {α : Type} {f : α → Bool} {L : List α} (h : ∀ j x, j < L.length → L[j]? = some x → f x = true) : L.all f = true := by
  rw [List.all_eq_true]
  intro x hx
  obtain ⟨i, hi⟩ := List.getElem?_of_mem hx
  exact h i x (List.getElem?_eq_some_iff.1 hi).1 hi
theorem all_not {α : Type} {f : α → Bool} {L : List α} {i : Nat} {x : α} (hx : L[i]? = some x) (h : f x = false) : L.all f = false := by
  rw [← Bool.not_eq_true, List.all_eq_true]
  intro hh
  rw [hh x (List.mem_of_getElem? hx)] at h
  cases h
theorem ahead_next {α : Type} {f : α → Bool} {L : List α} {q : Nat} {x : α} (h : ∀ j y, j < q → L[j]? = some y → f y = true) (hx : L[q]? = some x) (hf : f x = true) : ∀ j y, j < q + 1 → L[j]? = some y → f y = true := by
  intro j y hj hy
  by_cases e : j = q
  · subst e; rw [hx] at hy; cases hy; exact hf
  · exact h j y (by omega) hy
def linkOk (nv n : Nat) (e : AE) : Bool := ((decide (-1 ≤ e.p.headD 0) && decide (e.p.headD 0 ≤ (n : Int) - 1)) && decide (e.l.length ≤ 1000)) && e.l.all (srcOk · nv)
def virtOk (nv : Nat) (e : AE) : Bool := ((decide (0 ≤ e.p.headD 0) && decide (e.p.headD 0 ≤ 1000)) && decide (e.l.length ≤ 1000)) && e.l.all (srcOk · nv)
theorem linkOk_eq (nv n : Nat) (up fn pc it : Int) (l : List Sr) : linkOk nv n ⟨[up, fn, pc, it], [], l⟩ = (((decide (-1 ≤ up) && decide (up ≤ (n : Int) - 1)) && decide (l.length ≤ 1000)) && l.all (srcOk · nv)) := rfl
theorem virtOk_eq (nv : Nat) (rc : Int) (l : List Sr) : virtOk nv ⟨[rc], [], l⟩ = (((decide (0 ≤ rc) && decide (rc ≤ 1000)) && decide (l.length ≤ 1000)) && l.all (srcOk · nv)) := rfl
set_option maxRecDepth 100000 in
set_option maxHeartbeats 8000000 in
theorem link91 {w : World} {B : Nat} {t : Tr} {jb : Nat} {p : Int} {wp : Value} (h : JS w B t jb p wp) (n : Nat) (hn : n ≤ 140737488355328) {up fn pc it : Int} {a : Option Addr} {c : Nat} {l : List Sr} (hsl : SL w B 51 a l.length c 4 32 (flatS l)) (hw : ∀ s ∈ l, s.w) :
    Calls Tryd.prog 91 #[.pointer (some ⟨jb, 0, none⟩), .int .i64 n, .agg #[.int .i64 up, .int .i64 fn, .int .i64 pc, .int .i64 it, .slice a l.length c]] w (Jd (linkOk t.virts.length n ⟨[up, fn, pc, it], [], l⟩) p w) := by

  have F1 : Fr [] w (w.alloc (.cells #[.int .i64 up, .int .i64 fn, .int .i64 pc, .int .i64 it, .slice a l.length c] 57)) := (Fr.refl _ _).alloc _
  have hx := heap_alloc_new w (.cells #[.int .i64 up, .int .i64 fn, .int .i64 pc, .int .i64 it, .slice a l.length c] 57)
  have h1 := h.fr0 F1
  have hs1 := hsl.fr F1 (Away.nil _ _)
  have C1 := within_any h1.jb up (-1) ((n : Int) - 1)
  have c0 : (w.alloc (.cells #[.int .i64 up, .int .i64 fn, .int .i64 pc, .int .i64 it, .slice a l.length c] 57)).cell? ⟨w.heap.size, 0, none⟩ = some (.int .i64 up) := at_cells hx 0 rfl
  have c4 : (w.alloc (.cells #[.int .i64 up, .int .i64 fn, .int .i64 pc, .int .i64 it, .slice a l.length c] 57)).cell? ⟨w.heap.size, 4, none⟩ = some (.slice a l.length c) := at_cells hx 4 rfl
  have hfl : l.length * 32 ≤ 140737488355328 := hsl.fit
  have hfI : (l.length : Int) ≤ 140737488355328 := by omega
  have C2 := want_any h1.jb (decide (l.length ≤ 1000))
  have HS : Hid (JS (w.alloc (.cells #[.int .i64 up, .int .i64 fn, .int .i64 pc, .int .i64 it, .slice a l.length c] 57)) B t jb p wp ∧ SL (w.alloc (.cells #[.int .i64 up, .int .i64 fn, .int .i64 pc, .int .i64 it, .slice a l.length c] 57)) B 51 a l.length c 4 32 (flatS l) ∧ (∀ s ∈ l, s.w) ∧ Fr [] w (w.alloc (.cells #[.int .i64 up, .int .i64 fn, .int .i64 pc, .int .i64 it, .slice a l.length c] 57))) := ⟨h1, hs1, hw, F1⟩
  have HV : Hid (t.virts.length ≤ 140737488355328) := h.vl
  obtain ⟨nv, hnv⟩ : ∃ nv, nv = t.virts.length := ⟨_, rfl⟩
  have HN : Hid (nv = t.virts.length) := hnv
  rw [← hnv]
  have hl1 : IntKind.i64.wrap ((n : Int) - 1) = (n : Int) - 1 := by rw [IntKind.wrap_i64]; omega
  clear hn
  clear hx F1 h h1 hs1 hsl hw hfl hnv
  unfold Jd
  cases ha : (decide ((-1) ≤ up) && decide (up ≤ ((n : Int) - 1))) with
  | false =>
    rw [ha] at C1
    rw [show linkOk nv n ⟨[up, fn, pc, it], [], l⟩ = false by rw [linkOk_eq, ha]; rfl]
    simp only [Bool.false_eq_true, if_false] at C1 ⊢
    clear ha C2
    unfold thrown at *
    go_enter Tryd.func91, Tryd.ntmps91
    go_upto_region 1 with fail
    generalize w.alloc (.cells #[.int .i64 up, .int .i64 fn, .int .i64 pc, .int .i64 it, .slice a l.length c] 57) = W0 at *
    go_wp2_with (go_at_call 94; refine C1.mono ?_; rintro e w2 ⟨rfl, rfl⟩)
    exact ⟨rfl, rfl, HS.out.2.2.2⟩
  | true =>
    rw [ha] at C1
    simp only [if_true] at C1 ⊢
    by_cases hl : l.length ≤ 1000
    · rw [decide_eq_true hl] at C2
      have hall : linkOk nv n ⟨[up, fn, pc, it], [], l⟩ = l.all (srcOk · nv) := by rw [linkOk_eq, ha, decide_eq_true hl]; rfl
      rw [hall]
      obtain ⟨R, hR⟩ : ∃ R : Ending, R = (if l.all (srcOk · nv) = true then .returned (.tuple #[]) else thrown p) := ⟨_, rfl⟩
      have HR : Hid (R = (if l.all (srcOk · nv) = true then .returned (.tuple #[]) else thrown p)) := hR
      rw [← hR]
      clear hR
      have dl : decide ((l.length : Int) ≤ 1000) = true := decide_eq_true (by omega)
      simp only [if_true] at C2
      clear ha hall
      go_enter Tryd.func91, Tryd.ntmps91
      go_upto_region 1 with fail
      generalize w.alloc (.cells #[.int .i64 up, .int .i64 fn, .int .i64 pc, .int .i64 it, .slice a l.length c] 57) = W0 at *
      generalize hb0 : w.heap.size = b0 at *
      go_wp2_with (first
        | (go_at_call 94; refine C1.mono ?_; rintro e w2 ⟨rfl, e2⟩; have e2 := e2.symm; subst e2)
        | (go_at_call 110; refine C2.mono ?_; rintro e w3 ⟨rfl, e3⟩; have e3 := e3.symm; subst e3))
      clear C1 C2 dl c0 c4
      go_loopw [23] (fun i wr => ∃ q : Nat, q ≤ l.length ∧ i = .int .i64 q ∧ Hid (Fr [] W0 wr ∧ ∀ j y, j < q → l[j]? = some y → srcOk y nv = true)) (fun i _ => l.length - (intOf i).toNat)
      case atStart => exact ⟨0, Nat.zero_le _, rfl, Fr.refl _ _, fun j y hj => by omega⟩
      case round =>
        obtain ⟨q, hq, rfl, F⟩ := hrel
        by_cases hlt : q < l.length
        · have hltI : (q : Int) < l.length := by omega
          obtain ⟨x, hx⟩ : ∃ x, l[q]? = some x := ⟨_, List.getElem?_eq_getElem hlt⟩
          obtain ⟨b, o, rfl, r1, _⟩ := (HS.out.2.1.fr F.out.1 (Away.nil _ _)).elem (f := Sr.cl) (fun x _ => x.cl_len) (by omega) hx
          have R1 : Hid (wr.rangeAt b (o + q * 4) x.cl) := r1
          have bA := heap_alloc_new wr (.cells #[.int .i64 0, .int .i64 0, .int .i64 0, .int .i64 0] 51)
          have FB : Fr [] wr ((wr.alloc (.cells #[.int .i64 0, .int .i64 0, .int .i64 0, .int .i64 0] 51)).setRow wr.heap.size x.cl.toArray) := ((Fr.refl _ _).alloc _).setRow (.inr (Nat.le_refl _)) _
          have bB := setRow_heap (wr.alloc (.cells #[.int .i64 0, .int .i64 0, .int .i64 0, .int .i64 0] 51)) wr.heap.size _ x.cl.toArray _ _ bA
          have HA : Hid ((wr.alloc (.cells #[.int .i64 0, .int .i64 0, .int .i64 0, .int .i64 0] 51)).heap[wr.heap.size]? = some (.cells #[.int .i64 0, .int .i64 0, .int .i64 0, .int .i64 0] 51 (0, 0))) := bA
          have HBx : Hid (((wr.alloc (.cells #[.int .i64 0, .int .i64 0, .int .i64 0, .int .i64 0] 51)).setRow wr.heap.size x.cl.toArray).heap[wr.heap.size]? = some (.cells x.cl.toArray 51 (0, 0)) ∧ Fr [] W0 ((wr.alloc (.cells #[.int .i64 0, .int .i64 0, .int .i64 0, .int .i64 0] 51)).setRow wr.heap.size x.cl.toArray)) := ⟨bB, F.out.1.trans FB⟩
          have C3 := source111 (HS.out.1.fr0 HBx.out.2).jb HV.out x (HS.out.2.2.1 x (List.mem_of_getElem? hx))
          rw [← HN.out] at C3
          unfold Jd at C3
          have HQ : Hid (l[q]? = some x ∧ ∀ j y, j < q → l[j]? = some y → srcOk y nv = true) := ⟨hx, F.out.2⟩
          clear r1 bA FB bB hx F
          go_upto_region 6 with (first
            | refine wpList_load_mid rfl 51 (.tmp 25) rfl b (o + q * 4) rfl x.cl _ R1.out Tryd.underlying51 rfl (by rw [info51]; rfl) ?_
            | refine wpList_store_row rfl 51 (.tmp 7) (.tmp 26) rfl wr.heap.size x.cl.toArray rfl rfl 51 _ HA.out (by rw [info51]; rfl) rfl (by simp [Sr.cl, Sr.il, Value.oneCell']) ?_)
          clear R1 HA
          generalize (wr.alloc (.cells #[.int .i64 0, .int .i64 0, .int .i64 0, .int .i64 0] 51)).setRow wr.heap.size x.cl.toArray = X at *
          generalize wr.heap.size = bx at *
          cases ho : srcOk x nv with
          | true =>
            rw [ho] at C3
            simp only [if_true] at C3
            have HQ2 : Hid (srcOk x nv = true) := ho
            clear ho
            go_wp2_with (first
              | refine wpList_ld51 rfl (.tmp 7) rfl bx rfl x.cl.toArray rfl HBx.out.1 ?_
              | (go_at_call 111; refine C3.mono ?_; rintro e w2 ⟨rfl, f2⟩; have HF2 : Hid (Fr [] W0 w2) := HBx.out.2.trans f2; clear f2 C3))
            go_roundw
            case rel => exact ⟨q + 1, hlt, by go_num, HF2.out, ahead_next HQ.out.2 HQ.out.1 HQ2.out⟩
            case measure => simp [intOf]; omega
          | false =>
            rw [ho] at C3
            simp only [Bool.false_eq_true, if_false] at C3
            have HE : Hid (l.all (srcOk · nv) = false) := all_not HQ.out.1 ho
            clear ho
            have HR2 : Hid (thrown p = R) := by unfold Hid; rw [HR.out, HE.out]; rfl
            unfold thrown at C3
            go_wp2_with (first
              | refine wpList_ld51 rfl (.tmp 7) rfl bx rfl x.cl.toArray rfl HBx.out.1 ?_
              | (go_at_call 111; refine C3.mono ?_; rintro e w2 ⟨rfl, f2⟩; have HF2 : Hid (Fr [] W0 w2) := HBx.out.2.trans f2; clear f2 C3))
            exact ⟨rfl, HR2.out, HS.out.2.2.2.trans HF2.out⟩
        · obtain rfl : q = l.length := by omega
          have HE : Hid (l.all (srcOk · nv) = true) := all_take F.out.2
          go_wp2
          go_end0
          exact ⟨by rw [HR.out, HE.out]; rfl, HS.out.2.2.2.trans F.out.1⟩
    · rw [decide_eq_false hl] at C2
      rw [show linkOk nv n ⟨[up, fn, pc, it], [], l⟩ = false by rw [linkOk_eq, decide_eq_false hl]; simp]
      have dl : decide ((l.length : Int) ≤ 1000) = false := decide_eq_false (by omega)
      simp only [Bool.false_eq_true, if_false] at C2 ⊢
      clear ha hl
      unfold thrown at *
      go_enter Tryd.func91, Tryd.ntmps91
      go_upto_region 1 with fail
      generalize w.alloc (.cells #[.int .i64 up, .int .i64 fn, .int .i64 pc, .int .i64 it, .slice a l.length c] 57) = W0 at *
      go_wp2_with (first
        | (go_at_call 94; refine C1.mono ?_; rintro e w2 ⟨rfl, rfl⟩)
        | (go_at_call 110; refine C2.mono ?_; rintro e w2 ⟨rfl, rfl⟩))
      exact ⟨rfl, rfl, HS.out.2.2.2⟩
set_option maxRecDepth 100000 in
set_option maxHeartbeats 8000000 in
theorem virt92 {w : World} {B : Nat} {t : Tr} {jb : Nat} {p : Int} {wp : Value} (h : JS w B t jb p wp) {rc : Int} {a : Option Addr} {c : Nat} {l : List Sr} (hsl : SL w B 51 a l.length c 4 32 (flatS l)) (hw : ∀ s ∈ l, s.w) :
    Calls Tryd.prog 92 #[.pointer (some ⟨jb, 0, none⟩), .agg #[.int .i64 rc, .slice a l.length c]] w (Jd (virtOk t.virts.length ⟨[rc], [], l⟩) p w) := by

  have F1 : Fr [] w (w.alloc (.cells #[.int .i64 rc, .slice a l.length c] 59)) := (Fr.refl _ _).alloc _
  have hx := heap_alloc_new w (.cells #[.int .i64 rc, .slice a l.length c] 59)
  have h1 := h.fr0 F1
  have hs1 := hsl.fr F1 (Away.nil _ _)
  have C1 := within_any h1.jb rc 0 1000
  have c0 : (w.alloc (.cells #[.int .i64 rc, .slice a l.length c] 59)).cell? ⟨w.heap.size, 0, none⟩ = some (.int .i64 rc) := at_cells hx 0 rfl
  have c4 : (w.alloc (.cells #[.int .i64 rc, .slice a l.length c] 59)).cell? ⟨w.heap.size, 1, none⟩ = some (.slice a l.length c) := at_cells hx 1 rfl
  have hfl : l.length * 32 ≤ 140737488355328 := hsl.fit
  have hfI : (l.length : Int) ≤ 140737488355328 := by omega
  have C2 := want_any h1.jb (decide (l.length ≤ 1000))
  have HS : Hid (JS (w.alloc (.cells #[.int .i64 rc, .slice a l.length c] 59)) B t jb p wp ∧ SL (w.alloc (.cells #[.int .i64 rc, .slice a l.length c] 59)) B 51 a l.length c 4 32 (flatS l) ∧ (∀ s ∈ l, s.w) ∧ Fr [] w (w.alloc (.cells #[.int .i64 rc, .slice a l.length c] 59))) := ⟨h1, hs1, hw, F1⟩
  have HV : Hid (t.virts.length ≤ 140737488355328) := h.vl
  obtain ⟨nv, hnv⟩ : ∃ nv, nv = t.virts.length := ⟨_, rfl⟩
  have HN : Hid (nv = t.virts.length) := hnv
  rw [← hnv]

  clear hx F1 h h1 hs1 hsl hw hfl hnv
  unfold Jd
  cases ha : (decide (0 ≤ rc) && decide (rc ≤ 1000)) with
  | false =>
    rw [ha] at C1
    rw [show virtOk nv ⟨[rc], [], l⟩ = false by rw [virtOk_eq, ha]; rfl]
    simp only [Bool.false_eq_true, if_false] at C1 ⊢
    clear ha C2
    unfold thrown at *
    go_enter Tryd.func92, Tryd.ntmps92
    go_upto_region 1 with fail
    generalize w.alloc (.cells #[.int .i64 rc, .slice a l.length c] 59) = W0 at *
    go_wp2_with (go_at_call 94; refine C1.mono ?_; rintro e w2 ⟨rfl, rfl⟩)
    exact ⟨rfl, rfl, HS.out.2.2.2⟩
  | true =>
    rw [ha] at C1
    simp only [if_true] at C1 ⊢
    by_cases hl : l.length ≤ 1000
    · rw [decide_eq_true hl] at C2
      have hall : virtOk nv ⟨[rc], [], l⟩ = l.all (srcOk · nv) := by rw [virtOk_eq, ha, decide_eq_true hl]; rfl
      rw [hall]
      obtain ⟨R, hR⟩ : ∃ R : Ending, R = (if l.all (srcOk · nv) = true then .returned (.tuple #[]) else thrown p) := ⟨_, rfl⟩
      have HR : Hid (R = (if l.all (srcOk · nv) = true then .returned (.tuple #[]) else thrown p)) := hR
      rw [← hR]
      clear hR
      have dl : decide ((l.length : Int) ≤ 1000) = true := decide_eq_true (by omega)
      simp only [if_true] at C2
      clear ha hall
      go_enter Tryd.func92, Tryd.ntmps92
      go_upto_region 1 with fail
      generalize w.alloc (.cells #[.int .i64 rc, .slice a l.length c] 59) = W0 at *
      generalize hb0 : w.heap.size = b0 at *
      go_wp2_with (first
        | (go_at_call 94; refine C1.mono ?_; rintro e w2 ⟨rfl, e2⟩; have e2 := e2.symm; subst e2)
        | (go_at_call 110; refine C2.mono ?_; rintro e w3 ⟨rfl, e3⟩; have e3 := e3.symm; subst e3))
      clear C1 C2 dl c0 c4
      go_loopw [19] (fun i wr => ∃ q : Nat, q ≤ l.length ∧ i = .int .i64 q ∧ Hid (Fr [] W0 wr ∧ ∀ j y, j < q → l[j]? = some y → srcOk y nv = true)) (fun i _ => l.length - (intOf i).toNat)
      case atStart => exact ⟨0, Nat.zero_le _, rfl, Fr.refl _ _, fun j y hj => by omega⟩
      case round =>
        obtain ⟨q, hq, rfl, F⟩ := hrel
        by_cases hlt : q < l.length
        · have hltI : (q : Int) < l.length := by omega
          obtain ⟨x, hx⟩ : ∃ x, l[q]? = some x := ⟨_, List.getElem?_eq_getElem hlt⟩
          obtain ⟨b, o, rfl, r1, _⟩ := (HS.out.2.1.fr F.out.1 (Away.nil _ _)).elem (f := Sr.cl) (fun x _ => x.cl_len) (by omega) hx
          have R1 : Hid (wr.rangeAt b (o + q * 4) x.cl) := r1
          have bA := heap_alloc_new wr (.cells #[.int .i64 0, .int .i64 0, .int .i64 0, .int .i64 0] 51)
          have FB : Fr [] wr ((wr.alloc (.cells #[.int .i64 0, .int .i64 0, .int .i64 0, .int .i64 0] 51)).setRow wr.heap.size x.cl.toArray) := ((Fr.refl _ _).alloc _).setRow (.inr (Nat.le_refl _)) _
          have bB := setRow_heap (wr.alloc (.cells #[.int .i64 0, .int .i64 0, .int .i64 0, .int .i64 0] 51)) wr.heap.size _ x.cl.toArray _ _ bA
          have HA : Hid ((wr.alloc (.cells #[.int .i64 0, .int .i64 0, .int .i64 0, .int .i64 0] 51)).heap[wr.heap.size]? = some (.cells #[.int .i64 0, .int .i64 0, .int .i64 0, .int .i64 0] 51 (0, 0))) := bA
          have HBx : Hid (((wr.alloc (.cells #[.int .i64 0, .int .i64 0, .int .i64 0, .int .i64 0] 51)).setRow wr.heap.size x.cl.toArray).heap[wr.heap.size]? = some (.cells x.cl.toArray 51 (0, 0)) ∧ Fr [] W0 ((wr.alloc (.cells #[.int .i64 0, .int .i64 0, .int .i64 0, .int .i64 0] 51)).setRow wr.heap.size x.cl.toArray)) := ⟨bB, F.out.1.trans FB⟩
          have C3 := source111 (HS.out.1.fr0 HBx.out.2).jb HV.out x (HS.out.2.2.1 x (List.mem_of_getElem? hx))
          rw [← HN.out] at C3
          unfold Jd at C3
          have HQ : Hid (l[q]? = some x ∧ ∀ j y, j < q → l[j]? = some y → srcOk y nv = true) := ⟨hx, F.out.2⟩
          clear r1 bA FB bB hx F
          go_upto_region 6 with (first
            | refine wpList_load_mid rfl 51 (.tmp 21) rfl b (o + q * 4) rfl x.cl _ R1.out Tryd.underlying51 rfl (by rw [info51]; rfl) ?_
            | refine wpList_store_row rfl 51 (.tmp 5) (.tmp 22) rfl wr.heap.size x.cl.toArray rfl rfl 51 _ HA.out (by rw [info51]; rfl) rfl (by simp [Sr.cl, Sr.il, Value.oneCell']) ?_)
          clear R1 HA
          generalize (wr.alloc (.cells #[.int .i64 0, .int .i64 0, .int .i64 0, .int .i64 0] 51)).setRow wr.heap.size x.cl.toArray = X at *
          generalize wr.heap.size = bx at *
          cases ho : srcOk x nv with
          | true =>
            rw [ho] at C3
            simp only [if_true] at C3
            have HQ2 : Hid (srcOk x nv = true) := ho
            clear ho
            go_wp2_with (first
              | refine wpList_ld51 rfl (.tmp 5) rfl bx rfl x.cl.toArray rfl HBx.out.1 ?_
              | (go_at_call 111; refine C3.mono ?_; rintro e w2 ⟨rfl, f2⟩; have HF2 : Hid (Fr [] W0 w2) := HBx.out.2.trans f2; clear f2 C3))
            go_roundw
            case rel => exact ⟨q + 1, hlt, by go_num, HF2.out, ahead_next HQ.out.2 HQ.out.1 HQ2.out⟩
            case measure => simp [intOf]; omega
          | false =>
            rw [ho] at C3
            simp only [Bool.false_eq_true, if_false] at C3
            have HE : Hid (l.all (srcOk · nv) = false) := all_not HQ.out.1 ho
            clear ho
            have HR2 : Hid (thrown p = R) := by unfold Hid; rw [HR.out, HE.out]; rfl
            unfold thrown at C3
            go_wp2_with (first
              | refine wpList_ld51 rfl (.tmp 5) rfl bx rfl x.cl.toArray rfl HBx.out.1 ?_
              | (go_at_call 111; refine C3.mono ?_; rintro e w2 ⟨rfl, f2⟩; have HF2 : Hid (Fr [] W0 w2) := HBx.out.2.trans f2; clear f2 C3))
            exact ⟨rfl, HR2.out, HS.out.2.2.2.trans HF2.out⟩
        · obtain rfl : q = l.length := by omega
          have HE : Hid (l.all (srcOk · nv) = true) := all_take F.out.2
          go_wp2
          go_end0
          exact ⟨by rw [HR.out, HE.out]; rfl, HS.out.2.2.2.trans F.out.1⟩
    · rw [decide_eq_false hl] at C2
      rw [show virtOk nv ⟨[rc], [], l⟩ = false by rw [virtOk_eq, decide_eq_false hl]; simp]
      have dl : decide ((l.length : Int) ≤ 1000) = false := decide_eq_false (by omega)
      simp only [Bool.false_eq_true, if_false] at C2 ⊢
      clear ha hl
      unfold thrown at *
      go_enter Tryd.func92, Tryd.ntmps92
      go_upto_region 1 with fail
      generalize w.alloc (.cells #[.int .i64 rc, .slice a l.length c] 59) = W0 at *
      go_wp2_with (first
        | (go_at_call 94; refine C1.mono ?_; rintro e w2 ⟨rfl, rfl⟩)
        | (go_at_call 110; refine C2.mono ?_; rintro e w2 ⟨rfl, rfl⟩))
      exact ⟨rfl, rfl, HS.out.2.2.2⟩
end Go.Proofs.YtkogfgbgmifcnaaDoor
