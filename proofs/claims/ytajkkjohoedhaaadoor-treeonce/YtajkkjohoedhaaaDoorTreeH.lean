/-
  Which lists of nodes are trees, by the program; conditions: the table lies as the program's text lays it, the list lies as told.
-/
import Derived.Test.YtajkkjohoedhaaaDoorTreeG
namespace Go.Proofs.YtajkkjohoedhaaaDoor
open Go.RowKit
set_option linter.unusedVariables false
set_option linter.unusedSimpArgs false

theorem Fr.over {S : List Nat} {a b c : World} (h : Fr [] a b) (k : Fr S b c) (hS : ∀ i, i ∈ S → a.heap.size ≤ i) : Fr [] a c :=
  ⟨k.os.trans h.os, k.tape.trans h.tape, k.output.trans h.output, Nat.le_trans h.size k.size, fun i hi _ => (k.block i (Nat.lt_of_lt_of_le hi h.size) (fun hm => by have := hS i hm; omega)).trans (h.block i hi (by simp))⟩

/-- Whether one of the first n isn't marked. -/
def has0 (T : List Bool) (n : Nat) : Bool := (T.take n).contains false
theorem take_snocB {T : List Bool} {p : Nat} (h : p < T.length) : has0 T (p + 1) = (has0 T p || !(T.getD p false)) := by
  unfold has0
  rw [List.take_add_one, List.getElem?_eq_getElem h]
  simp only [Option.toList_some, List.contains_eq_any_beq, List.any_append, List.any_cons, List.any_nil, Bool.or_false]
  simp [List.getD_eq_getElem?_getD, h]

theorem contains_mono {T : List Bool} {p n : Nat} (h : p ≤ n) (hc : has0 T p = true) : has0 T n = true := by
  unfold has0 at *
  rw [List.contains_iff_mem] at *
  exact List.mem_of_mem_take (by rw [List.take_take, Nat.min_eq_left h]; exact hc : false ∈ (T.take n).take p)

set_option maxRecDepth 100000 in
theorem index_any (w : World) (g : Nat) (T : List Bool) (n cap : Nat) (hT : TB w g T) (hn : n ≤ T.length) (hm : n ≤ maxLen) :
    Calls Tryd.prog 36 #[.slice (some ⟨g, 0, none⟩) n cap, .bool false] w fun e w' => (∃ z : Int, e = .returned (.int .i64 z) ∧ decide (0 ≤ z) = has0 T n) ∧ w' = w := by
  unfold maxLen at hm
  have HN : Hid (n ≤ T.length) := hn
  clear hn
  go_enter Tryd.func36, Tryd.ntmps36
  go_wp2
  go_loop [8] (fun i => ∃ p : Nat, p ≤ n ∧ i = .int .i64 p ∧ Hid (has0 T p = false)) (fun i => n - (intOf i).toNat)
  case atStart => exact ⟨0, Nat.zero_le _, rfl, by unfold Hid has0; simp⟩
  case round =>
    obtain ⟨p, hp, rfl, he⟩ := hrel
    by_cases hlt : p < n
    · have hpl : p < T.length := by have := HN.out; omega
      have hc := hT.cell hpl
      have HS : Hid _ := take_snocB hpl
      clear hpl
      cases hb : T.getD p false with
      | true =>
        rw [hb] at hc
        have HR : Hid (has0 T (p + 1) = false) := by unfold Hid; rw [HS.out, he.out, hb]; rfl
        clear HS hb
        go_wp2
        go_round
        case rel => exact ⟨p + 1, hlt, by go_num, HR⟩
        case measure => simp [intOf]; omega
      | false =>
        rw [hb] at hc
        have HR : Hid (has0 T (p + 1) = true) := by unfold Hid; rw [HS.out, hb]; simp
        clear HS hb
        go_wp2
        go_ret
        exact ⟨⟨p, rfl, by rw [contains_mono hlt HR.out]; simp⟩, rfl⟩
    · have : p = n := by omega
      subst this
      go_wp2
      go_ret
      exact ⟨⟨-1, rfl, by rw [he.out]; rfl⟩, rfl⟩

set_option maxRecDepth 100000 in
theorem contains_any (w : World) (g : Nat) (T : List Bool) (n cap : Nat) (hT : TB w g T) (hn : n ≤ T.length) (hm : n ≤ maxLen) :
    Calls Tryd.prog 24 #[.slice (some ⟨g, 0, none⟩) n cap, .bool false] w fun e w' => e = .returned (.bool (has0 T n)) ∧ w' = w := by
  have C := index_any w g T n cap hT hn hm
  generalize has0 T n = R at *
  go_enter Tryd.func24, Tryd.ntmps24
  go_wp2_with fail
  refine C.mono ?_
  rintro e w' ⟨⟨z, rfl, hz⟩, rfl⟩
  have HZ : Hid _ := hz
  clear hz
  go_wp2
  go_ret
  exact ⟨congrArg (fun b => Ending.returned (Value.bool b)) HZ.out, rfl⟩

def cOut (x : Nat × Nat) : Ending := .returned (.tuple #[.int .i64 x.1, .int .i64 x.2])

theorem node_err {L : List Nd} {n : Nat} {x : Nd} {T : List Bool} {e : Nat} (h : nodeE L n x T = .error e) : e = 50 ∨ e = 52 ∨ e = 53 := by
  unfold nodeE at h
  split at h
  · cases h; simp
  · split at h
    · cases h; simp
    · split at h
      · cases h; simp
      · split at h
        · cases h; simp
        · split at h
          · cases h; simp
          · cases h

section
variable {L : List Nd} {T : List Bool}
theorem check_long (h : 50000 < L.length) : checkL L = (0, 2) := by unfold checkL; rw [if_pos h]
theorem check_err (h : ¬ 50000 < L.length) {e : Nat × Nat} (hn : nodesL L L.length = .error e) : checkL L = e := by unfold checkL; rw [if_neg h, hn]
theorem check_empty (h : L.length = 0) : checkL L = (0, 50) := by
  have : L = [] := by rw [← List.length_eq_zero_iff]; exact h
  subst this; rfl
theorem check_last (h : ¬ 50000 < L.length) (hn : nodesL L L.length = .ok T) (h0 : L.length ≠ 0) (hb : kd L ((L.length - 1 : Nat) : Int) ≠ 1 ∨ has0 T (L.length - 1) = true) : checkL L = (L.length - 1, 50) := by
  unfold checkL; rw [if_neg h, hn]; simp only; rw [if_neg h0]; exact if_pos hb
theorem check_deep (h : ¬ 50000 < L.length) (hn : nodesL L L.length = .ok T) (h0 : L.length ≠ 0) (hk : kd L ((L.length - 1 : Nat) : Int) = 1) (hb : has0 T (L.length - 1) = false) (hd : 200 < deepL L) : checkL L = (0, 51) := by
  unfold checkL; rw [if_neg h, hn]; simp only; rw [if_neg h0, if_neg (fun hh => by rcases hh with hh | hh; exact hh hk; have : has0 T (L.length - 1) = true := hh; rw [hb] at this; cases this), if_pos hd]
theorem check_ok (h : ¬ 50000 < L.length) (hn : nodesL L L.length = .ok T) (h0 : L.length ≠ 0) (hk : kd L ((L.length - 1 : Nat) : Int) = 1) (hb : has0 T (L.length - 1) = false) (hd : ¬ 200 < deepL L) : checkL L = (0, 0) := by
  unfold checkL; rw [if_neg h, hn]; simp only; rw [if_neg h0, if_neg (fun hh => by rcases hh with hh | hh; exact hh hk; have : has0 T (L.length - 1) = true := hh; rw [hb] at this; cases this), if_neg hd]
end

set_option maxRecDepth 100000 in
set_option maxHeartbeats 2000000 in
theorem check_any (B : Nat) (L : List Nd) (w : World) (a : Option Addr) (len cap : Nat) (hlen : L.length = len) (hL : NAt B w a L) (hm : len ≤ 2600000000000) (hB : B ≤ w.heap.size) (TT : Tabs w) :
    Calls Tryd.prog 11 #[.slice a len cap] w fun e w' => e = cOut (checkL L) ∧ Fr [] w w' := by
  have HL : Hid (L.length = len) := hlen
  have HB : Hid (B ≤ w.heap.size) := hB
  have HTL : Hid (2 ≤ w.heap.size) := TT.len
  have hLL := hlen
  clear hB hlen
  by_cases h0 : 50000 < len
  · have HC : Hid (checkL L = (0, 2)) := check_long (by rw [HL.out]; exact h0)
    go_enter Tryd.func11, Tryd.ntmps11
    go_wp2
    go_ret2
    exact ⟨by rw [HC.out]; rfl, Fr.refl _ _⟩
  · have HS : Hid (¬ 50000 < L.length) := by unfold Hid; rw [HL.out]; exact h0
    have hmk := make_bools (w.alloc (.map (Es 30) 30)) len (by omega)
    simp only [World.size_alloc] at hmk
    have M0 : WM ((w.alloc (.map (Es 30) 30)).alloc (.cells ((List.replicate len false).map Value.bool).toArray 4)) w.heap.size := by
      have := WM.fr (w := w.alloc (.map (Es 30) 30)) (g := w.heap.size) (heap_alloc_new w _) ((Fr.refl [] _).alloc (.cells ((List.replicate len false).map Value.bool).toArray 4)) (by simp)
      exact this
    have T0 : TB ((w.alloc (.map (Es 30) 30)).alloc (.cells ((List.replicate len false).map Value.bool).toArray 4)) (w.heap.size + 1) (List.replicate len false) := by
      have := heap_alloc_new (w.alloc (.map (Es 30) 30)) (.cells ((List.replicate len false).map Value.bool).toArray 4)
      simp only [World.size_alloc] at this
      exact this
    have f0 : Fr [] w ((w.alloc (.map (Es 30) 30)).alloc (.cells ((List.replicate len false).map Value.bool).toArray 4)) := ((Fr.refl _ _).alloc _).alloc _
    generalize hw0 : (w.alloc (.map (Es 30) 30)).alloc (.cells ((List.replicate len false).map Value.bool).toArray 4) = w0 at *
    clear hw0
    go_enter Tryd.func11, Tryd.ntmps11
    go_wp2_with (go_at_call 22; refine (wants_any _).mono ?_; rintro e w' ⟨rfl, rfl⟩)
    go_loopw [18] (fun i wr => ∃ p : Nat, p ≤ len ∧ i = .int .i64 p ∧ Fr [] w wr ∧ WM wr w.heap.size ∧ ∃ T : List Bool, TB wr (w.heap.size + 1) T ∧ T.length = len ∧ Hid (nodesL L p = .ok T)) (fun i _ => len - (intOf i).toNat)
    case atStart => exact ⟨0, Nat.zero_le _, rfl, f0, M0, _, T0, by simp, by unfold Hid; rw [nodesL, HL.out]⟩
    case round =>
      obtain ⟨p, hp, rfl, fw, hM, T, hT, hTl, he⟩ := hrel
      clear M0 T0 hmk
      have HTl : Hid (T.length = len) := hTl
      by_cases hlt : p < len
      · have hx : L[p]? = some (L[p]'(by rw [HL.out]; exact hlt)) := List.getElem?_eq_getElem _
        generalize L[p]'(by rw [HL.out]; exact hlt) = x at hx
        have hsz := fw.size
        have C := checkNode_any B L wr a len cap hLL (hL.fr fw (by simp)) (by unfold maxLen; omega) (by have := HB.out; omega) p x hx w.heap.size (w.heap.size + 1) T len hM hT hTl (by have := HB.out; omega) (TT.fr fw (by simp)) (by have := HTL.out; omega) (by omega)
        have HX : Hid (L[p]? = some x) := hx
        clear hx hTl hT hsz
        cases hn : nodeE L p x T with
        | error er =>
          have HR : Hid (nodesL L L.length = .error (p, er)) := nodes_err he.out HX.out hn
          rw [hn] at C
          have her := node_err hn
          have hne : ((er : Int) == 0) = false := beq_int_false (by omega)
          clear hn her
          go_wp2_with (go_at_call 23; refine C.mono ?_; rintro e w' ⟨he2, f2, _⟩; rw [errOf] at he2; subst he2)
          go_ret2
          exact ⟨by rw [check_err HS.out HR.out]; rfl, fw.over f2 (by simp)⟩
        | ok T' =>
          have HR : Hid (nodesL L (p + 1) = .ok T') := nodes_ok he.out HX.out hn
          rw [hn] at C
          have hl' := node_length hn
          have HTl' : Hid (T'.length = len) := by unfold Hid; rw [hl', HTl.out]
          clear hn hl'
          go_wp2_with (go_at_call 23; refine C.mono ?_; rintro e w' ⟨he2, f2, hT2⟩; rw [errOf] at he2; subst he2)
          go_roundw
          case rel => exact ⟨p + 1, hlt, by go_num, fw.over f2 (by simp), hM.fr f2 (by simp), T', hT2 T' rfl, HTl'.out, HR⟩
          case measure => simp [intOf]; omega
      · have hpe : p = len := by omega
        subst hpe
        have HN : Hid (nodesL L L.length = .ok T) := by unfold Hid; rw [HL.out]; exact he.out
        clear he
        by_cases hz : p = 0
        · subst hz
          have HR : Hid (checkL L = (0, 50)) := check_empty HL.out
          go_wp2
          go_ret2
          exact ⟨by rw [HR.out]; rfl, fw⟩
        · have HZ : Hid (L.length ≠ 0) := by unfold Hid; rw [HL.out]; exact hz
          have hx : L[p - 1]? = some (L[p - 1]'(by rw [HL.out]; omega)) := List.getElem?_eq_getElem _
          generalize L[p - 1]'(by rw [HL.out]; omega) = x at hx
          have HK : Hid (kd L ((L.length - 1 : Nat) : Int) = x.kind) := by unfold Hid; rw [HL.out]; exact kd_at hx
          obtain ⟨b, o, rfl, hb, hN⟩ := (hL.fr fw (by simp)) (p - 1) x hx
          have c0 := hN.c0
          have hp1 : (p : Int) - 1 = ((p - 1 : Nat) : Int) := by omega
          have hsz := fw.size
          clear hN hx
          by_cases hk : x.kind = 1
          · have CC := contains_any wr (w.heap.size + 1) T (p - 1) p hT (by rw [hTl]; omega) (by unfold maxLen; omega)
            have CD := fun w' (f : Fr [] w w') => deep_any B L w' (some ⟨b, o, none⟩) p cap hLL (hL.fr f (by simp)) hm (by have := f.size; have := HB.out; omega)
            have HK1 : Hid (kd L ((L.length - 1 : Nat) : Int) = 1) := by unfold Hid; rw [HK.out, hk]
            have HQ : Hid (p = L.length) := HL.out.symm
            go_wp2_with fail
            refine CC.mono ?_
            rintro e w' ⟨rfl, rfl⟩
            cases hc : has0 T (p - 1) with
            | true =>
              have HR : Hid (checkL L = (p - 1, 50)) := by unfold Hid; rw [check_last HS.out HN.out HZ.out (.inr (by rw [HL.out]; exact hc)), HL.out]
              clear CD hc CC
              go_wp2
              go_ret2
              exact ⟨by rw [HR.out]; rfl, fw⟩
            | false =>
              have HH : Hid (has0 T (L.length - 1) = false) := by unfold Hid; rw [HL.out]; exact hc
              have hdl : deepL L ≤ p := by have := deepL_le L; rw [HL.out] at this; exact this
              clear hc CC
              go_wp2_with fail
              refine (CD _ fw).mono ?_
              rintro e w2 ⟨rfl, f2⟩
              by_cases hd : 200 < deepL L
              · have HR : Hid (checkL L = (0, 51)) := check_deep HS.out HN.out HZ.out HK1.out HH.out hd
                clear CD
                generalize deepL L = DD at *
                go_wp2
                go_ret2
                exact ⟨by rw [HR.out]; rfl, fw.trans f2⟩
              · have HR : Hid (checkL L = (0, 0)) := check_ok HS.out HN.out HZ.out HK1.out HH.out hd
                clear CD
                generalize deepL L = DD at *
                go_wp2
                go_ret2
                exact ⟨by rw [HR.out]; rfl, fw.trans f2⟩
          · have hk' : (x.kind == 1) = false := by simp [hk]
            have HR : Hid (checkL L = (p - 1, 50)) := by unfold Hid; rw [check_last HS.out HN.out HZ.out (.inl (by rw [HK.out]; exact hk)), HL.out]
            clear HK
            go_wp2
            all_goals first | (exfalso; omega) | skip
            go_ret2
            exact ⟨by rw [HR.out]; rfl, fw⟩
end Go.Proofs.YtajkkjohoedhaaaDoor
