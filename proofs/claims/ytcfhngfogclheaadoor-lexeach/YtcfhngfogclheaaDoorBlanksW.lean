/-
  A blank ahead moves all tokens by one place: the law, walked; condition: the tables lie as the program's text lays them.
-/
import Derived.Test.YtcfhngfogclheaaDoorScansW
import Derived.Laws.BytesString
namespace Go.Proofs.YtcfhngfogclheaaDoor
open Go.RowKit

def mv (t : Tok) : Tok := ⟨t.kind, t.text, t.frm + 1, t.to + 1, t.n⟩
def mvR : List Tok × Option (Nat × Nat) → List Tok × Option (Nat × Nat)
  | (ts, er) => (ts.map mv, er.map fun x => (x.1 + 1, x.2))
theorem readL_frm {p : Nat} {l : List UInt8} {t : Tok} (h : readL p l = .ok t) : t.frm = p := by
  unfold readL at h
  repeat (first | (injection h with h; subst h; rfl) | cases h | split at h)
theorem readL_mv (p : Nat) (l : List UInt8) : readL (p + 1) l = (match readL p l with | .ok t => .ok (mv t) | .error e => .error e) := by
  unfold readL
  repeat (first | (simp [mv]; omega) | rfl | split)
  all_goals simp_all [mv]
  all_goals omega
theorem scanL_mv : ∀ (f p : Nat) (l : List UInt8), scanL f (p + 1) l = mvR (scanL f p l) := by
  intro f
  induction f with
  | zero => intro p l; rfl
  | succ f ih =>
    intro p l
    simp only [scanL]
    split
    · rfl
    · rw [show p + 1 + skipL false l = p + skipL false l + 1 from by omega, readL_mv]
      cases hr : readL (p + skipL false l) (l.drop (skipL false l)) with
      | error e => rfl
      | ok t =>
        simp only [mv]
        rw [show t.to + 1 - (p + 1) = t.to - p from by omega, ih]
        rfl
theorem scanL_bl (f : Nat) (b : UInt8) (l : List UInt8) (hb : isBl b.toNat = true) : scanL (f + 1) 0 (b :: l) = scanL (f + 1) 1 l := by
  have hsk : skipL false (b :: l) = skipL false l + 1 := by simp [skipL, hb]
  simp only [scanL]
  rw [hsk]
  by_cases he : skipL false l = l.length
  · rw [if_pos (by simp [he]), if_pos he]
  · rw [if_neg (by simp [he]), if_neg he, List.drop_succ_cons, show 0 + (skipL false l + 1) = 1 + skipL false l from by omega]
    have hle := skipL_le false l
    have hne : l.drop (skipL false l) ≠ [] := fun e => by
      have := congrArg List.length e
      simp at this
      omega
    cases hr : readL (1 + skipL false l) (l.drop (skipL false l)) with
    | error e => rfl
    | ok t =>
      have ht := readL_to hne hr
      simp only
      rw [show t.to - 0 = (t.to - 1) + 1 from by omega, List.drop_succ_cons]
theorem sc_bl (s : ByteArray) (b : UInt8) (hb : isBl b.toNat = true) : sc ⟨(b :: s.data.toList).toArray⟩ 0 = mvR (sc s 0) := by
  unfold sc
  have hz : (⟨(b :: s.data.toList).toArray⟩ : ByteArray).size = s.size + 1 := by
    rw [Lib.size_eq]; simp
  rw [hz, List.drop_zero, List.drop_zero]
  show scanL (s.size + 1 + 1) 0 (b :: s.data.toList) = _
  rw [scanL_bl _ _ _ hb, scanL_mv]
  congr 1
  exact scanL_fuel _ _ _ _ (by rw [← Lib.size_eq]; omega) (by rw [← Lib.size_eq]; omega)

theorem scanL_pos : ∀ (f p : Nat) (l : List UInt8) (x : Nat × Nat), (scanL f p l).2 = some x → x.1 ≤ p + l.length := by
  intro f
  induction f with
  | zero => intro p l x h; simp [scanL] at h
  | succ f ih =>
    intro p l x h
    have hle := skipL_le false l
    simp only [scanL] at h
    split at h
    · simp at h
    · rename_i hne'
      cases hr : readL (p + skipL false l) (l.drop (skipL false l)) with
      | error e =>
        rw [hr] at h
        simp at h
        rw [← h]
        simp
        exact hle
      | ok t =>
        rw [hr] at h
        have hne : l.drop (skipL false l) ≠ [] := fun e => by
          have := congrArg List.length e
          simp at this
          omega
        have ht := readL_to hne hr
        have := ih _ _ _ h
        simp at this ht
        omega
theorem sc_pos {s : ByteArray} {ts : List Tok} {p c : Nat} (h : sc s 0 = (ts, some (p, c))) : p ≤ s.size := by
  unfold sc at h
  have := scanL_pos _ _ _ (p, c) (by rw [h])
  rw [List.drop_zero, ← Lib.size_eq] at this
  simpa using this
theorem scanL_in : ∀ (f p : Nat) (l : List UInt8) (t : Tok), t ∈ (scanL f p l).1 → t.frm ≤ p + l.length ∧ t.to ≤ p + l.length := by
  intro f
  induction f with
  | zero => intro p l x h; simp [scanL] at h
  | succ f ih =>
    intro p l x h
    have hle := skipL_le false l
    simp only [scanL] at h
    split at h
    · simp at h
    · rename_i hne'
      cases hr : readL (p + skipL false l) (l.drop (skipL false l)) with
      | error e =>
        rw [hr] at h
        simp at h
      | ok t =>
        rw [hr] at h
        have hne : l.drop (skipL false l) ≠ [] := fun e => by
          have := congrArg List.length e
          simp at this
          omega
        have ht := readL_to hne hr
        have hf := readL_frm hr
        simp at ht
        simp only [List.mem_cons] at h
        rcases h with h | h
        · subst h
          omega
        · have := ih _ _ _ h
          simp at this
          omega
theorem sc_in {s : ByteArray} {t : Tok} (h : t ∈ (sc s 0).1) : t.frm ≤ s.size ∧ t.to ≤ s.size := by
  unfold sc at h
  have := scanL_in _ _ _ t h
  rw [List.drop_zero, ← Lib.size_eq] at this
  simpa using this
theorem und9 : Tryd.prog.underlying 9 = some .string := by kernel_rfl
theorem conv_one (W : World) (b : Int) : (convert 42 9 (.slice (some ⟨W.heap.size, 0, none⟩) 1 1)).run Tryd.prog (W.alloc (.cells #[.int .u8 b] 5)) = .ok (.string ⟨#[UInt8.ofNat b.toNat]⟩) (W.alloc (.cells #[.int .u8 b] 5)) := by
  rw [run_convert_bytes_string _ 42 9 5 _ _ _ under42 und5 und9]
  have hl : (loadCells ⟨W.heap.size, 0, none⟩ 1).run Tryd.prog (W.alloc (.cells #[.int .u8 b] 5)) = .ok ([b].map (Value.int .u8)).toArray (W.alloc (.cells #[.int .u8 b] 5)) :=
    run_loadCells_list (P := Tryd.prog) _ ⟨W.heap.size, 0, none⟩ [.int .u8 b] (cell_one_new W (.int .u8 b) 5)
  rw [run_bytesToString _ _ _ _ _ hl]
  rfl
theorem cat_one (c : UInt8) (s : ByteArray) : (⟨#[c]⟩ : ByteArray) ++ s = ⟨(c :: s.data.toList).toArray⟩ := by
  apply ByteArray.ext
  simp
theorem flat_mv (ts : List Tok) (i : Nat) (t : Tok) (h : ts[i]? = some t) : (ts.map mv)[i]? = some (mv t) := by simp [h]

set_option maxRecDepth 100000 in
set_option maxHeartbeats 2000000 in
theorem blanks_walk (s : ByteArray) (b : Nat) (w : World) (hs : s.size ≤ maxLen) (hb : b < 256) (T : Tabs w) :
    Calls Tryd.prog 8 #[.string s, .int .u8 b] w fun e w' => e = .returned (.bool true) ∧ Fr [] w w' := by
  unfold maxLen at hs
  by_cases h : (2000 : Int) < s.size
  · go_enter Tryd.func8, Tryd.ntmps8
    go_wp2_with (go_at_call 9; refine (awake_any _ T).mono ?_; rintro e w1 ⟨rfl, F1⟩)
    go_ret
    exact ⟨rfl, F1⟩
  · by_cases hbl : isBl b = true
    · have hcl := of_decide_eq_true hbl
      have hcb : (UInt8.ofNat b).toNat = b := by simp; omega
      have hsc2 : sc (⟨#[UInt8.ofNat b]⟩ ++ s) 0 = mvR (sc s 0) := by rw [cat_one]; exact sc_bl s _ (by rw [hcb]; exact hbl)
      have hsz2 : ((⟨#[UInt8.ofNat b]⟩ : ByteArray) ++ s).size = s.size + 1 := by rw [cat_one, Lib.size_eq, Lib.size_eq]; simp
      have h1 := fun w T => scan_any s w (by omega) T
      have h2 := fun w T => scan_any (⟨#[UInt8.ofNat b]⟩ ++ s) w (by rw [hsz2]; omega) T
      have hlen := sc_len (s := s)
      have HSZ : Hid _ := hsz2
      obtain ⟨ts, er, hsc⟩ : ∃ ts er, sc s 0 = (ts, er) := ⟨_, _, rfl⟩
      rw [hsc] at hsc2 hlen
      simp only at hlen
      unfold scOut at h1 h2
      rw [hsc2] at h2
      rw [hsc] at h1
      clear hcb hbl hsz2
      have hh : ¬ (2000 : Int) < s.size := h
      clear h
      have kc : ∀ W : World, (convert 42 9 (.slice (some ⟨W.heap.size, 0, none⟩) 1 1)).run Tryd.prog (W.alloc (.cells #[.int .u8 (b : Int)] 5)) = .ok (.string ⟨#[UInt8.ofNat b]⟩) (W.alloc (.cells #[.int .u8 (b : Int)] 5)) := fun W => by simpa using conv_one W b
      have hcase : (((b : Int) != 32) = false) ∨ (((b : Int) != 32) = true ∧ ((b : Int) != 9) = false) ∨ (((b : Int) != 32) = true ∧ ((b : Int) != 9) = true ∧ ((b : Int) != 10) = false) ∨ (((b : Int) != 32) = true ∧ ((b : Int) != 9) = true ∧ ((b : Int) != 10) = true ∧ ((b : Int) != 13) = false) := by
        simp
        omega
      clear hcl
      cases er with
      | some x =>
        obtain ⟨p, c⟩ := x
        have hc := sc_ne0 hsc
        have hc' : ((c : Int) != 0) = true := by simp; omega
        have hp := sc_pos hsc
        have hp' : (p : Int) ≤ s.size := by omega
        simp only [mvR, Option.map_some] at h1 h2
        clear hsc hsc2 hc hp
        rcases hcase with e32 | ⟨e32, e9⟩ | ⟨e32, e9, e10⟩ | ⟨e32, e9, e10, e13⟩
        all_goals
          go_enter Tryd.func8, Tryd.ntmps8
          go_wp2_with fail
          refine (awake_any _ T).mono ?_
          rintro e w1 ⟨rfl, F1⟩
          have T1 := T.fr F1 (by simp)
          go_wp2_with fail
          refine (h1 w1 T1).mono ?_
          rintro e w2 ⟨rfl, F2⟩
          have kc2 := kc w2
          clear kc
          have F2b : Fr [] w2 (w2.alloc (.cells #[.int .u8 (b : Int)] 5)) := (Fr.refl _ _).alloc _
          have T2 := (T1.fr F2 (by simp)).fr F2b (by simp)
          go_wp2_with fail
          refine (h2 _ T2).mono ?_
          rintro e w3 ⟨rfl, F3⟩
          have FF := ((F1.trans F2).trans F2b).trans F3
          clear h1 h2 F1 F2 F2b F3 T1 T2 kc2
          go_wp2
          go_loopg [72] 0 (fun h j wr => h = 0 ∧ j = .int .i64 0 ∧ wr = w3)
          case atStart => exact ⟨rfl, rfl, rfl⟩
          case round =>
            obtain ⟨rfl, rfl, rfl⟩ := hrel
            go_wp2
            go_ret
            exact ⟨rfl, FF⟩
      | none =>
        simp only [mvR, Option.map_none] at h1 h2
        have hall : Hid (ts.map mv ++ [⟨0, [], ((⟨#[UInt8.ofNat b]⟩ : ByteArray) ++ s).size, ((⟨#[UInt8.ofNat b]⟩ : ByteArray) ++ s).size, 0⟩] = (ts ++ [(⟨0, [], s.size, s.size, 0⟩ : Tok)]).map mv) := by
          show _ = _
          rw [HSZ.out]
          simp [mv]
        rw [hall.out] at h2
        have hln : (ts.map mv).length = ts.length := by simp
        rw [hln] at h2
        have hAl : Hid ((ts ++ [(⟨0, [], s.size, s.size, 0⟩ : Tok)]).length = ts.length + 1) := by show _ = _; simp
        have hbd : Hid (∀ t, t ∈ ts ++ [(⟨0, [], s.size, s.size, 0⟩ : Tok)] → t.frm ≤ s.size ∧ t.to ≤ s.size) := by
          intro t ht
          rcases List.mem_append.1 ht with ht | ht
          · exact sc_in (by rw [hsc]; exact ht)
          · simp at ht
            subst ht
            exact ⟨Nat.le_refl _, Nat.le_refl _⟩
        generalize (ts ++ [⟨0, [], s.size, s.size, 0⟩] : List Tok) = all at *
        clear hsc hsc2 hall hln HSZ
        rcases hcase with e32 | ⟨e32, e9⟩ | ⟨e32, e9, e10⟩ | ⟨e32, e9, e10, e13⟩
        all_goals
          go_enter Tryd.func8, Tryd.ntmps8
          go_wp2_with fail
          refine (awake_any _ T).mono ?_
          rintro e w1 ⟨rfl, F1⟩
          have T1 := T.fr F1 (by simp)
          go_wp2_with fail
          refine (h1 w1 T1).mono ?_
          rintro e w2 ⟨⟨v, rfl, hown⟩, F2⟩
          obtain ⟨g1, c1, rfl, hc1, L1⟩ := own_Lt hown (by omega)
          have kc2 := kc w2
          clear kc
          have F2b : Fr [] w2 (w2.alloc (.cells #[.int .u8 (b : Int)] 5)) := (Fr.refl _ _).alloc _
          have T2 := (T1.fr F2 (by simp)).fr F2b (by simp)
          go_wp2_with fail
          refine (h2 _ T2).mono ?_
          rintro e w3 ⟨⟨v2, rfl, hown2⟩, F3⟩
          obtain ⟨g2, c2, rfl, hc2, L2⟩ := own_Lt hown2 (by omega)
          have FF := ((F1.trans F2).trans F2b).trans F3
          have L1' := L1.fr (F2b.trans F3)
          have hnn : (ts.length : Int) + 1 ≤ 3000 := by omega
          have hca1 : (ts.length : Int) + 1 ≤ c1 := by omega
          have hca2 : (ts.length : Int) + 1 ≤ c2 := by omega
          clear h1 h2 F1 F2 F2b F3 T1 T2 kc2 hown hown2 L1
          go_wp2
          go_loopg [72] (ts.length + 1) (fun h j wr => ∃ k : Nat, k + h = ts.length + 1 ∧ j = .int .i64 k ∧ Fr [] w3 wr)
          case atStart => exact ⟨0, by omega, rfl, Fr.refl _ _⟩
          case round =>
            obtain ⟨k, hkn, rfl, FW⟩ := hrel
            cases gk with
            | zero =>
              have hlt : ¬ (k : Int) < (ts.length : Int) + 1 := by omega
              go_wp2
              go_ret
              exact ⟨rfl, FF.trans FW⟩
            | succ h =>
              have hlt : (k : Int) < (ts.length : Int) + 1 := by omega
              obtain ⟨t, ht⟩ : ∃ t, all[k]? = some t := ⟨_, List.getElem?_eq_getElem (by have := hAl.out; omega)⟩
              have ht2 := flat_mv all k t ht
              obtain ⟨hb1, hb2⟩ := hbd.out t (List.mem_of_getElem? ht)
              have c1j : ∀ j, j < 5 → ∀ u, (tokA t)[j]? = some u → wr.cell? ⟨g1, k * 5 + j, none⟩ = some u := fun j hj u hu => by
                have := L1'.fr FW (k * 5 + j) u (by rw [flatT_at all k t ht j hj]; exact hu)
                rwa [Nat.zero_add] at this
              have c2j : ∀ j, j < 5 → ∀ u, (tokA (mv t))[j]? = some u → wr.cell? ⟨g2, k * 5 + j, none⟩ = some u := fun j hj u hu => by
                have := L2.fr FW (k * 5 + j) u (by rw [flatT_at _ k _ ht2 j hj]; exact hu)
                rwa [Nat.zero_add] at this
              have a0 := c1j 0 (by decide) (.int .i64 t.kind) rfl
              have a1 := c1j 1 (by decide) (.string ⟨t.text.toArray⟩) rfl
              have a2 := c1j 2 (by decide) (.int .i64 t.frm) rfl
              have a3 := c1j 3 (by decide) (.int .i64 t.to) rfl
              have a4 := c1j 4 (by decide) (.int .i64 t.n) rfl
              have b0 := c2j 0 (by decide) (.int .i64 t.kind) rfl
              have b1 := c2j 1 (by decide) (.string ⟨t.text.toArray⟩) rfl
              have b2 := c2j 2 (by decide) (.int .i64 (t.frm + 1 : Nat)) rfl
              have b3 := c2j 3 (by decide) (.int .i64 (t.to + 1 : Nat)) rfl
              have b4 := c2j 4 (by decide) (.int .i64 t.n) rfl
              simp only [Nat.add_zero, Int.natCast_add, Int.cast_ofNat_Int] at a0 b0 b2 b3
              have d2 : (t.frm : Int) ≤ 2000 := by omega
              have d3 : (t.to : Int) ≤ 2000 := by omega
              have d2' : (0 : Int) ≤ t.frm := by omega
              have d3' : (0 : Int) ≤ t.to := by omega
              generalize (t.kind : Int) = x0 at *
              generalize (⟨t.text.toArray⟩ : ByteArray) = x1 at *
              generalize (t.frm : Int) = x2 at *
              generalize (t.to : Int) = x3 at *
              generalize (t.n : Int) = x4 at *
              clear c1j c2j ht ht2 hb1 hb2
              have hg2 : g2 < wr.heap.size := World.block_lt_of_cell? wr _ b0
              go_wp2
              have t5 := TB.new wr (.int .i64 x0) (.string x1) (.int .i64 (x2 + 1)) (.int .i64 (x3 + 1)) (.int .i64 x4)
              have F5 : Fr [] wr (wr.alloc (.cells #[.int .i64 x0, .string x1, .int .i64 (x2 + 1), .int .i64 (x3 + 1), .int .i64 x4] 35)) := (Fr.refl _ _).alloc _
              have b0 := F5.cell1 b0 (by simp)
              have b1 := F5.cell1 b1 (by simp)
              have b2 := F5.cell1 b2 (by simp)
              have b3 := F5.cell1 b3 (by simp)
              have b4 := F5.cell1 b4 (by simp)
              have FW5 := FW.trans F5
              clear FW F5 a0 a1 a2 a3 a4 hg2
              generalize wr.alloc (.cells #[.int .i64 x0, .string x1, .int .i64 (x2 + 1), .int .i64 (x3 + 1), .int .i64 x4] 35) = w5 at *
              generalize wr.heap.size = C at *
              have f0 := t5.c0
              have f1 := t5.c1
              have f2 := t5.c2
              have f3 := t5.c3
              have f4 := t5.c4
              go_quiet (fail)
              go_wp2
              go_roundg h
              case measure => omega
              case rel => exact ⟨k + 1, by omega, by go_num, FW5.drewN _⟩
    · have hbl' : isBl b = false := by simpa using hbl
      have hcl := of_decide_eq_false hbl'
      have e32 : ((b : Int) != 32) = true := by simp; omega
      have e9 : ((b : Int) != 9) = true := by simp; omega
      have e10 : ((b : Int) != 10) = true := by simp; omega
      have e13 : ((b : Int) != 13) = true := by simp; omega
      clear hbl hbl' hcl
      go_enter Tryd.func8, Tryd.ntmps8
      go_wp2_with (go_at_call 9; refine (awake_any _ T).mono ?_; rintro e w1 ⟨rfl, F1⟩)
      go_ret
      exact ⟨rfl, F1⟩
end Go.Proofs.YtcfhngfogclheaaDoor
