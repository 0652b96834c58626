/-
  Which row of the table an instruction has, and which registers letters name; conditions: what lies in memory lies as told.
-/
import Derived.Test.YtkjkpkmmojchiaaGreatDoorIrA
import Derived.Lib.OthersKept
namespace Go.Proofs.YtkjkpkmmojchiaaGreatDoor
open Go.RowKit
set_option linter.unusedVariables false
set_option linter.unusedSimpArgs false

set_option maxRecDepth 100000 in
theorem row_any (op : Int) (w : World) : Calls Tryz.prog 173 #[.int .i64 op] w fun e w' => e = .returned (.int .i64 (rowN op : Nat)) ∧ w' = w := by
  by_cases h : 1 ≤ op ∧ op ≤ 28
  · have hr : rowN op = op.toNat := by unfold rowN; rw [if_pos h]
    have h1 : ¬ op < 1 := by omega
    have h2 : ¬ 28 < op := by omega
    go_enter Tryz.func173, Tryz.ntmps173
    go_wp2
    go_ret
    refine ⟨?_, rfl⟩
    rw [show max op 0 = op from by omega]
    rfl
  · have hr : rowN op = 0 := by unfold rowN; rw [if_neg h]
    rw [hr]
    by_cases h1 : op < 1
    · go_enter Tryz.func173, Tryz.ntmps173
      go_wp2
      go_ret
      exact ⟨rfl, rfl⟩
    · have h2 : 28 < op := by omega
      go_enter Tryz.func173, Tryz.ntmps173
      go_wp2
      go_ret
      exact ⟨rfl, rfl⟩

theorem regsL_at {s : ByteArray} {p : Nat} (h : p < s.size) (x : In) : regsL x (s.data.toList.drop p) = regs1 x s[p].toNat ++ regsL x (s.data.toList.drop (p + 1)) := by
  rw [drop_cons s p h]
  rfl
theorem regsL_take {s : ByteArray} {p : Nat} (h : p < s.size) (x : In) : regsL x (s.data.toList.take (p + 1)) = regsL x (s.data.toList.take p) ++ regs1 x s[p].toNat := by
  have : s.data.toList.take (p + 1) = s.data.toList.take p ++ [s[p]] := by
    rw [List.take_add_one]
    congr 1
    rw [List.getElem?_eq_getElem (by simpa using h)]
    rfl
  rw [this]
  generalize s.data.toList.take p = l
  induction l with
  | nil => simp [regsL]
  | cons c r ih => simp [regsL] at ih ⊢; rw [ih]
/-- How many letters are lists. -/
def nL (s : List UInt8) : Nat := s.countP (fun c => c.toNat == 76)
theorem regs1_len (x : In) (c : Nat) : (regs1 x c).length ≤ 1 + (if c = 76 then x.l.length else 0) := by
  unfold regs1
  repeat' split
  all_goals simp_all
  all_goals omega
theorem regsL_len (x : In) : ∀ s : List UInt8, (regsL x s).length ≤ s.length + nL s * x.l.length
  | [] => by simp [regsL]
  | c :: r => by
    have ih := regsL_len x r
    have h1 := regs1_len x c.toNat
    simp only [regsL, List.length_append, List.length_cons, nL, List.countP_cons] at ih ⊢
    by_cases hc : c.toNat = 76
    · simp only [hc, if_true, beq_self_eq_true] at h1 ⊢
      rw [Nat.add_mul]
      omega
    · have : (c.toNat == 76) = false := by simpa using hc
      simp only [this, if_neg hc, Bool.false_eq_true, if_false, Nat.add_zero] at h1 ⊢
      omega
theorem regsL_take_len (x : In) (s : List UInt8) (hn : nL s ≤ 1) (p : Nat) : (regsL x (s.take p)).length ≤ s.length + x.l.length := by
  have h1 := regsL_len x (s.take p)
  have h2 : nL (s.take p) ≤ nL s := List.Sublist.countP_le (List.take_sublist p s)
  have h3 : nL (s.take p) * x.l.length ≤ 1 * x.l.length := Nat.mul_le_mul_right _ (by omega)
  have h4 : (s.take p).length ≤ s.length := by simp; omega
  omega

theorem Fr.iterAt (w : World) (k : Nat) (s : ByteArray) (pos : Nat) : Fr [k] w (w.iterAt k s pos) :=
  ⟨rfl, rfl, rfl, by rw [Lib.iterAt_size]; exact Nat.le_refl _, fun i _ hi => Lib.iterAt_other w k i s pos (by simpa using hi)⟩
theorem own_iter {w : World} {B e size n : Nat} {v : Value} {xs : List Value} {k : Nat} {s : ByteArray} {pos : Nat} (h : w.ownsRow B e size v n xs) (hk : w.heap[k]? = some (.stringIter s pos)) : v.ownBlock ≠ some k :=
  own_notloop h hk (fun c t z e => by cases e)
/-- What stands while letters are gone through. -/
structure RegI (s : ByteArray) (B : Nat) (x : In) (w : World) (v : Value) (pos : Nat) (wr : World) : Prop where
  le : pos ≤ s.size
  it : wr.heap[w.heap.size + 1]? = some (.stringIter s pos)
  own : OR wr w.heap.size v (regsL x (s.data.toList.take pos))
  fr : Fr [] w wr
  box : wr.heap[w.heap.size]? = some (.cells x.arr 80 (0, 0))
theorem RegI.next {s : ByteArray} {B : Nat} {x : In} {w : World} {v : Value} {pos : Nat} {wr : World} (h : RegI s B x w v pos wr) (hp : pos < s.size) {news : List Int} (hn : regs1 x s[pos].toNat = news) {w2 w3 : World} {v3 : Value} (f2 : Fr [] (wr.iterAt (w.heap.size + 1) s (pos + 1)) w2)
    (ho : w3.ownsRow w.heap.size 3 1 v3 ((regsL x (s.data.toList.take pos)).length + news.length) ((regsL x (s.data.toList.take pos)).map (Value.int .i64) ++ news.map (Value.int .i64))) (hg : w2.grownBy w3 v.ownBlock) : RegI s B x w v3 (pos + 1) w3 := by
  have f1 := Fr.iterAt wr (w.heap.size + 1) s (pos + 1)
  have i1 := Lib.iterAt_heap wr (w.heap.size + 1) s pos (pos + 1) h.it
  have b1 := (f1.block _ (Array.getElem?_eq_some_iff.1 h.box).1 (by simp)).trans h.box
  have i2 := (f2.block _ (Array.getElem?_eq_some_iff.1 i1).1 (by simp)).trans i1
  have b2 := (f2.block _ (Array.getElem?_eq_some_iff.1 b1).1 (by simp)).trans b1
  have f3 := Fr.ofGrown hg
  have n1 : v.ownBlock ≠ some (w.heap.size + 1) := own_iter h.own h.it
  have n2 : v.ownBlock ≠ some w.heap.size := own_ne h.own h.box (by decide)
  refine ⟨hp, (f3.block _ (Array.getElem?_eq_some_iff.1 i2).1 (by simpa using n1)).trans i2, ?_, ?_, (f3.block _ (Array.getElem?_eq_some_iff.1 b2).1 (by simpa using n2)).trans b2⟩
  · unfold OR
    rw [regsL_take hp, hn, List.length_append, List.map_append]
    exact ho
  · have g1 : Fr [w.heap.size + 1] w w2 := ((h.fr.sub (T := [w.heap.size + 1]) (by simp)).trans f1).trans (f2.sub (by simp))
    refine (((g1.sub (T := (w.heap.size + 1) :: v.ownBlock.toList) (by simp))).trans (f3.sub (fun k hk => .inl (by simp at hk ⊢; exact .inr hk)))).sub ?_
    intro k hk
    simp at hk
    rcases hk with rfl | hk
    · exact .inr (by omega)
    · exact .inr (h.own.lt k hk).1
theorem RegI.skip {s : ByteArray} {B : Nat} {x : In} {w : World} {v : Value} {pos : Nat} {wr : World} (h : RegI s B x w v pos wr) (hp : pos < s.size) (hn : regs1 x s[pos].toNat = []) : RegI s B x w v (pos + 1) (wr.iterAt (w.heap.size + 1) s (pos + 1)) := by
  refine h.next hp hn (Fr.refl _ _) ?_ (World.grownBy.refl _ _)
  have := own_fr h.own (Fr.iterAt wr (w.heap.size + 1) s (pos + 1)) (fun k hk hm => by simp at hm; subst hm; exact own_iter h.own h.it hk)
  simpa using this

set_option maxRecDepth 100000 in
set_option maxHeartbeats 4000000 in
theorem registers_any (s : ByteArray) (hs : s.size ≤ 10) (has : ∀ i (h : i < s.size), (s[i]'h).toNat < 128) (hnL : nL s.data.toList ≤ 1) (B : Nat) (x : In) (w : World) (hx : InOk B w x) (hB : B ≤ w.heap.size) (hxl : x.l.length ≤ 8000000000000) :
    Calls Tryz.prog 174 #[.agg x.arr, .string s] w fun e w' => ∃ v, e = .returned v ∧ OR w' w.heap.size v (regsL x s.data.toList) ∧ Fr [] w w' := by
  obtain ⟨i3, hi, hz, hz1, hby⟩ := info_parts info3
  have HL := regsL_take_len x s.data.toList hnL
  have hkl := hx.kl
  have hkn := hx.kn
  have hkc := hx.kc
  have hss : s.data.toList.length = s.size := by simp
  have HBD : ∀ p, Hid ((regsL x (s.data.toList.take p)).length ≤ 10 + x.l.length) := fun p => by have := HL p; unfold Hid; omega
  clear HL
  have F0 : Fr [] w (w.alloc (.cells x.arr 80)) := (Fr.refl _ _).alloc _
  have hW0 : (w.alloc (.cells x.arr 80)).heap[w.heap.size]? = some (.cells x.arr 80 (0, 0)) := heap_alloc_new w _
  have hsz : (w.alloc (.cells x.arr 80)).heap.size = w.heap.size + 1 := by simp
  have R0 : RegI s B x w (.slice none 0 0) 0 ((w.alloc (.cells x.arr 80)).iter s 0) := by
    refine ⟨Nat.zero_le _, ?_, OR.nil _ _, F0.alloc _, ?_⟩
    · have := World.iter_heap (w.alloc (.cells x.arr 80)) s 0
      rwa [hsz] at this
    · have f : Fr [] (w.alloc (.cells x.arr 80)) ((w.alloc (.cells x.arr 80)).iter s 0) := (Fr.refl _ _).alloc _
      exact (f.block _ (Array.getElem?_eq_some_iff.1 hW0).1 (by simp)).trans hW0
  have HB : Hid (B ≤ w.heap.size) := hB
  have HXL : Hid (x.l.length ≤ 8000000000000) := hxl
  have HX : Hid (InOk B w x) := hx
  have hxln : (x.l.length : Int) ≤ 8000000000000 := by omega
  clear hB hkl hsz hW0 F0 hx hxl hss
  unfold In.arr at *
  go_enter Tryz.func174, Tryz.ntmps174
  go_wp2
  go_loopw [5] (fun v wr => ∃ pos, RegI s B x w v pos wr) (fun _ wr => s.size - wr.iterPos (w.heap.size + 1))
  case atStart => exact ⟨0, R0⟩
  case round =>
    obtain ⟨pos, hR⟩ := hrel
    clear R0
    have HR : Hid (RegI s B x w u5 pos wr) := hR
    have hit := hR.it
    have hmu : wr.iterPos (w.heap.size + 1) = pos := iterPos_of hit
    by_cases hp : pos < s.size
    · have hc := has pos hp
      have hnx := fun ty => Lib.run_next_ascii_at (P := Tryz.prog) wr (w.heap.size + 1) s pos ty hit hp hc
      have NX := fun (news : List Int) (hn : regs1 x s[pos].toNat = news) => @RegI.next s B x w u5 pos wr hR hp news hn
      have SK := @RegI.skip s B x w u5 pos wr hR hp
      have hbd := HBD pos
      obtain ⟨a5, c5, hv, hlc, hnil⟩ := hR.own.slice
      subst hv
      have f1 := Fr.iterAt wr (w.heap.size + 1) s (pos + 1)
      have bx := (f1.block _ (Array.getElem?_eq_some_iff.1 hR.box).1 (by simp)).trans hR.box
      have ow := own_fr hR.own f1 (fun k hk hm => by simp at hm; subst hm; exact own_iter hR.own hit hk)
      have k1 : KAt B (wr.iterAt (w.heap.size + 1) s (pos + 1)) x.la x.l := (HX.out.k.fr hR.fr (by simp)).fr f1 (by have := HB.out; simp; omega)
      have HBW : Hid (w.heap.size ≤ (wr.iterAt (w.heap.size + 1) s (pos + 1)).heap.size) := by unfold Hid; rw [Lib.iterAt_size]; exact hR.fr.size
      have hmu3 : ∀ {v3 : Value} {w3 : World}, RegI s B x w v3 (pos + 1) w3 → w3.iterPos (w.heap.size + 1) = pos + 1 := fun h => iterPos_of h.it
      generalize regsL x (s.data.toList.take pos) = K at *
      generalize s[pos].toNat = c at *
      have q1 : (wr.iterAt (w.heap.size + 1) s (pos + 1)).cell? ⟨w.heap.size, 1, none⟩ = some (.int .i64 x.a) := at_cells bx 1 rfl
      have q2 : (wr.iterAt (w.heap.size + 1) s (pos + 1)).cell? ⟨w.heap.size, 2, none⟩ = some (.int .i64 x.b) := at_cells bx 2 rfl
      have q3 : (wr.iterAt (w.heap.size + 1) s (pos + 1)).cell? ⟨w.heap.size, 3, none⟩ = some (.int .i64 x.c) := at_cells bx 3 rfl
      have q5 : (wr.iterAt (w.heap.size + 1) s (pos + 1)).cell? ⟨w.heap.size, 5, none⟩ = some (.slice x.la x.l.length x.lc) := at_cells bx 5 rfl
      clear hR has hnL HBD
      generalize wr.iterAt (w.heap.size + 1) s (pos + 1) = W1 at *
      have hKl : (K.length : Int) ≤ 8000000000010 := by have := hbd.out; have := HXL.out; omega
      by_cases e1 : c = 65
      · subst e1
        go_wp2_with (at_builtin; refine wpList_append_src _ rfl _ _ 65 rfl w.heap.size 3 i3 (.int .i64 0) 1 8 Tryz.underlying65 hi hz hz1 hby rfl (by decide) (.slice a5 K.length c5) K.length (K.map (Value.int .i64)) rfl (ow.alloc _) (some ⟨W1.heap.size, 0, none⟩) 1 1 [.int .i64 x.a] rfl rfl (by simp) (fun ad h => by cases h; exact one_new W1 _) (by simp [Value.oneCell']) (by unfold maxLen; omega) (by omega) (by have := HBW.out; simp; omega) ?_)
        intro v3 w3 ho hg hl
        have R3 := NX [x.a] (by simp [regs1]) ((Fr.refl _ _).alloc _) (by simpa using ho) hg
        have hm3 := hmu3 R3
        clear ho hg hl NX SK ow k1
        go_wp2
        go_roundw
        case rel => exact ⟨pos + 1, R3⟩
        case measure => rw [hmu, hm3]; omega
      · have d1 : ((c : Int) == 65) = false := beq_int_false (by omega)
        by_cases e2 : c = 66
        · subst e2
          go_wp2_with (at_builtin; refine wpList_append_src _ rfl _ _ 65 rfl w.heap.size 3 i3 (.int .i64 0) 1 8 Tryz.underlying65 hi hz hz1 hby rfl (by decide) (.slice a5 K.length c5) K.length (K.map (Value.int .i64)) rfl (ow.alloc _) (some ⟨W1.heap.size, 0, none⟩) 1 1 [.int .i64 x.b] rfl rfl (by simp) (fun ad h => by cases h; exact one_new W1 _) (by simp [Value.oneCell']) (by unfold maxLen; omega) (by omega) (by have := HBW.out; simp; omega) ?_)
          intro v3 w3 ho hg hl
          have R3 := NX [x.b] (by simp [regs1]) ((Fr.refl _ _).alloc _) (by simpa using ho) hg
          have hm3 := hmu3 R3
          clear ho hg hl NX SK ow k1
          go_wp2
          go_roundw
          case rel => exact ⟨pos + 1, R3⟩
          case measure => rw [hmu, hm3]; omega
        · have d2 : ((c : Int) == 66) = false := beq_int_false (by omega)
          by_cases e3 : c = 67
          · subst e3
            go_wp2_with (at_builtin; refine wpList_append_src _ rfl _ _ 65 rfl w.heap.size 3 i3 (.int .i64 0) 1 8 Tryz.underlying65 hi hz hz1 hby rfl (by decide) (.slice a5 K.length c5) K.length (K.map (Value.int .i64)) rfl (ow.alloc _) (some ⟨W1.heap.size, 0, none⟩) 1 1 [.int .i64 x.c] rfl rfl (by simp) (fun ad h => by cases h; exact one_new W1 _) (by simp [Value.oneCell']) (by unfold maxLen; omega) (by omega) (by have := HBW.out; simp; omega) ?_)
            intro v3 w3 ho hg hl
            have R3 := NX [x.c] (by simp [regs1]) ((Fr.refl _ _).alloc _) (by simpa using ho) hg
            have hm3 := hmu3 R3
            clear ho hg hl NX SK ow k1
            go_wp2
            go_roundw
            case rel => exact ⟨pos + 1, R3⟩
            case measure => rw [hmu, hm3]; omega
          · have d3 : ((c : Int) == 67) = false := beq_int_false (by omega)
            by_cases e4 : c = 76
            · subst e4
              have hsum : K.length + x.l.length ≤ 16000000000010 := by have := hbd.out; have := HXL.out; omega
              have hnews := k1.news
              have hno : x.la = none → x.l.length = 0 ∧ x.lc = 0 := fun h => by
                have := hkn h
                omega
              go_wp2_with (at_builtin; refine wpList_append_src _ rfl _ _ 65 rfl w.heap.size 3 i3 (.int .i64 0) 1 8 Tryz.underlying65 hi hz hz1 hby rfl (by decide) (.slice a5 K.length c5) K.length (K.map (Value.int .i64)) rfl ow x.la x.l.length x.lc (x.l.map (Value.int .i64)) rfl (by simp) hno hnews (fun u hu => by simp at hu; obtain ⟨z, _, rfl⟩ := hu; rfl) (by unfold maxLen; omega) (by omega) (by have := HBW.out; omega) ?_)
              intro v3 w3 ho hg hl
              have R3 := NX x.l (by simp [regs1]) (Fr.refl _ _) (by simpa using ho) hg
              have hm3 := hmu3 R3
              clear ho hg hl NX SK ow k1 hnews hno
              go_wp2
              go_roundw
              case rel => exact ⟨pos + 1, R3⟩
              case measure => rw [hmu, hm3]; omega
            · have d4 : ((c : Int) == 76) = false := beq_int_false (by omega)
              have R3 := SK (by simp [regs1, e1, e2, e3, e4])
              have hm3 := hmu3 R3
              clear NX SK ow k1 e1 e2 e3 e4
              go_wp2
              go_roundw
              case rel => exact ⟨pos + 1, R3⟩
              case measure => rw [hmu, hm3]; omega
    · have hnx := fun ty => Lib.run_next_end_at (P := Tryz.prog) wr (w.heap.size + 1) s pos ty hit hp
      have HE : Hid (s.data.toList.take pos = s.data.toList) := List.take_of_length_le (by simp; omega)
      clear hR
      go_wp2
      go_ret
      refine ⟨u5, rfl, ?_, HR.out.fr⟩
      have := HR.out.own
      rw [HE.out] at this
      exact this
end Go.Proofs.YtkjkpkmmojchiaaGreatDoor
