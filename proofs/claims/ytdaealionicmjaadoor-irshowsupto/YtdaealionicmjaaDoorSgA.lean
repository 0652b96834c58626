/-
  Numbers as texts, and a Builder in memory; conditions: the library's table lies as its text lays it, texts are not too long.
-/
import Derived.Test.YtdaealionicmjaaDoorIrU
import Derived.Test.YtdaealionicmjaaDoorFmt
import Derived.Lib.LaidTab
import Derived.Lib.AppendIntMem
import Derived.Lib.Builder
import Derived.Lib.AppendStr
namespace Go.Proofs.YtdaealionicmjaaDoor
open Go.RowKit
set_option linter.unusedVariables false
set_option linter.unusedSimpArgs false

def pw10 : String := "internal/strconv.uint64pow10"
theorem gPow : Tryd.prog.globalNamed pw10 = some 4 := by kernel_rfl
/-- The library's table as its text lays it. -/
structure Pw (w : World) : Prop where
  pow : Lib.TabIs Tryd.prog w pw10 .u64 Lib.pow10Tab
  len : 5 ≤ w.heap.size
theorem Pw.low {w w' : World} (h : Pw w) (hb : w'.heap[4]? = w.heap[4]?) (hs : w.heap.size ≤ w'.heap.size) : Pw w' :=
  ⟨by
    have hp := h.pow
    unfold Lib.TabIs World.var? at *
    rw [gPow] at hp ⊢
    simp only [Option.bind_some] at hp ⊢
    rw [hb]
    exact hp, Nat.le_trans h.len hs⟩
theorem Pw.fr {S : List Nat} {w w' : World} (h : Pw w) (f : Fr S w w') (hS : ∀ k, k ∈ S → 5 ≤ k) : Pw w' :=
  h.low (f.block 4 (Nat.lt_of_lt_of_le (by decide) h.len) (fun hm => by have := hS _ hm; omega)) f.size
theorem Pw.below {w w' : World} {B : Nat} (h : Pw w) (f : Below B w w') (hB : 5 ≤ B) : Pw w' := h.low (f.block 4 (by omega)) f.size
theorem fmt_fr {w w' : World} {k : Nat} {os : Array Obj} (h : w' = Go.Sort.grow (w.drewN k) os) : Fr [] w w' := by
  rw [h]
  exact Fr.ofBelow (Lib.below_grow _ w (Nat.le_refl _) k os)

theorem wf_range {n : Int} (h : (Lit.int .i64 n).wf = true) : -9223372036854775808 ≤ n ∧ n ≤ 9223372036854775807 := by
  have e1 : IntKind.min .i64 = -9223372036854775808 := by decide
  have e2 : IntKind.max .i64 = 9223372036854775807 := by decide
  simp only [Lit.wf, Bool.and_eq_true, decide_eq_true_eq, e1, e2] at h
  exact h

theorem dec_len2 : ∀ (k n : Nat), n < 10 ^ (k + 1) → (Lib.decDigits n).length ≤ k + 1
  | 0, n, h => by rw [Lib.decDigits_one (by simpa using h)]; simp
  | k + 1, n, h => by
    by_cases h10 : n < 10
    · rw [Lib.decDigits_one h10]; simp
    · rw [Lib.decDigits, dif_neg h10, List.length_append]
      have := dec_len2 k (n / 10) (by
        rw [Nat.pow_succ] at h
        exact Nat.div_lt_of_lt_mul (by rw [Nat.mul_comm]; exact h))
      simp
      omega
theorem itoa_len {n : Int} (h : (Lit.int .i64 n).wf = true) : (Lib.itoa n).length ≤ 21 := by
  have := wf_range h
  unfold Lib.itoa
  split
  · have := dec_len2 19 n.natAbs (by omega)
    simp only [List.length_cons]
    omega
  · have := dec_len2 19 n.toNat (by omega)
    omega


theorem itoa_any (n : Int) (hn : (Lit.int .i64 n).wf = true) (w : World) (T : Pw w) :
    Calls Tryd.prog 28 #[.int .i64 n] w fun e w' => e = .returned (.string (txt (Lib.itoa n))) ∧ Fr [] w w' := by
  refine (Tryd.strconv_Itoa n (wf_range hn).1 (wf_range hn).2 w T.pow).mono ?_
  rintro e w' ⟨he, k, os, hw⟩
  exact ⟨he, fmt_fr hw⟩
theorem format_any (n : Int) (hn : (Lit.int .i64 n).wf = true) (w : World) (T : Pw w) :
    Calls Tryd.prog 33 #[.int .i64 n, .int .i64 10] w fun e w' => e = .returned (.string (txt (Lib.itoa n))) ∧ Fr [] w w' := by
  refine (Tryd.strconv_FormatInt_10 n (wf_range hn).1 (wf_range hn).2 w T.pow).mono ?_
  rintro e w' ⟨he, k, os, hw⟩
  exact ⟨he, fmt_fr hw⟩

/-- A Builder of one's own with bytes in it. -/
def BD (B b : Nat) (l : List UInt8) (w : World) : Prop := Lib.IsBuilder 54 5 B b (Lib.byteCells l) w
/-- What a writer leaves: all but its own blocks. -/
structure FB (B b : Nat) (w w' : World) : Prop where
  low : Below B w w'
  keep : ∀ k o, w.heap[k]? = some o → (∀ c z, o ≠ .cells c 5 z) → k ≠ b → w'.heap[k]? = some o
theorem FB.refl (B b : Nat) (w : World) : FB B b w w := ⟨Below.refl _ _, fun k o h _ _ => h⟩
theorem FB.trans {B b : Nat} {w1 w2 w3 : World} (h : FB B b w1 w2) (k : FB B b w2 w3) : FB B b w1 w3 := ⟨h.low.trans k.low, fun i o e1 e2 e3 => k.keep i o (h.keep i o e1 e2 e3) e2 e3⟩
theorem FB.ofFr {B b : Nat} {w w' : World} (h : Fr [] w w') (hB : B ≤ w.heap.size) : FB B b w w' := ⟨h.below hB (by simp), fun k o e _ _ => (h.block _ (Array.getElem?_eq_some_iff.1 e).1 (by simp)).trans e⟩
theorem BD.fr {B b : Nat} {l : List UInt8} {w w' : World} (h : BD B b l w) (f : Fr [] w w') : BD B b l w' := by
  rcases h with ⟨h1, v, h2, h3, h4⟩ | ⟨h1, v, h2, h3, h4⟩
  · exact .inl ⟨h1, v, (f.block _ (Array.getElem?_eq_some_iff.1 h2).1 (by simp)).trans h2, own_fr h3 f (by simp), h4⟩
  · exact .inr ⟨h1, v, (f.block _ (Array.getElem?_eq_some_iff.1 h2).1 (by simp)).trans h2, own_fr h3 f (by simp), h4⟩

theorem sizeB : (Tryd.prog.info? 54).map (·.size) = some 2 := by kernel_rfl
theorem liesB : liesAt Tryd.prog Tryd.prog.depth 54 (2 / Tryd.prog.cellsOf 54) 0 54 1 = true := by kernel_rfl
set_option maxRecDepth 100000 in
set_option maxHeartbeats 1000000 in
theorem copy_used {wb : Nat} {w : World} (h0 : w.cell? ⟨wb, 0, none⟩ = some (.pointer (some ⟨wb, 0, none⟩))) :
    Calls Tryd.prog 44 #[.pointer (some ⟨wb, 0, none⟩)] w fun e w' => e = .returned (.tuple #[]) ∧ w' = w := by
  obtain ⟨j, hj, _⟩ := Option.map_eq_some_iff.1 sizeB
  go_enter Tryd.func44, Tryd.ntmps44
  go_wp2
  rw [Lib.run_neq_ptr_same w _ Tryd.underlying51 hj]
  go_wp2
  go_end0
  exact ⟨rfl, rfl⟩
set_option maxRecDepth 100000 in
set_option maxHeartbeats 1000000 in
theorem copy_fresh {wb : Nat} {w : World} (h0 : w.cell? ⟨wb, 0, none⟩ = some (.pointer none)) (hsh : w.shape? wb = some (54, 2)) (hfz : w.frozen? ⟨wb, 0, none⟩ = false) :
    Calls Tryd.prog 44 #[.pointer (some ⟨wb, 0, none⟩)] w fun e w' => e = .returned (.tuple #[]) ∧ w' = w.setCell ⟨wb, 0, none⟩ (.pointer (some ⟨wb, 0, none⟩)) := by
  obtain ⟨j, hj, hjs⟩ := Option.map_eq_some_iff.1 sizeB
  go_enter Tryd.func44, Tryd.ntmps44
  go_wp2
  rw [Lib.run_to_unsafe w ⟨wb, 0, none⟩ Tryd.underlying51 Tryd.underlying89 hj (by rw [hjs]; decide) hsh (by show 0 < 2; decide)]
  simp only [Result.andThen]
  rw [Oper.upon_value]
  go_wp2
  rw [run_callFunc_extern Tryd.func55 (by kernel_rfl) (by kernel_rfl) (by kernel_rfl) (e := Extern.AbiNoEscape.same) (by kernel_rfl)]
  rw [Lib.run_noEscape]
  simp only [Result.andThen]
  rw [Oper.upon_value]
  go_wp2
  rw [Lib.run_from_unsafe w ⟨wb, 0, none⟩ Tryd.underlying89 Tryd.underlying51 hj hsh liesB]
  simp only [Result.andThen]
  rw [Oper.upon_value]
  go_wp2
  go_end0
  exact ⟨rfl, rfl⟩
theorem append_step {w : World} {ops : Array Oper} {rest : List Oper} {o : Oper} {a : Act} {Q : Exit → Act → World → Prop} (hgd : o.guard = none) (sl x : Operand) (ho : o.op = .call { callee := .builtin .append, args := #[sl, x], argTypes := #[52, 9] }) (i0 : TypeInfo) (hi : Tryd.prog.info? 5 = some i0) (hz0 : i0.zero = some (.int .u8 0)) (hz1 : i0.size = 1) (hz2 : i0.bytes = 1)
    (base : Nat) (v : Value) (n : Nat) (xs : List Value) (hs : a.eval sl = v) (hown : w.ownsRow base 5 1 v n xs) (s : ByteArray) (hx : a.eval x = .string s) (hl : n + s.size ≤ 1000000000000) (hbase : base ≤ w.heap.size)
    (h : ∀ v' w', w'.ownsRow base 5 1 v' (n + s.size) (xs ++ Lib.strCells s) → w.grownBy w' v.ownBlock → wpList Tryd.prog ops Q rest (a.put o.dst v') w') : wpList Tryd.prog ops Q (o :: rest) a w := by
  refine wpList_plain hgd fun K hK => ?_
  obtain ⟨v', w', hr, h2, h3, _⟩ := Lib.run_append_own_string (P := Tryd.prog) w base 52 9 o.type 5 i0 Tryd.underlying52 Tryd.underlying9 hi hz0 hz1 hz2 v n xs hown s (by unfold maxLen; omega) (by omega) hbase
  have hk := hK _ _ (h v' w' h2 h3)
  unfold Oper.wp execOp
  simp [ho, resolve, invoke, builtin, hs, hx, hr]
  exact hk
theorem infoU : (Tryd.prog.info? 5).map (fun i => (i.zero, i.size, i.bytes)) = some (some (.int .u8 0), 1, 1) := by kernel_rfl

set_option maxRecDepth 100000 in
set_option maxHeartbeats 2000000 in
theorem write_any {B b : Nat} {bs : List UInt8} {w : World} (h : BD B b bs w) (s : ByteArray) (hl : bs.length + s.size ≤ 1000000000000) :
    Calls Tryd.prog 27 #[.pointer (some ⟨b, 0, none⟩), .string s] w fun e w' => e = .returned (.tuple #[.int .i64 s.size, .nilIface]) ∧ BD B b (bs ++ s.data.toList) w' ∧ FB B b w w' := by
  obtain ⟨i0, hi, hz0, hz1, hz2⟩ := info_parts infoU
  have hm : bs.length + s.size ≤ maxLen := by unfold maxLen; omega
  have CC : Calls Tryd.prog 44 #[.pointer (some ⟨b, 0, none⟩)] w fun e w1 => e = .returned (.tuple #[]) ∧ ∃ v, w1.heap[b]? = some (.cells #[.pointer (some ⟨b, 0, none⟩), v] 54 (0, 0)) ∧ w1.ownsRow B 5 1 v bs.length (Lib.byteCells bs) ∧ v.ownBlock ≠ some b ∧ Fr [b] w w1 ∧ B ≤ b ∧ ∀ k, v.ownBlock = some k → B ≤ k ∧ ∃ c z, w.heap[k]? = some (.cells c 5 z) := by
    have V5 : ∀ v xs n, w.ownsRow B 5 1 v n xs → ∀ k, v.ownBlock = some k → B ≤ k ∧ ∃ c z, w.heap[k]? = some (.cells c 5 z) := fun v xs n ho k hk => by
      rcases ho.2 with ⟨e1, _⟩ | ⟨g, cap, cur, e1, hbg, hgg, _⟩
      · rw [e1] at hk; simp [Value.ownBlock] at hk
      · rw [e1] at hk
        simp [Value.ownBlock] at hk
        subst hk
        exact ⟨hbg, cur, (0, 0), hgg⟩
    rcases h with ⟨h1, v, h2, h3, h4⟩ | ⟨h1, v, h2, h3, h4⟩
    · refine (copy_fresh (at_cells h2 0 rfl) (by simp [World.shape?, h2]) (by simp [World.frozen?, h2])).mono ?_
      rintro e w' ⟨rfl, rfl⟩
      have f1 : Fr [b] w (w.setCell ⟨b, 0, none⟩ (.pointer (some ⟨b, 0, none⟩))) := Fr.setCell (Fr.refl _ _) (.inl (by simp)) _
      refine ⟨rfl, v, by simp [World.setCell, Array.getElem?_modify, h2], ?_, h4, f1, h1, V5 _ _ _ h3⟩
      have := own_fr h3 f1 (fun k hk hm => h4 (by simp at hm; rw [← hm]; exact hk))
      simpa [Lib.byteCells] using this
    · refine (copy_used (at_cells h2 0 rfl)).mono ?_
      rintro e w' ⟨rfl, rfl⟩
      exact ⟨rfl, v, h2, by simpa [Lib.byteCells] using h3, h4, Fr.refl _ _, h1, V5 _ _ _ h3⟩
  have hbw : b < w.heap.size := by rcases h with ⟨_, v, h2, _⟩ | ⟨_, v, h2, _⟩ <;> exact (Array.getElem?_eq_some_iff.1 h2).1
  clear h
  go_enter Tryd.func27, Tryd.ntmps27
  go_wp2_with fail
  refine CC.mono ?_
  rintro e w1 ⟨rfl, v, hb, hown, hv, f1, hBb, hv5⟩
  have c1 : w1.cell? ⟨b, 1, none⟩ = some v := at_cells hb 1 rfl
  have hB1 : B ≤ w1.heap.size := by have := f1.size; omega
  clear CC
  go_wp2_with (at_builtin; refine append_step rfl _ _ rfl i0 hi hz0 hz1 hz2 B v bs.length (Lib.byteCells bs) rfl hown s rfl hl hB1 ?_)
  intro v' w2 hown' hgrow
  have f2 : Fr v.ownBlock.toList w1 w2 := Fr.ofGrown hgrow
  have hb2 := (f2.block _ (Array.getElem?_eq_some_iff.1 hb).1 (by simpa using hv)).trans hb
  have d1 : w2.cell? ⟨b, 1, none⟩ = some v := at_cells hb2 1 rfl
  have dz : w2.frozen? ⟨b, 1, none⟩ = false := by simp [World.frozen?, hb2]
  obtain ⟨va, vc, rfl, _⟩ := own_slice hown'
  have HV5 : Hid (∀ k, v.ownBlock = some k → B ≤ k ∧ ∃ c z, w.heap[k]? = some (.cells c 5 z)) := hv5
  clear hv5 c1
  clear hm
  go_wp2
  go_ret2
  have hb3 : (w2.setCell ⟨b, 1, none⟩ (.slice va (bs.length + s.size) vc)).heap[b]? = some (.cells #[.pointer (some ⟨b, 0, none⟩), .slice va (bs.length + s.size) vc] 54 (0, 0)) := by simp [World.setCell, Array.getElem?_modify, hb2]
  have f3 : Fr [b] w2 (w2.setCell ⟨b, 1, none⟩ (.slice va (bs.length + s.size) vc)) := Fr.setCell (Fr.refl _ _) (.inl (by simp)) _
  have hne : (Value.slice va (bs.length + s.size) vc).ownBlock ≠ some b := own_ne hown' hb2 (by decide)
  have e1 : (bs ++ s.data.toList).length = bs.length + s.size := by rw [List.length_append, ← Lib.size_eq]
  refine ⟨rfl, .inr ⟨hBb, _, hb3, ?_, hne⟩, ?_, ?_⟩
  · have := own_fr hown' f3 (fun k hk hm => hne (by simp at hm; rw [← hm]; exact hk))
    have e2 : (Lib.byteCells (bs ++ s.data.toList)).length = bs.length + s.size := by simp [Lib.byteCells]
    rw [e2]
    simpa [Lib.byteCells, Lib.strCells] using this
  · have FF : Fr (b :: v.ownBlock.toList) w (w2.setCell ⟨b, 1, none⟩ (.slice va (bs.length + s.size) vc)) := ((f1.sub (fun k hk => .inl (by simp at hk; simp [hk]))).trans (f2.sub (fun k hk => .inl (List.mem_cons_of_mem _ hk)))).trans (f3.sub (fun k hk => .inl (by simp at hk; simp [hk])))
    refine FF.below (by omega) (fun k hk => ?_)
    rcases List.mem_cons.1 hk with rfl | hk
    · exact hBb
    · exact (HV5.out k (by simpa using hk)).1
  · intro k o ho h5 hkb
    have l1 := (Array.getElem?_eq_some_iff.1 ho).1
    have g1 := (f1.block k l1 (by simpa using hkb)).trans ho
    have g2 := (f2.block k (Array.getElem?_eq_some_iff.1 g1).1 (fun hm => by
      obtain ⟨_, c, z, hc⟩ := HV5.out k (by simpa using hm)
      rw [ho] at hc
      injection hc with hc
      exact h5 c z hc)).trans g1
    exact (f3.block k (Array.getElem?_eq_some_iff.1 g2).1 (by simpa using hkb)).trans g2
end Go.Proofs.YtdaealionicmjaaDoor
