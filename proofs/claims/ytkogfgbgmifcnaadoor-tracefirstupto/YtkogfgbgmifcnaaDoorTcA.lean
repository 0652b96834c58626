/-
  The operations' table: as it lies, as the program and the document look into it; condition: the table lies as the program lays it.
-/
import Derived.Test.YtkogfgbgmifcnaaDoorTcH
namespace Go.Proofs.YtkogfgbgmifcnaaDoor
open Go.RowKit Go.Shelf Go.Maps Go.ChangeShapes
set_option linter.unusedVariables false
set_option linter.unusedSimpArgs false
/-- A row: name, how many arguments, has K, has C, makes, may. -/
structure OR where
  nm : List UInt8
  ar : Int
  hk : Bool
  hc : Bool
  mkv : Bool
  myv : Bool
deriving DecidableEq
def rowsL : List OR := [
  ⟨[], 0, false, false, false, false⟩,
  ⟨[], 0, false, false, false, false⟩,
  ⟨[], 0, false, false, false, false⟩,
  ⟨[], 0, false, false, false, false⟩,
  ⟨[98, 105, 110], 2, true, false, true, true⟩,
  ⟨[117, 110], 1, true, false, true, true⟩,
  ⟨[101, 113], 2, false, false, true, false⟩,
  ⟨[110, 101], 2, false, false, true, false⟩,
  ⟨[103, 101, 116], 1, true, true, true, true⟩,
  ⟨[112, 117, 116], 2, true, true, false, true⟩,
  ⟨[101, 108, 101, 109], 2, false, false, true, true⟩,
  ⟨[115, 101, 116, 101, 108, 101, 109], 3, false, false, false, true⟩,
  ⟨[108, 101, 110], 1, false, false, true, true⟩,
  ⟨[110, 101, 119], 0, true, true, true, true⟩,
  ⟨[97, 114, 114], 1, false, false, true, true⟩,
  ⟨[105, 110], 0, false, false, true, false⟩,
  ⟨[111, 117, 116], 1, false, false, false, true⟩,
  ⟨[105, 109, 103], 1, false, false, true, true⟩,
  ⟨[], 0, false, false, false, false⟩,
  ⟨[114, 111, 111, 116], 0, false, false, true, false⟩,
  ⟨[115, 101, 116, 114, 111, 111, 116], 1, false, false, false, false⟩,
  ⟨[], 0, false, false, false, false⟩,
  ⟨[], 0, false, false, false, false⟩,
  ⟨[], 0, false, false, false, false⟩,
  ⟨[], 0, false, false, false, false⟩,
  ⟨[], 0, false, false, false, false⟩,
  ⟨[115, 116, 101, 112], 0, false, false, false, true⟩,
  ⟨[], 0, false, false, false, false⟩,
  ⟨[], 0, false, false, false, false⟩,
  ⟨[], 0, false, false, false, false⟩,
  ⟨[121, 101, 115], 1, false, false, false, true⟩,
  ⟨[110, 111], 1, false, false, false, true⟩,
  ⟨[105, 115], 2, false, false, false, true⟩,
  ⟨[100, 101, 112, 116, 104], 0, true, false, false, true⟩,
  ⟨[99, 104, 97, 114, 103, 101], 0, true, false, false, true⟩,
  ⟨[108, 97, 121], -1, true, false, true, false⟩]
def noRow : OR := ⟨[], -1, false, false, false, false⟩
/-- An operation's row. -/
def rowP (op : Int) : OR := if 0 ≤ op ∧ op < 36 then (match rowsL[op.toNat]? with | some r => if r.nm = [] then noRow else r | none => noRow) else noRow
def txt (s : List UInt8) : Value := .string ⟨s.toArray⟩
def OR.cl (r : OR) : List Value := [txt r.nm, .int .i64 r.ar, .bool r.mkv, .bool r.myv]
/-- The table lies in the first block. -/
structure Tab (w : World) : Prop where
  cell : ∀ n u, (rowsL.flatMap OR.cl)[n]? = some u → w.cell? ⟨0, n, none⟩ = some u
  len : 0 < w.heap.size
theorem Tab.fr {S : List Nat} {w w' : World} (h : Tab w) (f : Fr S w w') (hS : 0 ∉ S) : Tab w' :=
  ⟨fun n u hu => f.cell1 (h.cell n u hu) hS, Nat.lt_of_lt_of_le h.len f.size⟩
theorem Tab.fr0 {w w' : World} (h : Tab w) (f : Fr [] w w') : Tab w' := h.fr f (by simp)
theorem rows_at {i : Nat} (h : i < 36) : ∃ r, rowsL[i]? = some r := ⟨_, List.getElem?_eq_getElem (show i < rowsL.length from h)⟩
theorem Tab.row {w : World} (h : Tab w) {i : Nat} {r : OR} (hr : rowsL[i]? = some r) : w.rangeAt 0 (i * 4) r.cl := fun j u hu => by
  have hj : j < 4 := (List.getElem?_eq_some_iff.1 hu).1
  rw [h.cell _ _ ((flat_at (f := OR.cl) (m := 4) (fun x _ => rfl) hr j hj).trans hu)]
theorem rowP_at {op : Int} {i : Nat} {r : OR} (e : op = i) (h : i < 36) (hr : rowsL[i]? = some r) : rowP op = if r.nm = [] then noRow else r := by
  unfold rowP
  rw [if_pos (by omega), show op.toNat = i by omega, hr]
theorem rowP_out {op : Int} (h : ¬ (0 ≤ op ∧ op < 36)) : rowP op = noRow := by unfold rowP; rw [if_neg h]
theorem rowP_lit : rowP 4 = ⟨[98, 105, 110], 2, true, false, true, true⟩ ∧ rowP 5 = ⟨[117, 110], 1, true, false, true, true⟩ ∧ rowP 6 = ⟨[101, 113], 2, false, false, true, false⟩ ∧ rowP 7 = ⟨[110, 101], 2, false, false, true, false⟩ ∧ rowP 8 = ⟨[103, 101, 116], 1, true, true, true, true⟩ ∧ rowP 9 = ⟨[112, 117, 116], 2, true, true, false, true⟩ ∧ rowP 10 = ⟨[101, 108, 101, 109], 2, false, false, true, true⟩ ∧ rowP 11 = ⟨[115, 101, 116, 101, 108, 101, 109], 3, false, false, false, true⟩ ∧ rowP 12 = ⟨[108, 101, 110], 1, false, false, true, true⟩ ∧ rowP 13 = ⟨[110, 101, 119], 0, true, true, true, true⟩ ∧ rowP 14 = ⟨[97, 114, 114], 1, false, false, true, true⟩ ∧ rowP 15 = ⟨[105, 110], 0, false, false, true, false⟩ ∧ rowP 16 = ⟨[111, 117, 116], 1, false, false, false, true⟩ ∧ rowP 17 = ⟨[105, 109, 103], 1, false, false, true, true⟩ ∧ rowP 19 = ⟨[114, 111, 111, 116], 0, false, false, true, false⟩ ∧ rowP 20 = ⟨[115, 101, 116, 114, 111, 111, 116], 1, false, false, false, false⟩ ∧ rowP 26 = ⟨[115, 116, 101, 112], 0, false, false, false, true⟩ ∧ rowP 30 = ⟨[121, 101, 115], 1, false, false, false, true⟩ ∧ rowP 31 = ⟨[110, 111], 1, false, false, false, true⟩ ∧ rowP 32 = ⟨[105, 115], 2, false, false, false, true⟩ ∧ rowP 33 = ⟨[100, 101, 112, 116, 104], 0, true, false, false, true⟩ ∧ rowP 34 = ⟨[99, 104, 97, 114, 103, 101], 0, true, false, false, true⟩ ∧ rowP 35 = ⟨[108, 97, 121], -1, true, false, true, false⟩ := by decide
theorem rowP_none {op : Int} (h4 : op ≠ 4) (h5 : op ≠ 5) (h6 : op ≠ 6) (h7 : op ≠ 7) (h8 : op ≠ 8) (h9 : op ≠ 9) (h10 : op ≠ 10) (h11 : op ≠ 11) (h12 : op ≠ 12) (h13 : op ≠ 13) (h14 : op ≠ 14) (h15 : op ≠ 15) (h16 : op ≠ 16) (h17 : op ≠ 17) (h19 : op ≠ 19) (h20 : op ≠ 20) (h26 : op ≠ 26) (h30 : op ≠ 30) (h31 : op ≠ 31) (h32 : op ≠ 32) (h33 : op ≠ 33) (h34 : op ≠ 34) (h35 : op ≠ 35) : rowP op = noRow := by
  by_cases h : 0 ≤ op ∧ op < 36
  · obtain ⟨n, rfl⟩ := Int.eq_ofNat_of_zero_le h.1
    have hn : n < 36 := by omega
    have : ∀ n : Nat, n < 36 → n ∉ ([4, 5, 6, 7, 8, 9, 10, 11, 12, 13, 14, 15, 16, 17, 19, 20, 26, 30, 31, 32, 33, 34, 35] : List Nat) → rowP (n : Int) = noRow := by decide
    exact this n hn (by simp only [List.mem_cons, List.not_mem_nil, or_false, not_or]; omega)
  · exact rowP_out h
theorem info61 : (Tryd.prog.info? 61).map (·.size) = some 4 := by kernel_rfl
set_option maxRecDepth 100000 in
set_option maxHeartbeats 8000000 in
/-- Whether the table has an operation. -/
theorem known60 {w : World} (ht : Tab w) (op : Int) : Calls Tryd.prog 60 #[.int .i64 op] w fun e w' => e = .returned (.bool (!decide ((rowP op).nm = []))) ∧ Fr [] w w' := by
  by_cases h : 0 ≤ op ∧ op < 36
  · obtain ⟨n, rfl⟩ := Int.eq_ofNat_of_zero_le h.1
    have hn : n < 36 := by omega
    obtain ⟨r, hr⟩ := rows_at hn
    have h0 : w.cell? ⟨0, n * 4, none⟩ = some (txt r.nm) := ht.row hr 0 _ rfl
    have hp := rowP_at rfl hn hr
    unfold txt at h0
    go_enter Tryd.func60, Tryd.ntmps60
    go_wp2
    go_ret
    refine ⟨?_, Fr.refl _ _⟩
    rw [hp]
    by_cases h1 : r.nm = []
    · rw [if_pos h1, h1]; rfl
    · rw [if_neg h1]
      simp [List.isEmpty_iff, h1]
  · have hp := rowP_out h
    go_enter Tryd.func60, Tryd.ntmps60
    go_wp2
    all_goals
      go_ret
      exact ⟨by first | rfl | (rw [hp]; rfl), Fr.refl _ _⟩
def qName (s : List UInt8) : List UInt8 := if s = [] then [63] else s
theorem info_cl (r : OR) : (Tryd.prog.info? 61).map (·.size) = some r.cl.length := info61
theorem res31 : Tryd.f31.results = #[.cell 2 61] := by kernel_rfl
theorem results61 {fn : Func} {p : Tmp} (h : fn.results = #[.cell p 61]) {tmps : Array Value} {w : World} {g : Nat} {A : Array Value} (hA : A.size = 4) (hp : tmps.getD p undef = .pointer (some ⟨g, 0, none⟩)) (hg : w.heap[g]? = some (.cells A 61 (0, 0))) : (results fn tmps).run Tryd.prog w = .ok (.agg A) w :=
  results_cell_row h tmps w g 61 A (0, 0) _ hp hg Tryd.underlying61 rfl (by rw [hA]; exact info61)
set_option maxRecDepth 100000 in
set_option maxHeartbeats 8000000 in
theorem rowOf31 {w : World} (ht : Tab w) (op : Int) : Calls Tryd.prog 31 #[.int .i64 op] w fun e w' => e = .returned (.agg #[txt (qName (rowP op).nm), .int .i64 (rowP op).ar, .bool (rowP op).mkv, .bool (rowP op).myv]) ∧ Fr [] w w' := by
  have F0 : Fr [] w (w.alloc (.cells #[.string ⟨#[]⟩, .int .i64 0, .bool false, .bool false] 61)) := (Fr.refl _ _).alloc _
  have bA := heap_alloc_new w (.cells #[.string ⟨#[]⟩, .int .i64 0, .bool false, .bool false] 61)
  have ht1 := ht.fr0 F0
  have K := known60 ht1 op
  have HA : Hid ((w.alloc (.cells #[.string ⟨#[]⟩, .int .i64 0, .bool false, .bool false] 61)).heap[w.heap.size]? = some (.cells #[.string ⟨#[]⟩, .int .i64 0, .bool false, .bool false] 61 (0, 0)) ∧ Fr [] w (w.alloc (.cells #[.string ⟨#[]⟩, .int .i64 0, .bool false, .bool false] 61)) ∧ Tab (w.alloc (.cells #[.string ⟨#[]⟩, .int .i64 0, .bool false, .bool false] 61))) := ⟨bA, F0, ht1⟩
  have hin : (rowP op).nm ≠ [] → ∃ n : Nat, op = n ∧ rowsL[n]? = some (rowP op) := by
    intro h1
    by_cases h : 0 ≤ op ∧ op < 36
    · obtain ⟨n, rfl⟩ := Int.eq_ofNat_of_zero_le h.1
      obtain ⟨r, hr⟩ := rows_at (show n < 36 by omega)
      have hp := rowP_at rfl (show n < 36 by omega) hr
      by_cases h2 : r.nm = []
      · rw [if_pos h2] at hp; rw [hp] at h1; exact absurd rfl h1
      · rw [if_neg h2] at hp; exact ⟨n, rfl, by rw [hp, hr]⟩
    · rw [rowP_out h] at h1; exact absurd rfl h1
  have hno : (rowP op).nm = [] → rowP op = noRow := by
    intro h1
    by_cases h : 0 ≤ op ∧ op < 36
    · obtain ⟨n, rfl⟩ := Int.eq_ofNat_of_zero_le h.1
      obtain ⟨r, hr⟩ := rows_at (show n < 36 by omega)
      have hp := rowP_at rfl (show n < 36 by omega) hr
      by_cases h2 : r.nm = []
      · rw [if_pos h2] at hp; exact hp
      · rw [if_neg h2] at hp; rw [hp] at h1; exact absurd h1 h2
    · exact rowP_out h
  clear F0 bA ht1
  by_cases h1 : (rowP op).nm = []
  · rw [hno h1] at K ⊢
    clear hin hno h1
    have e1 : (!decide (noRow.nm = [])) = false := rfl
    rw [e1] at K
    clear e1
    go_enter Tryd.func31, Tryd.ntmps31
    go_upto_region 1 with fail
    generalize w.alloc (.cells #[.string ⟨#[]⟩, .int .i64 0, .bool false, .bool false] 61) = V at *
    go_wp2_with (first
      | (go_at_call 60; refine K.mono ?_; rintro e w2 ⟨rfl, f2⟩; have HA2 : Hid (w2.heap[w.heap.size]? = some (.cells #[.string ⟨#[]⟩, .int .i64 0, .bool false, .bool false] 61 (0, 0)) ∧ Fr [] w w2) := ⟨(f2.block _ (Array.getElem?_eq_some_iff.1 HA.out.1).1 (by simp)).trans HA.out.1, HA.out.2.1.trans f2⟩; clear f2 K)
      | refine wpList_store_row rfl 61 (.tmp 2) (.tmp 6) rfl w.heap.size #[.string ⟨#[63]⟩, .int .i64 (-1), .bool false, .bool false] rfl rfl 61 _ HA2.out.1 info61 rfl (by simp [Value.oneCell']) ?_)
    exact bodyPost_ret (results61 res31 rfl rfl (setRow_heap _ _ _ _ _ _ HA2.out.1)) rfl ⟨rfl, HA2.out.2.setRow (.inr (Nat.le_refl _)) _⟩
  · obtain ⟨n, rfl, hn⟩ := hin h1
    clear hin hno
    obtain ⟨r, hr⟩ : ∃ r, rowP (n : Int) = r := ⟨_, rfl⟩
    rw [hr] at K hn h1 ⊢
    have hn36 : (n : Int) < 36 := by have := (List.getElem?_eq_some_iff.1 hn).1; have h36 : rowsL.length = 36 := rfl; omega
    have e1 : (!decide (r.nm = [])) = true := by simp [h1]
    rw [e1] at K
    have HR : Hid (qName r.nm = r.nm) := if_neg h1
    have HN : Hid (rowsL[n]? = some r) := hn
    rw [HR.out]
    clear e1 hr h1 hn
    go_enter Tryd.func31, Tryd.ntmps31
    go_upto_region 1 with fail
    generalize w.alloc (.cells #[.string ⟨#[]⟩, .int .i64 0, .bool false, .bool false] 61) = V at *
    go_wp2_with (first
      | (go_at_call 60; refine K.mono ?_; rintro e w2 ⟨rfl, f2⟩; have HA2 : Hid (w2.heap[w.heap.size]? = some (.cells #[.string ⟨#[]⟩, .int .i64 0, .bool false, .bool false] 61 (0, 0)) ∧ Fr [] w w2 ∧ Tab w2) := ⟨(f2.block _ (Array.getElem?_eq_some_iff.1 HA.out.1).1 (by simp)).trans HA.out.1, HA.out.2.1.trans f2, HA.out.2.2.fr0 f2⟩; clear f2 K)
      | refine wpList_load_mid rfl 61 (.tmp 8) rfl 0 (n * 4) rfl r.cl _ (HA2.out.2.2.row HN.out) Tryd.underlying61 rfl (info_cl r) ?_
      | refine wpList_store_row rfl 61 (.tmp 2) (.tmp 9) rfl w.heap.size r.cl.toArray rfl rfl 61 _ HA2.out.1 info61 rfl (by simp [OR.cl, txt, Value.oneCell']) ?_)
    exact bodyPost_ret (results61 res31 rfl rfl (setRow_heap _ _ _ _ _ _ HA2.out.1)) rfl ⟨rfl, HA2.out.2.1.setRow (.inr (Nat.le_refl _)) _⟩
set_option maxRecDepth 100000 in
theorem makes12 {w : World} (ht : Tab w) (op : Int) : Calls Tryd.prog 12 #[.int .i64 op] w fun e w' => e = .returned (.bool (rowP op).mkv) ∧ Fr [] w w' := by
  have K := rowOf31 ht op
  obtain ⟨r, hr⟩ : ∃ r, rowP op = r := ⟨_, rfl⟩
  rw [hr] at K ⊢
  have hfd : ∀ w : World, (Instr.field 61 (.agg #[txt (qName r.nm), .int .i64 r.ar, .bool r.mkv, .bool r.myv]) 2).run Tryd.prog w = .ok (.bool r.mkv) w := fun _ => by kernel_rfl
  go_enter Tryd.func12, Tryd.ntmps12
  go_wp2_with (go_at_call 31; refine K.mono ?_; rintro e w2 ⟨rfl, f2⟩; have HF := hid f2; clear f2 K)
  go_ret
  exact ⟨rfl, HF.out⟩
set_option maxRecDepth 100000 in
theorem may14 {w : World} (ht : Tab w) (op : Int) : Calls Tryd.prog 14 #[.int .i64 op] w fun e w' => e = .returned (.bool (rowP op).myv) ∧ Fr [] w w' := by
  have K := rowOf31 ht op
  obtain ⟨r, hr⟩ : ∃ r, rowP op = r := ⟨_, rfl⟩
  rw [hr] at K ⊢
  have hfd : ∀ w : World, (Instr.field 61 (.agg #[txt (qName r.nm), .int .i64 r.ar, .bool r.mkv, .bool r.myv]) 3).run Tryd.prog w = .ok (.bool r.myv) w := fun _ => by kernel_rfl
  go_enter Tryd.func14, Tryd.ntmps14
  go_wp2_with (go_at_call 31; refine K.mono ?_; rintro e w2 ⟨rfl, f2⟩; have HF := hid f2; clear f2 K)
  go_ret
  exact ⟨rfl, HF.out⟩
set_option maxRecDepth 100000 in
theorem args16 {w : World} (ht : Tab w) (op : Int) : Calls Tryd.prog 16 #[.int .i64 op] w fun e w' => e = .returned (.int .i64 (rowP op).ar) ∧ Fr [] w w' := by
  have K := rowOf31 ht op
  obtain ⟨r, hr⟩ : ∃ r, rowP op = r := ⟨_, rfl⟩
  rw [hr] at K ⊢
  have hfd : ∀ w : World, (Instr.field 61 (.agg #[txt (qName r.nm), .int .i64 r.ar, .bool r.mkv, .bool r.myv]) 1).run Tryd.prog w = .ok (.int .i64 r.ar) w := fun _ => by kernel_rfl
  go_enter Tryd.func16, Tryd.ntmps16
  go_wp2_with (go_at_call 31; refine K.mono ?_; rintro e w2 ⟨rfl, f2⟩; have HF := hid f2; clear f2 K)
  go_ret
  exact ⟨rfl, HF.out⟩
theorem results_tmp6 {fn : Func} {t1 t2 t3 t4 t5 t6 : Tmp} (h : fn.results = #[.tmp t1, .tmp t2, .tmp t3, .tmp t4, .tmp t5, .tmp t6]) (tmps : Array Value) (P : Program) (w : World) :
    (results fn tmps).run P w = .ok (.tuple #[tmps.getD t1 undef, tmps.getD t2 undef, tmps.getD t3 undef, tmps.getD t4 undef, tmps.getD t5 undef, tmps.getD t6 undef]) w := by
  simp [results, h, Sem.run_bind, Result.andThen]
theorem res32 : Tryd.f32.results = #[.tmp 2, .tmp 3, .tmp 4, .tmp 5, .tmp 6, .tmp 7] := by kernel_rfl
def OR.tup (r : OR) : Value := .tuple #[txt r.nm, .int .i64 r.ar, .bool r.hk, .bool r.hc, .bool r.mkv, .bool r.myv]
set_option maxRecDepth 100000 in
set_option maxHeartbeats 8000000 in
theorem row32 (w : World) (op : Int) : Calls Tryd.prog 32 #[.int .i64 op] w fun e w' => e = .returned (rowP op).tup ∧ Fr [] w w' := by
  obtain ⟨r, hr⟩ : ∃ r, r = rowP op := ⟨_, rfl⟩
  rw [← hr]
  have HR : Hid (r = rowP op) := hr
  clear hr
  go_enter Tryd.func32, Tryd.ntmps32
  go_wp2
  all_goals
    refine bodyPost_ret (results_tmp6 res32 _ _ _) rfl ⟨?_, Fr.refl _ _⟩
    rw [HR.out]
    clear HR
    simp only [beq_iff_eq, beq_eq_false_iff_ne, ne_eq, Bool.not_eq_true] at *
    first
    | (have e : op = 4 := by omega
       rw [e]; rfl)
    | (have e : op = 5 := by omega
       rw [e]; rfl)
    | (have e : op = 6 := by omega
       rw [e]; rfl)
    | (have e : op = 7 := by omega
       rw [e]; rfl)
    | (have e : op = 8 := by omega
       rw [e]; rfl)
    | (have e : op = 9 := by omega
       rw [e]; rfl)
    | (have e : op = 10 := by omega
       rw [e]; rfl)
    | (have e : op = 11 := by omega
       rw [e]; rfl)
    | (have e : op = 12 := by omega
       rw [e]; rfl)
    | (have e : op = 13 := by omega
       rw [e]; rfl)
    | (have e : op = 14 := by omega
       rw [e]; rfl)
    | (have e : op = 15 := by omega
       rw [e]; rfl)
    | (have e : op = 16 := by omega
       rw [e]; rfl)
    | (have e : op = 17 := by omega
       rw [e]; rfl)
    | (have e : op = 19 := by omega
       rw [e]; rfl)
    | (have e : op = 20 := by omega
       rw [e]; rfl)
    | (have e : op = 26 := by omega
       rw [e]; rfl)
    | (have e : op = 30 := by omega
       rw [e]; rfl)
    | (have e : op = 31 := by omega
       rw [e]; rfl)
    | (have e : op = 32 := by omega
       rw [e]; rfl)
    | (have e : op = 33 := by omega
       rw [e]; rfl)
    | (have e : op = 34 := by omega
       rw [e]; rfl)
    | (have e : op = 35 := by omega
       rw [e]; rfl)
    | (rw [rowP_none (by omega) (by omega) (by omega) (by omega) (by omega) (by omega) (by omega) (by omega) (by omega) (by omega) (by omega) (by omega) (by omega) (by omega) (by omega) (by omega) (by omega) (by omega) (by omega) (by omega) (by omega) (by omega) (by omega)]; rfl)
set_option maxRecDepth 100000 in
theorem makes13 (w : World) (op : Int) : Calls Tryd.prog 13 #[.int .i64 op] w fun e w' => e = .returned (.bool (rowP op).mkv) ∧ Fr [] w w' := by
  have K := row32 w op
  obtain ⟨r, hr⟩ : ∃ r, rowP op = r := ⟨_, rfl⟩
  rw [hr] at K ⊢
  unfold OR.tup at K
  go_enter Tryd.func13, Tryd.ntmps13
  go_wp2_with (go_at_call 32; refine K.mono ?_; rintro e w2 ⟨rfl, f2⟩; have HF := hid f2; clear f2 K)
  go_ret
  exact ⟨rfl, HF.out⟩
set_option maxRecDepth 100000 in
theorem may15 (w : World) (op : Int) : Calls Tryd.prog 15 #[.int .i64 op] w fun e w' => e = .returned (.bool (rowP op).myv) ∧ Fr [] w w' := by
  have K := row32 w op
  obtain ⟨r, hr⟩ : ∃ r, rowP op = r := ⟨_, rfl⟩
  rw [hr] at K ⊢
  unfold OR.tup at K
  go_enter Tryd.func15, Tryd.ntmps15
  go_wp2_with (go_at_call 32; refine K.mono ?_; rintro e w2 ⟨rfl, f2⟩; have HF := hid f2; clear f2 K)
  go_ret
  exact ⟨rfl, HF.out⟩
set_option maxRecDepth 100000 in
theorem args17 (w : World) (op : Int) : Calls Tryd.prog 17 #[.int .i64 op] w fun e w' => e = .returned (.int .i64 (rowP op).ar) ∧ Fr [] w w' := by
  have K := row32 w op
  obtain ⟨r, hr⟩ : ∃ r, rowP op = r := ⟨_, rfl⟩
  rw [hr] at K ⊢
  unfold OR.tup at K
  go_enter Tryd.func17, Tryd.ntmps17
  go_wp2_with (go_at_call 32; refine K.mono ?_; rintro e w2 ⟨rfl, f2⟩; have HF := hid f2; clear f2 K)
  go_ret
  exact ⟨rfl, HF.out⟩
set_option maxRecDepth 100000 in
theorem name28 (w : World) (op : Int) : Calls Tryd.prog 28 #[.int .i64 op] w fun e w' => e = .returned (txt (rowP op).nm) ∧ Fr [] w w' := by
  have K := row32 w op
  obtain ⟨r, hr⟩ : ∃ r, rowP op = r := ⟨_, rfl⟩
  rw [hr] at K ⊢
  unfold OR.tup at K
  go_enter Tryd.func28, Tryd.ntmps28
  go_wp2_with (go_at_call 32; refine K.mono ?_; rintro e w2 ⟨rfl, f2⟩; have HF := hid f2; clear f2 K)
  go_ret
  exact ⟨rfl, HF.out⟩
end Go.Proofs.YtkogfgbgmifcnaaDoor
