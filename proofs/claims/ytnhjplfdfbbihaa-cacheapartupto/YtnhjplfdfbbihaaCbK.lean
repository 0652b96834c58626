/-
  The keys of what is held; condition: the cache lies as told.
-/
import Derived.Test.YtnhjplfdfbbihaaCbJ
import Derived.Great.BuildSlice
namespace Go.Proofs.Ytnhjplfdfbbihaa
open Go.RowKit Go.Shelf Go.Maps Go.ChangeShapes
set_option linter.unusedVariables false
set_option linter.unusedSimpArgs false
def flatKy (L : List Ky) : List Value := L.flatMap (fun k => (kc k).toList)
theorem kcl_len (k : Ky) : (kc k).toList.length = 10 := by simp [kc_size]
theorem flatKy_len (L : List Ky) : (flatKy L).length = L.length * 10 := flat_len (fun x _ => kcl_len x)
theorem kcl_one (k : Ky) : ∀ u ∈ (kc k).toList, u.oneCell' = true := by
  intro u hu
  obtain ⟨a, b, c, d, e, f, g, h, i, j⟩ := k
  simp only [kc, kl0, List.map_cons, List.map_nil, List.mem_cons, List.not_mem_nil, or_false] at hu
  rcases hu with rfl | rfl | rfl | rfl | rfl | rfl | rfl | rfl | rfl | rfl <;> rfl
theorem cu49 : Try.prog.underlying 49 = some (.slice 29) := by kernel_rfl
theorem ci49 : (Try.prog.info? 29).map (fun i => (i.zero, i.size, i.bytes)) = some (some (.agg (kc k00)), 10, 80) := by kernel_rfl
theorem info83s : (Try.prog.info? 83).map (·.size) = some 11 := by kernel_rfl
theorem mcp_size (x : Mb) : (mcp x).toArray.size = 11 := by simp [mcp_len]
theorem key_mid {w : World} {b : Nat} {y : Mb} {z : Nat × Nat} (h : w.heap[b]? = some (.cells (mcp y).toArray 83 z)) : w.rangeAt b 1 (kc y.2).toList := fun j v hv => by
  rw [Nat.add_comm]
  refine at_cells h (j + 1) ?_
  rw [key_cells]
  simpa using hv
/-- A slice of one element that has cells of its own. -/
theorem run_slice1 (w : World) (t e : TypeId) (m y : Nat) (A : Array Value) (z : Value) (hu : Try.prog.underlying t = some (.slice e)) (hi : (Try.prog.info? e).map (fun i => (i.zero, i.size, i.bytes)) = some (some z, m, y)) (hm : 0 < m) (hs : m ≤ 1000) (hA : A.size = m) :
    (Instr.buildSlice t 1 #[(0, .agg A)]).run Try.prog w = .ok (.slice (some ⟨w.heap.size, 0, none⟩) 1 1) (w.alloc (.cells A e)) := by
  obtain ⟨i, h1, h2, h3, h4⟩ := info_parts hi
  subst h3
  refine run_buildSlice w t e 1 _ A i z hu h1 h2 (by omega) (by omega) ?_
  have h := Great.fill_whole (s := i.size) hm [.agg A] ((Array.range (1 * i.size)).map (z.cells[· % z.cells.size]!)) (by simp [Value.cells, hA]) (by simp)
  simp [Value.cells] at h
  simpa [Value.cells] using h
theorem wpList_slice1 {ops : Array Oper} {rest : List Oper} {o : Oper} {a : Act} {w : World} {Q : Exit → Act → World → Prop} (hg : o.guard = none) (t e : TypeId) (m y : Nat) (x : Operand) (A : Array Value) (z : Value) (ho : o.op = .buildSlice t 1 #[(0, x)]) (hx : a.eval x = .agg A)
    (hu : Try.prog.underlying t = some (.slice e)) (hi : (Try.prog.info? e).map (fun i => (i.zero, i.size, i.bytes)) = some (some z, m, y)) (hm : 0 < m) (hs : m ≤ 1000) (hA : A.size = m)
    (h : wpList Try.prog ops Q rest (a.put o.dst (.slice (some ⟨w.heap.size, 0, none⟩) 1 1)) (w.alloc (.cells A e))) : wpList Try.prog ops Q (o :: rest) a w := by
  refine wpList_plain hg fun K hK => ?_
  unfold Oper.wp execOp
  have e1 : (#[(0, x)].map fun (i, x) => (i, a.eval x)) = #[(0, .agg A)] := by simp [hx]
  simp only [ho, e1, Sem.run_bind, run_slice1 w t e m y A z hu hi hm hs hA, Result.andThen_ok]
  exact hK _ _ h
set_option maxRecDepth 100000 in
set_option maxHeartbeats 4000000 in
theorem keys_any {w : World} {B c n : Nat} {rs : List Rt} {S : Bk} (h : CA w B c n rs S) (ho : Ok S n) :
    Calls Try.prog 13 #[.pointer (some ⟨c, 0, none⟩)] w fun e w' => ∃ kv, e = .returned kv ∧ w'.ownsRow w.heap.size 29 10 kv rs.length (flatKy (rs.map (fun r => r.2.k))) ∧ Fr [] w w' := by
  obtain ⟨pa, pcap, hb, ov, fb, lb, hp⟩ := h.ex
  have k3 : w.cell? ⟨c, 3, none⟩ = some ov := at_cells hp.blk 3 rfl
  have hl := rs_len h.abs ho
  have hord := hp.ord
  rw [List.length_map] at hord
  obtain ⟨i29, a1, a2, a3, a4⟩ := info_parts ci49
  have HI : Hid (Try.prog.info? 29 = some i29 ∧ i29.zero = some (.agg (kc k00)) ∧ i29.size = 10 ∧ i29.bytes = 80) := ⟨a1, a2, a3, a4⟩
  obtain ⟨oa, oc, rfl, hnil⟩ := own_slice hord
  have HO : Hid (w.ownsRow B 83 11 (.slice oa rs.length oc) rs.length (flatM (rs.map mb))) := hord
  have HL : Hid (rs.length ≤ 1000) := hl
  have H0 : Hid (w.ownsRow w.heap.size 29 10 (.slice none 0 0) 0 []) := World.ownsRow_nil _ _ _ _
  have F0 : Hid (Fr [] w w) := Fr.refl _ _
  clear hp h a1 a2 a3 a4 hnil hord hl
  go_enter Try.func13, Try.ntmps13
  go_wp2
  go_loopw [3, 13] (fun kv i wr => ∃ p : Nat, p ≤ rs.length ∧ i = .int .i64 p ∧ Hid (Fr [] w wr ∧ wr.ownsRow w.heap.size 29 10 kv p (flatKy ((rs.take p).map (fun r => r.2.k))))) (fun _ i _ => rs.length - (intOf i).toNat)
  case atStart => exact ⟨0, Nat.zero_le _, rfl, F0.out, H0.out⟩
  case round =>
    obtain ⟨p, hp, rfl, F⟩ := hrel
    obtain ⟨ka, kcap, rfl, _⟩ := own_slice F.out.2
    by_cases hlt : p < rs.length
    · have hltI : (p : Int) < rs.length := by omega
      obtain ⟨x, hx⟩ : ∃ x, rs[p]? = some x := ⟨_, List.getElem?_eq_getElem hlt⟩
      have hmx : (rs.map mb)[p]? = some (mb x) := by rw [List.getElem?_map, hx]; rfl
      obtain ⟨g, rfl⟩ : ∃ g, oa = some ⟨g, 0, none⟩ := by
        obtain ⟨g, c', e1, _⟩ := own_cells HO.out (j := p * 11) (List.getElem?_eq_getElem (by rw [flatM_len, List.length_map]; omega))
        cases e1; exact ⟨g, rfl⟩
      have hO2 : w.ownsRow B 83 11 (.slice (some ⟨g, 0, none⟩) (rs.map mb).length oc) (rs.map mb).length (flatM (rs.map mb)) := by rw [List.length_map]; exact HO.out
      have R1 : Hid (wr.rangeAt g (p * 11) (mcp (mb x))) := rowM_at (own_fr hO2 F.out.1 (by simp)) hmx
      have bA := heap_alloc_new wr (.cells #[.int .i64 0, .int .i64 0, .int .i64 0, .int .i64 0, .int .i64 0, .int .i64 0, .int .i64 0, .int .i64 0, .int .i64 0, .int .i64 0, .int .i64 0] 83)
      have hS : Hid (Fr [] wr ((wr.alloc (.cells #[.int .i64 0, .int .i64 0, .int .i64 0, .int .i64 0, .int .i64 0, .int .i64 0, .int .i64 0, .int .i64 0, .int .i64 0, .int .i64 0, .int .i64 0] 83)).setRow wr.heap.size (mcp (mb x)).toArray)) := ((Fr.refl _ _).alloc _).setRow (.inr (Nat.le_refl _)) _
      have bB := setRow_heap (wr.alloc (.cells #[.int .i64 0, .int .i64 0, .int .i64 0, .int .i64 0, .int .i64 0, .int .i64 0, .int .i64 0, .int .i64 0, .int .i64 0, .int .i64 0, .int .i64 0] 83)) wr.heap.size _ (mcp (mb x)).toArray _ _ bA
      have HA : Hid ((wr.alloc (.cells #[.int .i64 0, .int .i64 0, .int .i64 0, .int .i64 0, .int .i64 0, .int .i64 0, .int .i64 0, .int .i64 0, .int .i64 0, .int .i64 0, .int .i64 0] 83)).heap[wr.heap.size]? = some (.cells #[.int .i64 0, .int .i64 0, .int .i64 0, .int .i64 0, .int .i64 0, .int .i64 0, .int .i64 0, .int .i64 0, .int .i64 0, .int .i64 0, .int .i64 0] 83 (0, 0))) := bA
      have RB : Hid (((wr.alloc (.cells #[.int .i64 0, .int .i64 0, .int .i64 0, .int .i64 0, .int .i64 0, .int .i64 0, .int .i64 0, .int .i64 0, .int .i64 0, .int .i64 0, .int .i64 0] 83)).setRow wr.heap.size (mcp (mb x)).toArray).rangeAt wr.heap.size 1 (kc (mb x).2).toList) := key_mid bB
      have HX : Hid (rs[p]? = some x) := hx
      have HZ : Hid (w.heap.size ≤ wr.heap.size) := F.out.1.size
      clear bA bB hO2 hmx hx HO
      go_upto_region 7 with (first
        | refine wpList_ld83 rfl (.tmp 15) rfl g (p * 11) rfl (mb x) R1.out ?_
        | refine wpList_store_row rfl 83 (.tmp 5) (.tmp 16) rfl wr.heap.size (mcp (mb x)).toArray rfl rfl 83 _ HA.out (by rw [info83, mcp_size]) (by rw [mcp_size]; rfl) (mcp_all _) ?_)
      generalize hW1 : (wr.alloc (.cells #[.int .i64 0, .int .i64 0, .int .i64 0, .int .i64 0, .int .i64 0, .int .i64 0, .int .i64 0, .int .i64 0, .int .i64 0, .int .i64 0, .int .i64 0] 83)).setRow wr.heap.size (mcp (mb x)).toArray = W1 at *
      have F1 : Fr [] w W1 := F.out.1.trans hS.out
      have HO1 : Hid ((W1.alloc (.cells (kc (mb x).2) 29)).ownsRow w.heap.size 29 10 (.slice ka p kcap) p (flatKy ((rs.take p).map (fun r => r.2.k)))) := own_fr (own_fr F.out.2 hS.out (by simp)) ((Fr.refl [] _).alloc _) (by simp)
      have HR1 : Hid (∀ (j : Nat) u, (kc (mb x).2).toList[j]? = some u → (W1.alloc (.cells (kc (mb x).2) 29)).cell? ((⟨W1.heap.size, 0, none⟩ : Addr).add j) = some u) := fun j u hu => by have := range_block (heap_alloc_new W1 (.cells (kc (mb x).2) 29)) j u hu; rw [Addr.add_mid]; exact this
      have HZ1 : Hid (w.heap.size ≤ (W1.alloc (.cells (kc (mb x).2) 29)).heap.size) := ((Fr.refl [] W1).alloc _ |> F1.trans).size
      have HF1 : Hid (Fr [] w (W1.alloc (.cells (kc (mb x).2) 29))) := F1.trans ((Fr.refl _ _).alloc _)
      have HBD : Hid (p + 1 ≤ maxLen ∧ (p + 1) * 80 ≤ 140737488355328) := by
        have := HL.out
        refine ⟨?_, ?_⟩
        · simp only [maxLen]; omega
        · omega
      clear hW1 F1 hS HA
      go_upto_region 8 with (first
        | refine wpList_ld29 rfl (.tmp 18) rfl wr.heap.size 1 rfl (mb x).2 RB.out ?_
        | refine wpList_slice1 rfl 49 29 10 80 (.tmp 19) (kc (mb x).2) _ rfl rfl cu49 ci49 (by decide) (by decide) (kc_size _) ?_
        | (refine wpList_append_fp _ rfl (.tmp 17) (.tmp 20) 49 rfl w.heap.size 29 i29 (.agg (kc k00)) 10 80 cu49 HI.out.1 HI.out.2.1 HI.out.2.2.1 HI.out.2.2.2 rfl (by decide) (.slice ka p kcap) p (flatKy ((rs.take p).map (fun r => r.2.k))) rfl HO1.out ⟨W1.heap.size, 0, none⟩ 1 1 (kc (mb x).2).toList rfl (by rw [kcl_len]) HR1.out (kcl_one _) HBD.out.1 HBD.out.2 HZ1.out ?_; intro v5 w5 o5 g5 l5))
      have HN : Hid (Fr [] w w5 ∧ w5.ownsRow w.heap.size 29 10 v5 (p + 1) (flatKy ((rs.take (p + 1)).map (fun r => r.2.k)))) := by
        refine ⟨HF1.out.grown g5 (fun k e => .inr (HO1.out.lt k e).1), ?_⟩
        rw [List.take_add_one, HX.out]
        simp only [Option.toList_some, List.map_append, List.map_cons, List.map_nil]
        unfold flatKy at o5 ⊢
        rw [List.flatMap_append]
        simpa [mb] using o5
      clear o5 g5 l5 HF1 HZ1 HR1 HO1 RB R1 HBD
      have hp1 : (p : Int) + 1 ≤ 1000 := by have := HL.out; omega
      go_wp2
      go_roundw
      case rel => exact ⟨p + 1, hlt, by go_num, HN⟩
      case measure => simp [intOf]; omega
    · obtain rfl : p = rs.length := by omega
      have HE : Hid (Fr [] w wr ∧ wr.ownsRow w.heap.size 29 10 (.slice ka rs.length kcap) rs.length (flatKy (rs.map (fun r => r.2.k)))) := by
        have := F.out
        rw [List.take_length] at this
        exact this
      clear F
      go_wp2
      go_ret
      exact ⟨_, rfl, HE.out.2, HE.out.1⟩
end Go.Proofs.Ytnhjplfdfbbihaa
