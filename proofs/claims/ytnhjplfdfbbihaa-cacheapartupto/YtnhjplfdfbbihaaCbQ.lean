/-
  The chapter's example; condition: none.
-/
import Derived.Test.YtnhjplfdfbbihaaCbP
namespace Go.Proofs.Ytnhjplfdfbbihaa
open Go.RowKit Go.Shelf Go.Maps Go.ChangeShapes
set_option linter.unusedVariables false
set_option linter.unusedSimpArgs false
def ofT (n : Int) : Tr := { tr0 with k := (n, 0, 0, 0, 0, 0, 0, 0, 0, 0) }
theorem ofT_ok (n : Int) (w : World) (B : Nat) : TrOk w B (ofT n) := ⟨SL.nil _ _ _ _ rfl, SL.nil _ _ _ _ rfl, by simp [tr0, ofT], SL.nil _ _ _ _ rfl, by simp [tr0, ofT], SL.nil _ _ _ _ rfl, by simp [tr0, ofT], SL.nil _ _ _ _ rfl⟩
theorem ofT_at {n : Int} (h : W64 n) : ATOk (ofT n).abs := by
  refine ⟨?_, by simp [ofT, tr0, Tr.abs], by simp [ofT, tr0, Tr.abs], by simp [ofT, tr0, Tr.abs], by simp [ofT, tr0, Tr.abs]⟩
  intro x hx
  simp only [ofT, Tr.abs, kl0, List.mem_cons, List.not_mem_nil, or_false] at hx
  rcases hx with rfl | hx
  · exact h
  · have : x = 0 := by rcases hx with h | h | h | h | h | h | h | h | h <;> exact h
    rw [this]; exact w0
theorem res21 : Try.f21.results = #[.cell 2 35] := by kernel_rfl
set_option maxRecDepth 100000 in
theorem of_any (n : Int) (w : World) : Calls Try.prog 21 #[.int .i64 n] w fun e w' => e = .returned (.agg (ofT n).arr) ∧ Fr [] w w' := by
  have bA := heap_alloc_new w (.cells (ofT 0).arr 35)
  have HA : Hid ((w.alloc (.cells #[.int .i64 0, .int .i64 0, .int .i64 0, .int .i64 0, .int .i64 0, .int .i64 0, .int .i64 0, .int .i64 0, .int .i64 0, .int .i64 0, .int .i64 0, .int .i64 0, .slice none 0 0, .slice none 0 0, .slice none 0 0, .slice none 0 0, .slice none 0 0] 35)).heap[w.heap.size]? = some (.cells #[.int .i64 0, .int .i64 0, .int .i64 0, .int .i64 0, .int .i64 0, .int .i64 0, .int .i64 0, .int .i64 0, .int .i64 0, .int .i64 0, .int .i64 0, .int .i64 0, .slice none 0 0, .slice none 0 0, .slice none 0 0, .slice none 0 0, .slice none 0 0] 35 (0, 0))) := bA
  have hF : Hid (Fr [] w ((w.alloc (.cells #[.int .i64 0, .int .i64 0, .int .i64 0, .int .i64 0, .int .i64 0, .int .i64 0, .int .i64 0, .int .i64 0, .int .i64 0, .int .i64 0, .int .i64 0, .int .i64 0, .slice none 0 0, .slice none 0 0, .slice none 0 0, .slice none 0 0, .slice none 0 0] 35)).setRow w.heap.size (ofT n).arr)) := ((Fr.refl _ _).alloc _).setRow (.inr (Nat.le_refl _)) _
  have bB := setRow_heap (w.alloc (.cells #[.int .i64 0, .int .i64 0, .int .i64 0, .int .i64 0, .int .i64 0, .int .i64 0, .int .i64 0, .int .i64 0, .int .i64 0, .int .i64 0, .int .i64 0, .int .i64 0, .slice none 0 0, .slice none 0 0, .slice none 0 0, .slice none 0 0, .slice none 0 0] 35)) w.heap.size _ (ofT n).arr _ _ bA
  have HB : Hid (((w.alloc (.cells #[.int .i64 0, .int .i64 0, .int .i64 0, .int .i64 0, .int .i64 0, .int .i64 0, .int .i64 0, .int .i64 0, .int .i64 0, .int .i64 0, .int .i64 0, .int .i64 0, .slice none 0 0, .slice none 0 0, .slice none 0 0, .slice none 0 0, .slice none 0 0] 35)).setRow w.heap.size (ofT n).arr).heap[w.heap.size]? = some (.cells (ofT n).arr 35 (0, 0))) := bB
  clear bA bB
  go_enter Try.func21, Try.ntmps21
  go_wp2_with (refine wpList_store_row rfl 35 (.tmp 2) (.tmp 5) rfl w.heap.size (ofT n).arr rfl rfl 35 _ HA.out (by rw [(ofT n).arr_size]; exact info35) (by rw [(ofT n).arr_size]; rfl) (ofT n).arr_one ?_)
  refine bodyPost_ret (results35 res21 (ofT n).arr_size rfl HB.out) rfl ⟨rfl, hF.out⟩
/-- A cache that is the call's own, from B on. -/
structure AwS (w0 : World) (B c : Nat) (w : World) (n : Nat) (S : Bk) : Prop where
  ca : ∃ rs, CA w B c n rs S
  ok : Ok S n
  pw : ∀ x ∈ S.pk, W64 x
  fr : Fr [] w0 w
  lo : w0.heap.size ≤ B
  hi : B ≤ w.heap.size
theorem put_pk (S : Bk) (t : AT) : ∀ x ∈ (putB S t).pk, x ∈ S.pk := by
  intro x hx
  unfold putB at hx
  split at hx
  · exact hx
  · have := room_pk _ x hx
    rwa [drop_pk] at this
theorem AwS.fr0 {w0 w w' : World} {B c n : Nat} {S : Bk} (h : AwS w0 B c w n S) (f : Fr [] w w') : AwS w0 B c w' n S :=
  ⟨by obtain ⟨rs, h1⟩ := h.ca; exact ⟨rs, h1.fr0 f⟩, h.ok, h.pw, h.fr.trans f, h.lo, Nat.le_trans h.hi f.size⟩
theorem AwS.put {w0 w : World} {B c n : Nat} {S : Bk} (h : AwS w0 B c w n S) (hn : n ≤ 100000000000000) {t : Tr} (ht : TrOk w B t) (hat : ATOk t.abs) :
    Calls Try.prog 14 #[.pointer (some ⟨c, 0, none⟩), .agg t.arr] w fun e w' => e = .returned (.int .i64 (putR S)) ∧ AwS w0 B c w' (n + 1) (putB S t.abs) ∧ Gm B pP true w w' := by
  obtain ⟨rs, hc⟩ := h.ca
  refine (put_any hc h.ok hn h.hi h.pw ht hat).mono ?_
  rintro e w' ⟨h1, h2, h3⟩
  exact ⟨h1, ⟨h2, h.ok.put hat, fun x hx => h.pw x (put_pk S _ x hx), h.fr.overM h3 h.lo, h.lo, Nat.le_trans h.hi h3.size⟩, h3⟩
theorem AwS.most {w0 w : World} {B c n : Nat} {S : Bk} (h : AwS w0 B c w n S) : Calls Try.prog 12 #[.pointer (some ⟨c, 0, none⟩)] w fun e w' => e = .returned (.int .i64 S.top) ∧ Fr [] w w' := by
  obtain ⟨rs, hc⟩ := h.ca
  exact most_any hc
theorem AwS.keys {w0 w : World} {B c n : Nat} {S : Bk} (h : AwS w0 B c w n S) : Calls Try.prog 13 #[.pointer (some ⟨c, 0, none⟩)] w fun e w' => ∃ a cap, e = .returned (.slice a S.rows.length cap) ∧ w'.ownsRow w.heap.size 29 10 (.slice a S.rows.length cap) S.rows.length (flatKy (S.rows.map (fun r => r.2.k))) ∧ Fr [] w w' := by
  obtain ⟨rs, hc⟩ := h.ca
  refine (keys_any hc h.ok).mono ?_
  rintro e w' ⟨kv, rfl, h1, h2⟩
  have e1 := rs_len2 hc.abs
  have e2 : rs.map (fun r => r.2.k) = S.rows.map (fun r => r.2.k) := by rw [← hc.abs, List.map_map]; rfl
  rw [e1, e2] at h1
  obtain ⟨a, cap, rfl, _⟩ := own_slice h1
  exact ⟨a, cap, rfl, h1, h2⟩
theorem AwS.get {w0 w : World} {B c n : Nat} {S : Bk} (h : AwS w0 B c w n S) {k : Ky} (hk : kw k) :
    Calls Try.prog 15 #[.pointer (some ⟨c, 0, none⟩), .agg (kc k)] w fun e w' => ∃ t' : Tr, e = .returned (.tuple #[.agg t'.arr, .int .i64 (((getB S k).map (·.1)).getD 0), .bool (getB S k).isSome]) ∧ t'.abs = ((getB S k).map (·.2)).getD tr0.abs ∧ TrOk w' B t' ∧ Fr [] w w' := by
  obtain ⟨rs, hc⟩ := h.ca
  exact get_any hc h.hi hk
theorem AwS.new {w : World} {pa : Option Addr} {pcap : Nat} {pk : List Int} (t : Int) (hs : SL w w.heap.size 3 pa pk.length pcap 1 8 (pk.map (Value.int .i64))) (hw : ∀ x ∈ pk, W64 x) :
    Calls Try.prog 9 #[.int .i64 t, .slice pa pk.length pcap] w fun e w' => ∃ c, e = .returned (.pointer (some ⟨c, 0, none⟩)) ∧ AwS w w.heap.size c w' 0 ⟨limP t, pk, [], [], 0, 0⟩ := by
  refine (new_any (m := 0) t hs).mono ?_
  rintro e w' ⟨c, rfl, h1, h2⟩
  exact ⟨c, rfl, ⟨_, h1⟩, Ok.new _ (limP_le t) _, hw, h2, Nat.le_refl _, h2.size⟩
end Go.Proofs.Ytnhjplfdfbbihaa
