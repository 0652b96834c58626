/-
  Texts of the proof, in their order: IsoV, IsoW; conditions: as each says.
-/
import Derived.Lib.BufStepsIn
import Derived.Lib.FrozenHead2
import Derived.Test.YtefkcmeeagflmaaDoorMgFNPA
namespace Go.Proofs.YtefkcmeeagflmaaDoor
open Go.RowKit Go.Shelf Go.Lib

/-- A digit's text. -/
def dig (n : Nat) : ByteArray := ⟨#[UInt8.ofNat (48 + n)]⟩

set_option maxRecDepth 100000 in
set_option maxHeartbeats 1000000 in
theorem small_dig (W : World) (n : Nat) (hn : n < 10) :
    Calls Tryd.prog 62 #[.int .i64 n] W fun e W' => e = .returned (.string (dig n)) ∧ W' = W := by
  obtain rfl | rfl | rfl | rfl | rfl | rfl | rfl | rfl | rfl | rfl : n = 0 ∨ n = 1 ∨ n = 2 ∨ n = 3 ∨ n = 4 ∨ n = 5 ∨ n = 6 ∨ n = 7 ∨ n = 8 ∨ n = 9 := by omega
  all_goals
    clear hn
    go_enter Tryd.func62, Tryd.ntmps62
    go_wp2
    go_ret
    exact ⟨rfl, rfl⟩

set_option maxRecDepth 100000 in
set_option maxHeartbeats 1000000 in
theorem format_dig (W : World) (n : Nat) (hn : n < 10) :
    Calls Tryd.prog 59 #[.int .i64 n, .int .i64 10] W fun e W' => e = .returned (.string (dig n)) ∧ W' = W := by
  have h1 : (0 : Int) ≤ (n : Int) := by omega
  have h2 : (n : Int) < 100 := by omega
  go_enter Tryd.func59, Tryd.ntmps59
  go_wp2_with fail
  refine (small_dig _ n hn).mono ?_
  rintro e w1 ⟨rfl, rfl⟩
  go_wp2
  go_ret
  exact ⟨rfl, rfl⟩

theorem format2_dig (W : World) (n : Nat) (hn : n < 10) :
    Calls Tryd.prog 51 #[.int .i64 n, .int .i64 10] W fun e W' => e = .returned (.string (dig n)) ∧ W' = W := by
  go_enter Tryd.func51, Tryd.ntmps51
  go_wp2_with fail
  refine (format_dig _ n hn).mono ?_
  rintro e w1 ⟨rfl, rfl⟩
  go_wp2
  go_ret
  exact ⟨rfl, rfl⟩

theorem itoa_dig (W : World) (n : Nat) (hn : n < 10) :
    Calls Tryd.prog 61 #[.int .i64 n] W fun e W' => e = .returned (.string (dig n)) ∧ W' = W := by
  go_enter Tryd.func61, Tryd.ntmps61
  go_wp2_with fail
  refine (format_dig _ n hn).mono ?_
  rintro e w1 ⟨rfl, rfl⟩
  go_wp2
  go_ret
  exact ⟨rfl, rfl⟩

theorem itoa2_dig (W : World) (n : Nat) (hn : n < 10) :
    Calls Tryd.prog 55 #[.int .i64 n] W fun e W' => e = .returned (.string (dig n)) ∧ W' = W := by
  go_enter Tryd.func55, Tryd.ntmps55
  go_wp2_with fail
  refine (itoa_dig _ n hn).mono ?_
  rintro e w1 ⟨rfl, rfl⟩
  go_wp2
  go_ret
  exact ⟨rfl, rfl⟩

/-- A value's own text, where its number is told. -/
def plainT (p : Int × Int) : Option ByteArray := if p.1 = 0 then none else if p = (1, 0) then some ⟨#[110, 117, 108, 108]⟩ else some ⟨#[63]⟩

set_option maxRecDepth 100000 in
set_option maxHeartbeats 1000000 in
theorem plain_num (W : World) (n : Nat) (hn : n < 10) :
    Calls Tryd.prog 32 #[.agg #[.int .i64 0, .int .i64 n]] W fun e W' => e = .returned (.string (dig n)) ∧ Fr [] W W' := by
  go_enter Tryd.func32, Tryd.ntmps32
  go_wp2_with fail
  have f0 : Fr [] W (W.alloc (.cells #[.int .i64 0, .int .i64 (n : Int)] 45)) := (Fr.refl _ _).alloc _
  refine (format2_dig _ n hn).mono ?_
  rintro e w1 ⟨rfl, rfl⟩
  go_wp2
  go_ret
  exact ⟨rfl, f0⟩

set_option maxRecDepth 100000 in
set_option maxHeartbeats 1000000 in
theorem plain_other (W : World) (p : Int × Int) (s : ByteArray) (h : plainT p = some s) :
    Calls Tryd.prog 32 #[.agg #[.int .i64 p.1, .int .i64 p.2]] W fun e W' => e = .returned (.string s) ∧ Fr [] W W' := by
  obtain ⟨k, n⟩ := p
  unfold plainT at h
  have f0 : Fr [] W (W.alloc (.cells #[.int .i64 k, .int .i64 n] 45)) := (Fr.refl _ _).alloc _
  by_cases h0 : k = 0
  · simp [h0] at h
  · have h0' : (k == 0) = false := by simpa using h0
    by_cases h1 : (k, n) = (1, 0)
    · rw [if_neg h0, if_pos h1] at h
      injection h with h
      subst h
      injection h1 with h1 h2
      subst h1 h2
      go_enter Tryd.func32, Tryd.ntmps32
      go_wp2
      go_ret
      exact ⟨rfl, f0⟩
    · rw [if_neg h0, if_neg h1] at h
      injection h with h
      subst h
      go_enter Tryd.func32, Tryd.ntmps32
      by_cases hk : k = 1
      · subst hk
        have hn : ¬ n = 0 := fun e => h1 (by rw [e])
        have hn' : (n == 0) = false := by simpa using hn
        go_wp2
        go_ret
        exact ⟨rfl, f0⟩
      · have hk' : (k == 1) = false := by simpa using hk
        go_wp2
        go_ret
        exact ⟨rfl, f0⟩

theorem under78 : Tryd.prog.underlying 78 = some (.slice 5) := by kernel_rfl
theorem info5 : (Tryd.prog.info? 5).map (fun i => (i.zero, i.size, i.bytes)) = some (some (.int .u8 0), 1, 1) := by kernel_rfl

theorem under9 : Tryd.prog.underlying 9 = some .string := by kernel_rfl

theorem ownF_slice {w : World} {B n : Nat} {e : TypeId} {size : Nat} {v : Value} {xs : List Value} (h : w.ownsRowF B e size v n xs) : ∃ a c, v = .slice a n c := by
  rcases h.2 with ⟨e, h⟩ | ⟨g, cap, cur, fz, e, _⟩
  · exact ⟨none, 0, by rw [e, h]⟩
  · exact ⟨_, _, e⟩

set_option maxRecDepth 100000 in
set_option maxHeartbeats 1000000 in
theorem appendUint_dig (W : World) (B : Nat) (hB : B ≤ W.heap.size) (sv : Value) (m : Nat) (t : List Value) (ho : W.ownsRowF B 5 1 sv m t) (ht : m ≤ 1000000000000) (n : Nat) (hn : n < 10) :
    Calls Tryd.prog 60 #[sv, .int .u64 n, .int .i64 10] W fun e W' => ∃ sv', e = .returned sv' ∧ W'.ownsRowF B 5 1 sv' (m + 1) (t ++ strCells (dig n)) ∧ Fr sv.ownBlock.toList W W' := by
  have h2 : (n : Int) < 100 := by omega
  have h3 : (0 : Int) ≤ (n : Int) := by omega
  obtain ⟨i, hi, hz, hs, hby⟩ := info_parts info5
  obtain ⟨la, lc, rfl⟩ := ownF_slice ho
  go_enter Tryd.func60, Tryd.ntmps60
  go_wp2_with fail
  refine (small_dig _ n hn).mono ?_
  rintro e w1 ⟨rfl, rfl⟩
  go_wp2_with (at_builtin; go_loud (refine wpList_append_own_stringF _ rfl _ _ 78 9 rfl B 5 i under78 under9 hi hz hs hby (.slice la m lc) m t rfl ho (dig n) rfl ?max ?byt hB ?_))
  case max => show m + 1 ≤ maxLen; have : maxLen = 9223372036854775807 := rfl; omega
  case byt => show m + 1 ≤ 140737488355328; omega
  intro v3 w3 ho3 hg3 hk3
  obtain ⟨a3, c3, rfl⟩ := ownF_slice ho3
  have f3 := Fr.ofGrown hg3
  go_wp2
  go_ret
  exact ⟨_, rfl, ho3, f3⟩

set_option maxRecDepth 100000 in
set_option maxHeartbeats 1000000 in
theorem appendInt_dig (W : World) (B : Nat) (hB : B ≤ W.heap.size) (sv : Value) (m : Nat) (t : List Value) (ho : W.ownsRowF B 5 1 sv m t) (ht : m ≤ 1000000000000) (n : Nat) (hn : n < 10) :
    Calls Tryd.prog 52 #[sv, .int .i64 n, .int .i64 10] W fun e W' => ∃ sv', e = .returned sv' ∧ W'.ownsRowF B 5 1 sv' (m + 1) (t ++ strCells (dig n)) ∧ Fr sv.ownBlock.toList W W' := by
  have h2 : (n : Int) < 100 := by omega
  have h3 : (0 : Int) ≤ (n : Int) := by omega
  obtain ⟨la, lc, rfl⟩ := ownF_slice ho
  go_enter Tryd.func52, Tryd.ntmps52
  go_wp2_with fail
  refine (appendUint_dig _ B hB _ m t ho ht n hn).mono ?_
  rintro e w1 ⟨v, rfl, ho1, f1⟩
  obtain ⟨a1, c1, rfl⟩ := ownF_slice ho1
  go_wp2
  go_ret
  exact ⟨_, rfl, ho1, f1⟩

set_option maxRecDepth 100000 in
set_option maxHeartbeats 1000000 in
theorem appendInt2_dig (W : World) (B : Nat) (hB : B ≤ W.heap.size) (sv : Value) (m : Nat) (t : List Value) (ho : W.ownsRowF B 5 1 sv m t) (ht : m ≤ 1000000000000) (n : Nat) (hn : n < 10) :
    Calls Tryd.prog 33 #[sv, .int .i64 n, .int .i64 10] W fun e W' => ∃ sv', e = .returned sv' ∧ W'.ownsRowF B 5 1 sv' (m + 1) (t ++ strCells (dig n)) ∧ Fr sv.ownBlock.toList W W' := by
  obtain ⟨la, lc, rfl⟩ := ownF_slice ho
  go_enter Tryd.func33, Tryd.ntmps33
  go_wp2_with fail
  refine (appendInt_dig _ B hB _ m t ho ht n hn).mono ?_
  rintro e w1 ⟨v, rfl, ho1, f1⟩
  obtain ⟨a1, c1, rfl⟩ := ownF_slice ho1
  go_wp2
  go_ret
  exact ⟨_, rfl, ho1, f1⟩
end Go.Proofs.YtefkcmeeagflmaaDoor
namespace Go.Proofs.YtefkcmeeagflmaaDoor
open Go.RowKit Go.Shelf Go.Lib

/-- A list of pieces lies in a row. -/
theorem own_src {w : World} {B n : Nat} {e : TypeId} {size : Nat} {g cap : Nat} {xs : List Value} (h : w.ownsRow B e size (.slice (some ⟨g, 0, none⟩) n cap) n xs) : ∀ j u, xs[j]? = some u → w.cell? ((⟨g, 0, none⟩ : Addr).add j) = some u := by
  intro j u hu
  obtain ⟨g', c', e', hc, _⟩ := own_cells h hu
  injection e' with e1 e2 e3
  injection e1 with e1
  injection e1 with e1
  subst e1
  rw [show Addr.add ⟨g, 0, none⟩ j = ⟨g, j, none⟩ by simp only [Addr.add]; split <;> simp_all]
  exact hc

theorem tolds_cell : ∀ (xs : List (Int × Int)) (s : ByteArray) (u : Value), u ∈ (tolds s xs).flatten → u.oneCell' = true
  | [], _, u, h => by simp [tolds] at h
  | y :: r, s, u, h => by
      simp only [tolds, List.flatten_cons, List.mem_append] at h
      rcases h with h | h
      · simp only [told, List.mem_cons, List.not_mem_nil, or_false] at h
        rcases h with rfl | rfl | rfl | rfl <;> rfl
      · exact tolds_cell r blank u h

theorem tolds_bare_cell (xs : List (Int × Int)) (s e : ByteArray) (u : Value) (h : u ∈ (tolds s xs ++ [bare e]).flatten) : u.oneCell' = true := by
  simp only [List.flatten_append, List.mem_append] at h
  rcases h with h | h
  · exact tolds_cell _ _ _ h
  · simp only [List.flatten_cons, List.flatten_nil, List.append_nil, bare, List.mem_cons, List.not_mem_nil, or_false] at h
    rcases h with rfl | rfl | rfl | rfl <;> rfl

set_option maxRecDepth 100000 in
set_option maxHeartbeats 1000000 in
theorem body_arr (W : World) (r : Int) (hr : r < 0) (xs : List (Int × Int)) (n : Nat) (hxn : xs.length = n) (a1 : Option Addr) (c1 : Nat) (h1 : Lies W a1 xs) (hn : (n : Int) ≤ 1000000) :
    Calls Tryd.prog 35 #[.agg #[.int .i64 r, .slice a1 n c1]] W fun en W' => ∃ v, en = .returned v ∧ Fr [] W W' ∧ W'.ownsRow W.heap.size 85 4 v (1 + (n + 1)) (bare ⟨#[91]⟩ ++ (tolds ⟨#[]⟩ xs ++ [bare ⟨#[93]⟩]).flatten) := by
  obtain ⟨i, hi, hz, hs, hby⟩ := info_parts info85
  go_enter Tryd.func35, Tryd.ntmps35
  go_wp2_with fail
  have f0 : Fr [] W ((W.alloc (.cells #[.int .i64 r, .slice a1 n c1] 41)).alloc (.cells #[.string ⟨#[91]⟩, .bool false, .int .i64 0, .int .i64 0] 85)) := ((Fr.refl _ _).alloc _).alloc _
  have hq := blk2 W (.cells #[.int .i64 r, .slice a1 n c1] 41) (.cells #[.string ⟨#[91]⟩, .bool false, .int .i64 0, .int .i64 0] 85)
  generalize (W.alloc (.cells #[.int .i64 r, .slice a1 n c1] 41)).alloc (.cells #[.string ⟨#[91]⟩, .bool false, .int .i64 0, .int .i64 0] 85) = w0 at *
  refine (pieces_any w0 ⟨#[]⟩ ⟨#[93]⟩ xs n hxn a1 c1 (h1.fr f0 (by simp)) hn).mono ?_
  rintro e w1 ⟨v, rfl, f1, ho1⟩
  have hq1 := (f1.block _ (Array.getElem?_eq_some_iff.1 hq).1 (by simp)).trans hq
  have hown : w1.ownsRow W.heap.size 85 4 (.slice (some ⟨W.heap.size + 1, 0, none⟩) 1 1) 1 (bare ⟨#[91]⟩) := ⟨rfl, .inr ⟨W.heap.size + 1, 1, _, rfl, by omega, hq1, by omega, by decide, rfl, rfl⟩⟩
  obtain ⟨g, c, rfl⟩ : ∃ g c, v = .slice (some ⟨g, 0, none⟩) (n + 1) c := by
    rcases ho1.2 with ⟨_, e⟩ | ⟨g, cap, cur, e, _⟩
    · omega
    · exact ⟨g, cap, e⟩
  have hsrc := own_src ho1
  have F1 := f0.trans f1
  have hsz : W.heap.size ≤ w1.heap.size := F1.size
  go_wp2_with (at_builtin; go_loud (refine wpList_append_fp _ rfl _ _ 86 rfl W.heap.size 85 i _ 4 40 under86 hi hz hs hby rfl (by decide) (.slice (some ⟨W.heap.size + 1, 0, none⟩) 1 1) 1 (bare ⟨#[91]⟩) rfl hown _ (n + 1) _ (tolds ⟨#[]⟩ xs ++ [bare ⟨#[93]⟩]).flatten rfl ?len hsrc ?one ?max (by omega) ?base ?_))
  case len => exact ho1.1
  case one => exact tolds_bare_cell _ _ _
  case max => have : maxLen = 9223372036854775807 := rfl; omega
  case base => exact hsz
  intro v3 w3 ho3 hg3 hk3
  obtain ⟨a3, c3, rfl, _⟩ := own_slice ho3
  have f3 : Fr [] W w3 := ((F1.sub (T := [W.heap.size + 1]) (by simp)).trans ((Fr.ofGrown hg3).sub (fun k hk => .inl (by simpa [Value.ownBlock, eq_comm] using hk)))).sub (fun k hk => .inr (by simp at hk; omega))
  have HO : Hid (w3.ownsRow W.heap.size 85 4 (.slice a3 (1 + (n + 1)) c3) (1 + (n + 1)) (bare ⟨#[91]⟩ ++ (tolds ⟨#[]⟩ xs ++ [bare ⟨#[93]⟩]).flatten)) := by unfold Hid; simpa using ho3
  clear ho3
  go_wp2
  go_ret
  exact ⟨_, rfl, f3, HO.out⟩

end Go.Proofs.YtefkcmeeagflmaaDoor
