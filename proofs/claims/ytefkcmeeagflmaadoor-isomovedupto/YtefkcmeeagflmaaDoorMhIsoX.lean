/-
  body: the pieces of a record; condition: its sort is of one digit.
-/
import Derived.Test.YtefkcmeeagflmaaDoorMgJBMJ
import Derived.Deep.RegionHeldLaw
namespace Go.Proofs.YtefkcmeeagflmaaDoor
open Go.RowKit Go.Shelf Go.Lib

/-- What a record begins with. -/
def opening (r : Nat) : ByteArray := ⟨#[123]⟩ ++ dig r

set_option maxRecDepth 100000 in
set_option maxHeartbeats 4000000 in
theorem body_rec (W : World) (r : Nat) (hr : r < 10) (xs : List (Int × Int)) (n : Nat) (hxn : xs.length = n) (a1 : Option Addr) (c1 : Nat) (h1 : Lies W a1 xs) (hn : (n : Int) ≤ 1000000) :
    Calls Tryd.prog 35 #[.agg #[.int .i64 r, .slice a1 n c1]] W fun en W' => ∃ v, en = .returned v ∧ Fr [] W W' ∧ W'.ownsRow W.heap.size 85 4 v (1 + (n + 1)) (bare (opening r) ++ (tolds blank xs ++ [bare ⟨#[125]⟩]).flatten) := by
  obtain ⟨i, hi, hz, hs, hby⟩ := info_parts info85
  have hr0 : ¬ (r : Int) < 0 := by omega
  go_enter Tryd.func35, Tryd.ntmps35
  go_wp2_with fail
  have A0 : (W.alloc (.cells #[.int .i64 (r : Int), .slice a1 n c1] 41)).heap[W.heap.size]? = some (.cells #[.int .i64 (r : Int), .slice a1 n c1] 41) := heap_alloc_new W _
  have f0 : Fr [] W (W.alloc (.cells #[.int .i64 (r : Int), .slice a1 n c1] 41)) := (Fr.refl _ _).alloc _
  generalize W.alloc (.cells #[.int .i64 (r : Int), .slice a1 n c1] 41) = w0 at *
  obtain ⟨N, hN⟩ : ∃ N, W.heap.size = N := ⟨_, rfl⟩
  rw [hN] at A0 ⊢
  have hNl := (Array.getElem?_eq_some_iff.1 A0).1
  have L0 := h1.fr f0 (by simp)
  have b0 : ∀ w' : World, w'.heap[N]? = some (Obj.cells #[.int .i64 (r : Int), .slice a1 n c1] 41) → w'.cell? ⟨N, 0, none⟩ = some (.int .i64 (r : Int)) := fun w' h => at_cells h 0 rfl
  have b1 : ∀ w' : World, w'.heap[N]? = some (Obj.cells #[.int .i64 (r : Int), .slice a1 n c1] 41) → w'.cell? ⟨N, 1, none⟩ = some (.slice a1 n c1) := fun w' h => at_cells h 1 rfl
  have AD : w0.drew.heap[N]? = some (Obj.cells #[.int .i64 (r : Int), .slice a1 n c1] 41) := A0
  have HA : ∀ (w' : World) (o : Obj), w'.heap[N]? = some (Obj.cells #[.int .i64 (r : Int), .slice a1 n c1] 41) → (w'.alloc o).heap[N]? = some (Obj.cells #[.int .i64 (r : Int), .slice a1 n c1] 41) := fun w' o h => (Below.heap_alloc _ _ _ (Array.getElem?_eq_some_iff.1 h).1).trans h
  have HB : ∀ (w' : World) (o : Obj), w'.heap[N]? = some (Obj.cells #[.int .i64 (r : Int), .slice a1 n c1] 41) → (w'.alloc o).drew.heap[N]? = some (Obj.cells #[.int .i64 (r : Int), .slice a1 n c1] 41) := fun w' o h => HA w' o h
  have hNW : N ≤ w0.heap.size := by omega
  have hm : 1 + (n + 1) ≤ maxLen := by have : maxLen = 9223372036854775807 := rfl; omega
  have hone := tolds_bare_cell xs ⟨#[32]⟩ ⟨#[125]⟩
  go_region_held_law (fun w' : World => w'.heap[N]? = some (Obj.cells #[.int .i64 (r : Int), .slice a1 n c1] 41))
    (with_reducible (first | assumption | exact AD | exact HA _ _ AD | exact HB _ _ A0 | exact HB _ _ AD | exact HA _ _ A1 | exact HB _ _ A1))
    (first
      | (go_at_call 55; refine (itoa2_dig _ r hr).mono ?_; rintro e w' ⟨rfl, rfl⟩)
      | (go_at_call 31; refine (pieces_any _ ⟨#[32]⟩ ⟨#[125]⟩ xs n hxn a1 c1 (L0.fr (S := []) (by first | exact Fr.refl _ _ | exact Fr.drew (Fr.refl _ _) | exact (Fr.drew (Fr.refl _ _)).alloc _ | exact ((Fr.refl _ _).alloc _).drew | exact (Fr.refl _ _).alloc _) (by simp)) hn).mono ?_; rintro e w1 ⟨v, rfl, f1, ho1⟩; have A1 := (f1.block N (by simp; omega) (by simp)).trans (by first | exact AD | exact HB _ _ A0 | exact HA _ _ AD); obtain ⟨g, c, rfl⟩ : ∃ g c, v = .slice (some ⟨g, 0, none⟩) (n + 1) c := (by rcases ho1.2 with ⟨_, e⟩ | ⟨g, cap, cur, e, _⟩ <;> first | omega | exact ⟨g, cap, e⟩); have hsrc := own_src ho1; have hs1 : N ≤ w1.heap.size := (by have := (Array.getElem?_eq_some_iff.1 A1).1; omega))
      | (refine step_append_src rfl (.tmp 17) (.tmp 20) 86 rfl N 85 i _ 4 40 under86 hi hz hs hby rfl (by decide) (.slice (some ⟨w0.heap.size, 0, none⟩) 1 1) 1 (bare (opening r)) rfl ⟨rfl, .inr ⟨w0.heap.size, 1, _, rfl, hNW, (f1.block w0.heap.size (by simp) (by simp)).trans (heap_alloc_new w0 _), by omega, by decide, rfl, rfl⟩⟩ (some ⟨g, 0, none⟩) (n + 1) c (tolds ⟨#[32]⟩ xs ++ [bare ⟨#[125]⟩]).flatten rfl ho1.1 (by simp) (fun ad had => by cases had; exact hsrc) hone hm (by omega) hs1 ?_; intro v3 w3 ho3 hg3 hk3; have A3 := ((Fr.ofGrown hg3).block N (Array.getElem?_eq_some_iff.1 A1).1 (by simp [Value.ownBlock]; omega)).trans A1; obtain ⟨a3, c3, rfl, _⟩ := own_slice ho3)
      | (refine step_append_src rfl (.tmp 17) (.tmp 20) 86 rfl N 85 i _ 4 40 under86 hi hz hs hby rfl (by decide) (.slice (some ⟨w1.heap.size, 0, none⟩) 1 1) 1 (bare (opening r)) rfl ⟨rfl, .inr ⟨w1.heap.size, 1, _, rfl, hs1, heap_alloc_new w1 _, by omega, by decide, rfl, rfl⟩⟩ (some ⟨g, 0, none⟩) (n + 1) c (tolds ⟨#[32]⟩ xs ++ [bare ⟨#[125]⟩]).flatten rfl ho1.1 (by simp) (fun ad had => by cases had; exact own_src (ho1.alloc _)) hone hm (by omega) (by simp; omega) ?_; intro v3 w3 ho3 hg3 hk3; have A3 := ((Fr.ofGrown hg3).block N (Array.getElem?_eq_some_iff.1 (HA w1 _ A1)).1 (by have := (Array.getElem?_eq_some_iff.1 A1).1; simp [Value.ownBlock]; omega)).trans (HA w1 _ A1); obtain ⟨a3, c3, rfl, _⟩ := own_slice ho3))
  all_goals
    have F1 : Fr [] W w1 := (f0.trans (by first | exact Fr.drew (Fr.refl [] w0) | exact ((Fr.refl [] w0).alloc _).drew)).trans f1
    have f3 : Fr [] W w3 := by
      first
        | exact ((F1.sub (T := [w0.heap.size]) (by simp)).trans ((Fr.ofGrown hg3).sub (fun k hk => .inl (by simpa [Value.ownBlock, eq_comm] using hk)))).sub (fun k hk => .inr (by simp at hk; omega))
        | exact (((F1.alloc _).sub (T := [w1.heap.size]) (by simp)).trans ((Fr.ofGrown hg3).sub (fun k hk => .inl (by simpa [Value.ownBlock, eq_comm] using hk)))).sub (fun k hk => .inr (by simp at hk; omega))
    have HO : Hid (w3.ownsRow N 85 4 (.slice a3 (1 + (n + 1)) c3) (1 + (n + 1)) (bare (opening r) ++ (tolds blank xs ++ [bare ⟨#[125]⟩]).flatten)) := ho3
    clear ho3 hg3 hk3 hsrc hone
    go_wp2
    go_ret
    refine ⟨.slice a3 (1 + (n + 1)) c3, ?_, f3, ?_⟩
    · first
        | rfl
        | simp
        | simp [Array.getD]
    · have HO2 := HO.out
      rw [List.flatten_append, List.flatten_cons, List.flatten_nil, List.append_nil] at HO2
      exact HO2
end Go.Proofs.YtefkcmeeagflmaaDoor
