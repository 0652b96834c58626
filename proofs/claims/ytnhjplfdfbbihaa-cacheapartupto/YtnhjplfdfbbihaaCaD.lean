/-
  Copies of rows, as slices.Clone makes them; condition: the row lies as told.
-/
import Derived.Test.YtnhjplfdfbbihaaCaC
import Derived.Deep.Cut
namespace Go.Proofs.Ytnhjplfdfbbihaa
open Go.RowKit
set_option linter.unusedVariables false
set_option linter.unusedSimpArgs false

theorem info_parts {t : TypeId} {z : Value} {s b : Nat} (h : (Try.prog.info? t).map (fun i => (i.zero, i.size, i.bytes)) = some (some z, s, b)) : ∃ i, Try.prog.info? t = some i ∧ i.zero = some z ∧ i.size = s ∧ i.bytes = b := by
  cases hi : Try.prog.info? t with
  | none => rw [hi] at h; simp at h
  | some i => rw [hi] at h; simp at h; exact ⟨i, rfl, h.1, h.2.1, h.2.2⟩
theorem own_empty (w : World) (e : TypeId) (size : Nat) : (w.alloc (.cells #[] e)).ownsRow w.heap.size e size (.slice (some ⟨w.heap.size, 0, none⟩) 0 0) 0 [] := ⟨by simp, .inr ⟨w.heap.size, 0, #[], rfl, Nat.le_refl _, heap_alloc_new w _, Nat.le_refl _, by decide, by simp, by simp⟩⟩
theorem SL.row {w w' : World} {B : Nat} {a : Option Addr} {e : TypeId} {n c m y : Nat} {xs : List Value} (h : SL w B e a n c m y xs) (f : Fr [] w w') : ∀ ad, a = some ad → ∀ j u, xs[j]? = some u → w'.cell? (ad.add j) = some u := by
  intro ad ha j u hu
  obtain ⟨b, o, e, hc, hb⟩ := h.cell j u hu
  rw [ha] at e
  cases e
  rw [Addr.add_mid]
  exact f.cell1 hc (by simp)

theorem cu22 : Try.prog.underlying 22 = some (.slice 3) := by kernel_rfl
theorem ci22 : (Try.prog.info? 3).map (fun i => (i.zero, i.size, i.bytes)) = some (some (.int .i64 0), 1, 8) := by kernel_rfl
set_option maxRecDepth 100000 in
set_option maxHeartbeats 2000000 in
theorem clone22 {w : World} {B : Nat} {a : Option Addr} {n c : Nat} {xs : List Value} (h : SL w B 3 a n c 1 8 xs) (h1 : ∀ u ∈ xs, u.oneCell' = true) :
    Calls Try.prog 22 #[.slice a n c] w fun e w' => ∃ v, e = .returned v ∧ w'.ownsRow w.heap.size 3 1 v n xs ∧ Fr [] w w' := by
  obtain ⟨i, hi, hz, hz1, hby⟩ := info_parts ci22
  have hfit := h.fit
  have hl := h.len
  have hnone := h.nn
  cases a with
  | none =>
    obtain ⟨rfl, rfl⟩ := hnone rfl
    obtain rfl : xs = [] := List.eq_nil_of_length_eq_zero (by simpa using hl)
    have hq : ∀ w, (binOp .eql 22 (.slice none 0 0) (.slice none 0 0)).run Try.prog w = .ok (.bool true) w := fun w => by kernel_rfl
    clear h hfit hl hnone
    go_enter Try.func22, Try.ntmps22
    go_wp2
    go_ret
    exact ⟨_, rfl, World.ownsRow_nil _ _ _ _, Fr.refl _ _⟩
  | some ad =>
    have F1 : Fr [] w (w.alloc (.cells #[] 3)) := (Fr.refl _ _).alloc _
    have hnew : ∀ ad', some ad = some ad' → ∀ j u, xs[j]? = some u → (w.alloc (.cells #[] 3)).cell? (ad'.add j) = some u := h.row F1
    have hE := own_empty w 3 1
    have HF : Hid (Fr [] w (w.alloc (.cells #[] 3))) := F1
    have hq : ∀ w, (binOp .eql 22 (.slice (some ad) n c) (.slice none 0 0)).run Try.prog w = .ok (.bool false) w := fun w => by kernel_rfl
    clear h F1
    go_enter Try.func22, Try.ntmps22
    go_upto_region 3 with fail
    go_wp2_with (refine wpList_append_src _ rfl _ _ 22 rfl w.heap.size 3 i _ 1 8 cu22 hi hz hz1 hby rfl (by decide) (.slice (some ⟨w.heap.size, 0, none⟩) 0 0) 0 [] rfl hE (some ad) n c xs rfl hl (by simp) hnew h1 (by unfold maxLen; omega) (by omega) (by simp) ?_; intro v' w' ho hg hk)
    go_ret
    exact ⟨_, rfl, by simpa using ho, ((HF.out.sub (T := [w.heap.size]) (by simp)).trans ((Fr.ofGrown hg).sub (fun k hk => .inl (by simpa [Value.ownBlock, eq_comm] using hk)))).sub (fun k hk => .inr (by simp at hk; omega))⟩

theorem cu46 : Try.prog.underlying 33 = some (.slice 109) := by kernel_rfl
theorem ci46 : (Try.prog.info? 109).map (fun i => (i.zero, i.size, i.bytes)) = some (some (.agg #[.int .i64 0, .int .i64 0, .int .i64 0, .int .i64 0]), 4, 32) := by kernel_rfl
set_option maxRecDepth 100000 in
set_option maxHeartbeats 2000000 in
theorem clone46 {w : World} {B : Nat} {a : Option Addr} {n c : Nat} {xs : List Value} (h : SL w B 109 a n c 4 32 xs) (h1 : ∀ u ∈ xs, u.oneCell' = true) :
    Calls Try.prog 46 #[.slice a n c] w fun e w' => ∃ v, e = .returned v ∧ w'.ownsRow w.heap.size 109 4 v n xs ∧ Fr [] w w' := by
  obtain ⟨i, hi, hz, hz1, hby⟩ := info_parts ci46
  have hfit := h.fit
  have hl := h.len
  have hnone := h.nn
  cases a with
  | none =>
    obtain ⟨rfl, rfl⟩ := hnone rfl
    obtain rfl : xs = [] := List.eq_nil_of_length_eq_zero (by simpa using hl)
    have hq : ∀ w, (binOp .eql 33 (.slice none 0 0) (.slice none 0 0)).run Try.prog w = .ok (.bool true) w := fun w => by kernel_rfl
    clear h hfit hl hnone
    go_enter Try.func46, Try.ntmps46
    go_wp2
    go_ret
    exact ⟨_, rfl, World.ownsRow_nil _ _ _ _, Fr.refl _ _⟩
  | some ad =>
    have F1 : Fr [] w (w.alloc (.cells #[] 109)) := (Fr.refl _ _).alloc _
    have hnew : ∀ ad', some ad = some ad' → ∀ j u, xs[j]? = some u → (w.alloc (.cells #[] 109)).cell? (ad'.add j) = some u := h.row F1
    have hE := own_empty w 109 4
    have HF : Hid (Fr [] w (w.alloc (.cells #[] 109))) := F1
    have hq : ∀ w, (binOp .eql 33 (.slice (some ad) n c) (.slice none 0 0)).run Try.prog w = .ok (.bool false) w := fun w => by kernel_rfl
    clear h F1
    go_enter Try.func46, Try.ntmps46
    go_upto_region 3 with fail
    go_wp2_with (refine wpList_append_src _ rfl _ _ 33 rfl w.heap.size 109 i _ 4 32 cu46 hi hz hz1 hby rfl (by decide) (.slice (some ⟨w.heap.size, 0, none⟩) 0 0) 0 [] rfl hE (some ad) n c xs rfl hl (by simp) hnew h1 (by unfold maxLen; omega) (by omega) (by simp) ?_; intro v' w' ho hg hk)
    go_ret
    exact ⟨_, rfl, by simpa using ho, ((HF.out.sub (T := [w.heap.size]) (by simp)).trans ((Fr.ofGrown hg).sub (fun k hk => .inl (by simpa [Value.ownBlock, eq_comm] using hk)))).sub (fun k hk => .inr (by simp at hk; omega))⟩

theorem cu45 : Try.prog.underlying 30 = some (.slice 55) := by kernel_rfl
theorem ci45 : (Try.prog.info? 55).map (fun i => (i.zero, i.size, i.bytes)) = some (some (.agg #[.int .i64 0, .slice none 0 0, .int .i64 0, .int .i64 0, .int .i64 0]), 5, 56) := by kernel_rfl
set_option maxRecDepth 100000 in
set_option maxHeartbeats 2000000 in
theorem clone45 {w : World} {B : Nat} {a : Option Addr} {n c : Nat} {xs : List Value} (h : SL w B 55 a n c 5 56 xs) (h1 : ∀ u ∈ xs, u.oneCell' = true) :
    Calls Try.prog 45 #[.slice a n c] w fun e w' => ∃ v, e = .returned v ∧ w'.ownsRow w.heap.size 55 5 v n xs ∧ Fr [] w w' := by
  obtain ⟨i, hi, hz, hz1, hby⟩ := info_parts ci45
  have hfit := h.fit
  have hl := h.len
  have hnone := h.nn
  cases a with
  | none =>
    obtain ⟨rfl, rfl⟩ := hnone rfl
    obtain rfl : xs = [] := List.eq_nil_of_length_eq_zero (by simpa using hl)
    have hq : ∀ w, (binOp .eql 30 (.slice none 0 0) (.slice none 0 0)).run Try.prog w = .ok (.bool true) w := fun w => by kernel_rfl
    clear h hfit hl hnone
    go_enter Try.func45, Try.ntmps45
    go_wp2
    go_ret
    exact ⟨_, rfl, World.ownsRow_nil _ _ _ _, Fr.refl _ _⟩
  | some ad =>
    have F1 : Fr [] w (w.alloc (.cells #[] 55)) := (Fr.refl _ _).alloc _
    have hnew : ∀ ad', some ad = some ad' → ∀ j u, xs[j]? = some u → (w.alloc (.cells #[] 55)).cell? (ad'.add j) = some u := h.row F1
    have hE := own_empty w 55 5
    have HF : Hid (Fr [] w (w.alloc (.cells #[] 55))) := F1
    have hq : ∀ w, (binOp .eql 30 (.slice (some ad) n c) (.slice none 0 0)).run Try.prog w = .ok (.bool false) w := fun w => by kernel_rfl
    clear h F1
    go_enter Try.func45, Try.ntmps45
    go_upto_region 3 with fail
    go_wp2_with (refine wpList_append_src _ rfl _ _ 30 rfl w.heap.size 55 i _ 5 56 cu45 hi hz hz1 hby rfl (by decide) (.slice (some ⟨w.heap.size, 0, none⟩) 0 0) 0 [] rfl hE (some ad) n c xs rfl hl (by simp) hnew h1 (by unfold maxLen; omega) (by omega) (by simp) ?_; intro v' w' ho hg hk)
    go_ret
    exact ⟨_, rfl, by simpa using ho, ((HF.out.sub (T := [w.heap.size]) (by simp)).trans ((Fr.ofGrown hg).sub (fun k hk => .inl (by simpa [Value.ownBlock, eq_comm] using hk)))).sub (fun k hk => .inr (by simp at hk; omega))⟩

theorem cu47 : Try.prog.underlying 31 = some (.slice 77) := by kernel_rfl
theorem ci47 : (Try.prog.info? 77).map (fun i => (i.zero, i.size, i.bytes)) = some (some (.agg #[.int .i64 0, .int .i64 0, .int .i64 0, .int .i64 0, .slice none 0 0]), 5, 56) := by kernel_rfl
set_option maxRecDepth 100000 in
set_option maxHeartbeats 2000000 in
theorem clone47 {w : World} {B : Nat} {a : Option Addr} {n c : Nat} {xs : List Value} (h : SL w B 77 a n c 5 56 xs) (h1 : ∀ u ∈ xs, u.oneCell' = true) :
    Calls Try.prog 47 #[.slice a n c] w fun e w' => ∃ v, e = .returned v ∧ w'.ownsRow w.heap.size 77 5 v n xs ∧ Fr [] w w' := by
  obtain ⟨i, hi, hz, hz1, hby⟩ := info_parts ci47
  have hfit := h.fit
  have hl := h.len
  have hnone := h.nn
  cases a with
  | none =>
    obtain ⟨rfl, rfl⟩ := hnone rfl
    obtain rfl : xs = [] := List.eq_nil_of_length_eq_zero (by simpa using hl)
    have hq : ∀ w, (binOp .eql 31 (.slice none 0 0) (.slice none 0 0)).run Try.prog w = .ok (.bool true) w := fun w => by kernel_rfl
    clear h hfit hl hnone
    go_enter Try.func47, Try.ntmps47
    go_wp2
    go_ret
    exact ⟨_, rfl, World.ownsRow_nil _ _ _ _, Fr.refl _ _⟩
  | some ad =>
    have F1 : Fr [] w (w.alloc (.cells #[] 77)) := (Fr.refl _ _).alloc _
    have hnew : ∀ ad', some ad = some ad' → ∀ j u, xs[j]? = some u → (w.alloc (.cells #[] 77)).cell? (ad'.add j) = some u := h.row F1
    have hE := own_empty w 77 5
    have HF : Hid (Fr [] w (w.alloc (.cells #[] 77))) := F1
    have hq : ∀ w, (binOp .eql 31 (.slice (some ad) n c) (.slice none 0 0)).run Try.prog w = .ok (.bool false) w := fun w => by kernel_rfl
    clear h F1
    go_enter Try.func47, Try.ntmps47
    go_upto_region 3 with fail
    go_wp2_with (refine wpList_append_src _ rfl _ _ 31 rfl w.heap.size 77 i _ 5 56 cu47 hi hz hz1 hby rfl (by decide) (.slice (some ⟨w.heap.size, 0, none⟩) 0 0) 0 [] rfl hE (some ad) n c xs rfl hl (by simp) hnew h1 (by unfold maxLen; omega) (by omega) (by simp) ?_; intro v' w' ho hg hk)
    go_ret
    exact ⟨_, rfl, by simpa using ho, ((HF.out.sub (T := [w.heap.size]) (by simp)).trans ((Fr.ofGrown hg).sub (fun k hk => .inl (by simpa [Value.ownBlock, eq_comm] using hk)))).sub (fun k hk => .inr (by simp at hk; omega))⟩

theorem cu48 : Try.prog.underlying 32 = some (.slice 79) := by kernel_rfl
theorem ci48 : (Try.prog.info? 79).map (fun i => (i.zero, i.size, i.bytes)) = some (some (.agg #[.int .i64 0, .slice none 0 0]), 2, 32) := by kernel_rfl
set_option maxRecDepth 100000 in
set_option maxHeartbeats 2000000 in
theorem clone48 {w : World} {B : Nat} {a : Option Addr} {n c : Nat} {xs : List Value} (h : SL w B 79 a n c 2 32 xs) (h1 : ∀ u ∈ xs, u.oneCell' = true) :
    Calls Try.prog 48 #[.slice a n c] w fun e w' => ∃ v, e = .returned v ∧ w'.ownsRow w.heap.size 79 2 v n xs ∧ Fr [] w w' := by
  obtain ⟨i, hi, hz, hz1, hby⟩ := info_parts ci48
  have hfit := h.fit
  have hl := h.len
  have hnone := h.nn
  cases a with
  | none =>
    obtain ⟨rfl, rfl⟩ := hnone rfl
    obtain rfl : xs = [] := List.eq_nil_of_length_eq_zero (by simpa using hl)
    have hq : ∀ w, (binOp .eql 32 (.slice none 0 0) (.slice none 0 0)).run Try.prog w = .ok (.bool true) w := fun w => by kernel_rfl
    clear h hfit hl hnone
    go_enter Try.func48, Try.ntmps48
    go_wp2
    go_ret
    exact ⟨_, rfl, World.ownsRow_nil _ _ _ _, Fr.refl _ _⟩
  | some ad =>
    have F1 : Fr [] w (w.alloc (.cells #[] 79)) := (Fr.refl _ _).alloc _
    have hnew : ∀ ad', some ad = some ad' → ∀ j u, xs[j]? = some u → (w.alloc (.cells #[] 79)).cell? (ad'.add j) = some u := h.row F1
    have hE := own_empty w 79 2
    have HF : Hid (Fr [] w (w.alloc (.cells #[] 79))) := F1
    have hq : ∀ w, (binOp .eql 32 (.slice (some ad) n c) (.slice none 0 0)).run Try.prog w = .ok (.bool false) w := fun w => by kernel_rfl
    clear h F1
    go_enter Try.func48, Try.ntmps48
    go_upto_region 3 with fail
    go_wp2_with (refine wpList_append_src _ rfl _ _ 32 rfl w.heap.size 79 i _ 2 32 cu48 hi hz hz1 hby rfl (by decide) (.slice (some ⟨w.heap.size, 0, none⟩) 0 0) 0 [] rfl hE (some ad) n c xs rfl hl (by simp) hnew h1 (by unfold maxLen; omega) (by omega) (by simp) ?_; intro v' w' ho hg hk)
    go_ret
    exact ⟨_, rfl, by simpa using ho, ((HF.out.sub (T := [w.heap.size]) (by simp)).trans ((Fr.ofGrown hg).sub (fun k hk => .inl (by simpa [Value.ownBlock, eq_comm] using hk)))).sub (fun k hk => .inr (by simp at hk; omega))⟩
end Go.Proofs.Ytnhjplfdfbbihaa
