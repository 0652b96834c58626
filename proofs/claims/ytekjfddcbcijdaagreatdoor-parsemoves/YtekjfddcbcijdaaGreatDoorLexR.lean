/-
  The tokens of a text are told one by one, whatever the caller does with each; conditions: the tables lie as the program's text lays them, the text is not too long.
-/
import Derived.Test.YtekjfddcbcijdaaGreatDoorLexQ
namespace Go.Proofs.YtekjfddcbcijdaaGreatDoor
open Go.RowKit Go.Shelf
set_option maxRecDepth 100000
attribute [local go_sem] Oper.semAt_some store_func

/-- How telling tokens ends: all are told; at a fault; the caller had enough. -/
abbrev Res := Sum (List Tok) (Sum (List Tok × Nat × Nat) (List Tok))
def walkT (go : List Tok → Bool) : List Tok → List Tok → Option (Nat × Nat) → Res
  | d, [], none => .inl d
  | d, [], some x => .inr (.inl (d, x.1, x.2))
  | d, t :: ts, er => if go (d ++ [t]) then walkT go (d ++ [t]) ts er else .inr (.inr (d ++ [t]))

/-- What a caller may write. -/
def Mine (bx M : Nat) (W W' : World) : Prop := ∃ S, Fr S W W' ∧ ∀ j, j ∈ S → 6 ≤ j ∧ j ≠ bx ∧ j < M

theorem tokens_any (s : ByteArray) (w : World) :
    Calls Tryz.prog 11 #[.string s] w fun e w' => e = .returned (.func (.func 17) #[] #[.pointer (some ⟨w.heap.size, 0, none⟩)]) ∧ w' = w.alloc (.cells #[.string s] 9) := by
  go_enter Tryz.func11, Tryz.ntmps11
  go_wp2
  go_ret
  exact ⟨rfl, rfl⟩

theorem rdE_ok (t : Tok) : rdE (.ok t) = 0 := rfl

theorem rd_ne0 {s : ByteArray} {k e : Nat} (h : rd s k = .error e) : e ≠ 0 := by
  unfold rd readL at h
  repeat (first | (cases h; omega) | cases h | split at h)
  all_goals simp_all

set_option maxRecDepth 100000 in
set_option maxHeartbeats 2000000 in
theorem tokens1 (go : List Tok → Bool) (G : List Tok → World → Prop) (Q : Res → World → Prop) (s : ByteArray) (hs : s.size ≤ 200000) (bx l : Nat)
    (hE : ∀ d W, G d W → Q (.inl d) W)
    (hY1 : ∀ d t W0 W, d.length + 1 ≤ s.size → G d W0 → Fr [] W0 W → Tabs W → YieldAt Fence.wide 0 Tryz.prog l #[.agg (tokA t), .int .i64 0] W (fun e W' => e = .returned (.bool (go (d ++ [t]))) ∧ Mine bx W0.heap.size W W' ∧ (if go (d ++ [t]) then G (d ++ [t]) W' else Q (.inr (.inr (d ++ [t]))) W')))
    (hY2 : ∀ d p er W0 W, G d W0 → Fr [] W0 W → Tabs W → er ≠ 0 → YieldAt Fence.wide 0 Tryz.prog l #[.agg #[.int .i64 0, .string ⟨#[]⟩, .int .i64 (p : Nat), .int .i64 0, .int .i64 0], .int .i64 (er : Nat)] W (fun e W' => (∃ b, e = .returned (.bool b)) ∧ Q (.inr (.inl (d, p, er))) W'))
    (W : World) (h0 : G [] W) (T0 : Tabs W) (b0 : W.heap[bx]? = some (.cells #[.string s] 9 (0, 0))) :
    CallsIn Fence.wide 0 Tryz.prog 17 #[.func (.yield l) #[] #[], .pointer (some ⟨bx, 0, none⟩)] W fun e W' => (∃ v, e = .returned v) ∧ Q (walkT go [] (sc s 0).1 (sc s 0).2) W' := by
  have hs40 : s.size ≤ 2 ^ 40 := by omega
  have hsM : s.size ≤ maxLen := by unfold maxLen; omega
  have hs' : (s.size : Int) ≤ 200000 := by omega
  have HS : Hid (s.size ≤ 200000) := hs
  clear hs
  refine callsIn_of_wp Tryz.func17 rfl trivial ?_ rfl
  simp only [Tryz.ntmps17, List.size_toArray, List.length_cons, List.length_nil, Nat.reduceAdd, Nat.reduceSub, Array.replicate_succ, Array.replicate_zero, List.push_toArray, List.append_toArray, List.nil_append, List.cons_append]
  have cb := at_cells b0 0 rfl
  gi_wp2
  refine ⟨trivial, rfl, (callsIn_wide.2 (skip_any s 0 W hsM (Nat.zero_le _) T0)).mono ?_⟩
  rintro e W ⟨rfl, rfl⟩
  have hk0 := skE_le s 0 (Nat.zero_le _)
  gi_wp2
  gi_loopw [3] (fun at_ wr => ∃ k d, k ≤ s.size ∧ Hid (d.length ≤ k) ∧ at_ = .int .i64 ((skE s k : Nat) : Int) ∧ G d wr ∧ Tabs wr ∧ wr.heap[bx]? = some (.cells #[.string s] 9 (0, 0)) ∧ Hid (walkT go d (sc s k).1 (sc s k).2 = walkT go [] (sc s 0).1 (sc s 0).2)) (fun at_ _ => s.size - (intOf at_).toNat)
  case atStart => exact ⟨0, [], Nat.zero_le _, Nat.zero_le _, rfl, h0, T0, b0, rfl⟩
  case round =>
    obtain ⟨k, d, hk, hdk, rfl, hg, hT, hb, hr⟩ := hrel
    have hkl := skE_le s k hk
    have cb2 := at_cells hb 0 rfl
    by_cases hlt : skE s k < s.size
    · have hread := fun w T => read_any s (skE s k) w hs40 hlt T
      unfold rdOut at hread
      cases hrd : rd s (skE s k) with
      | error er =>
        have hsc := sc_err hlt hrd
        rw [hrd] at hread
        have hne := rd_ne0 hrd
        have hres : Hid (walkT go [] (sc s 0).1 (sc s 0).2 = .inr (.inl (d, skE s k, er))) := by
          show _ = _
          rw [← hr.out, hsc]
          rfl
        simp only [rdA, rdE] at hread
        have hne' : ((er : Int) != 0) = true := by simp; omega
        generalize skE s k = K at *
        clear hsc hrd hr hne
        gi_wp2
        refine ⟨trivial, rfl, (callsIn_wide.2 (hread wr hT)).mono ?_⟩
        rintro e w2 ⟨rfl, hF⟩
        have hF3 : Fr [] wr (w2.alloc (.cells #[.int .i64 0, .string ⟨#[]⟩, .int .i64 K, .int .i64 0, .int .i64 0] 43)) := hF.alloc _
        obtain ⟨fn, tmps, assign, body, hy, hRnd⟩ := hY2 d K er wr _ hg hF3 (hT.fr hF3 (by simp)) (by intro h; rw [h] at hne'; simp at hne')
        gi_wp2
        refine ⟨rfl, hRnd.mono ?_⟩
        rintro e W' ⟨⟨b, rfl⟩, hQ⟩
        clear hRnd hy
        cases b
        · gi_wp2
          refine bodyPost_ret (results_none rfl _ _ _) rfl ?_
          rw [hres.out]
          exact ⟨⟨_, rfl⟩, hQ⟩
        · gi_wp2
          refine bodyPost_ret (results_none rfl _ _ _) rfl ?_
          rw [hres.out]
          exact ⟨⟨_, rfl⟩, hQ⟩
      | ok t =>
        obtain ⟨hsc, hto1, hto2⟩ := sc_ok hlt hrd
        rw [hrd] at hread
        have hres : Hid (walkT go [] (sc s 0).1 (sc s 0).2 = if go (d ++ [t]) then walkT go (d ++ [t]) (sc s t.to).1 (sc s t.to).2 else .inr (.inr (d ++ [t]))) := by
          show _ = _
          rw [← hr.out, hsc]
          rfl
        have hdl : Hid (d.length + 1 ≤ t.to) := by have := hdk.out; show _ ≤ _; omega
        have hY := hY1 d t wr
        simp only [rdA, rdE, tokA] at hread hY
        have hskip := fun w T => skip_any s t.to w hsM hto2 T
        have hkt := skE_le s t.to hto2
        generalize skE s k = K at *
        clear hsc hrd hr
        generalize (t.kind : Int) = x0 at hread hY
        generalize (⟨t.text.toArray⟩ : ByteArray) = X at hread hY
        generalize (t.frm : Int) = x2 at hread hY
        generalize (t.n : Int) = x4 at hread hY
        gi_wp2
        refine ⟨trivial, rfl, (callsIn_wide.2 (hread wr hT)).mono ?_⟩
        rintro e w2 ⟨rfl, hF⟩
        have hF3 : Fr [] wr (w2.alloc (.cells #[.int .i64 x0, .string X, .int .i64 x2, .int .i64 t.to, .int .i64 x4] 43)) := hF.alloc _
        have u3 := TB.new w2 (.int .i64 x0) (.string X) (.int .i64 x2) (.int .i64 t.to) (.int .i64 x4)
        obtain ⟨fn, tmps, assign, body, hy, hRnd⟩ := hY _ (Nat.le_trans hdl.out hto2) hg hF3 (hT.fr hF3 (by simp))
        have hT3 := hT.fr hF3 (by simp)
        have hb3 := (hF3.block _ (Array.getElem?_eq_some_iff.1 hb).1 (by simp)).trans hb
        have hCz : Hid (wr.heap.size ≤ w2.heap.size) := hF.size
        gi_wp2
        refine ⟨rfl, hRnd.mono ?_⟩
        rintro e W' ⟨rfl, hM, hGQ⟩
        clear hRnd hy hY hread
        generalize w2.alloc (.cells #[.int .i64 x0, .string X, .int .i64 x2, .int .i64 t.to, .int .i64 x4] 43) = w3 at *
        generalize w2.heap.size = C at *
        have hlow : Hid (bx < wr.heap.size) := (Array.getElem?_eq_some_iff.1 hb).1
        obtain ⟨S, hFS, hS⟩ := hM
        have u4 : TB W' C _ _ _ _ _ := u3.fr hFS (fun hm => by have := (hS C hm).2.2; have := hCz.out; omega)
        have b4 := (hFS.block _ (Array.getElem?_eq_some_iff.1 hb3).1 (fun hm => (hS bx hm).2.1 rfl)).trans hb3
        have T4 := hT3.fr hFS (fun j hj => (hS j hj).1)
        have cx := at_cells b4 0 rfl
        have ct := u4.c3
        clear hS hFS u3 hb3 hT3 hF3 hF hT hb cb2 cb
        cases hgo : go (d ++ [t])
        · rw [hgo] at hres hGQ
          simp only [Bool.false_eq_true, if_false] at hres hGQ
          gi_wp2
          refine bodyPost_ret (results_none rfl _ _ _) rfl ?_
          rw [hres.out]
          exact ⟨⟨_, rfl⟩, hGQ⟩
        · rw [hgo] at hres hGQ
          simp only [if_true] at hres hGQ
          gi_wp2
          refine ⟨trivial, rfl, (callsIn_wide.2 (hskip W' T4)).mono ?_⟩
          rintro e W' ⟨rfl, rfl⟩
          gi_wp2
          go_roundw
          case rel => exact ⟨t.to, d ++ [t], hto2, (by have := hdl.out; show _ ≤ _; simp; exact this), rfl, hGQ, T4, b4, hres.out.symm⟩
          case measure => simp [intOf]; omega
    · have hsc := sc_end hk (by omega)
      have hres : Hid (walkT go [] (sc s 0).1 (sc s 0).2 = .inl d) := by
        show _ = _
        rw [← hr.out, hsc]
        rfl
      gi_wp2
      go_end0
      rw [hres.out]
      exact ⟨⟨_, rfl⟩, hE d _ hg⟩
end Go.Proofs.YtekjfddcbcijdaaGreatDoor
