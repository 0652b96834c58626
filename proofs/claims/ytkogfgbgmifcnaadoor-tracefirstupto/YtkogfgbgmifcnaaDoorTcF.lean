/-
  Whether a variable is made ahead of where the judge is; conditions: what lies in memory lies as told.
-/
import Derived.Test.YtkogfgbgmifcnaaDoorTcE
namespace Go.Proofs.YtkogfgbgmifcnaaDoor
open Go.RowKit Go.Shelf Go.Maps Go.ChangeShapes
set_option linter.unusedVariables false
set_option linter.unusedSimpArgs false
/-- An operation's number. -/
def AT.opN (a : AT) (i : Nat) : Int := ((a.ops[i]?).map (fun e => e.p.headD 0)).getD 0
/-- No variable, or one that is an input or made by an operation ahead. -/
def madeOk (a : AT) (p : Int) (s : Sr) : Bool := if s.k = 1 then (if s.n < (a.ins.length : Int) then true else decide (s.n - a.ins.length < p) && (rowP (a.opN (s.n - a.ins.length).toNat)).mkv) else true
theorem madeOk_in {a : AT} {p vk vn n : Int} (h : n < (a.ins.length : Int)) : madeOk a p ⟨1, vk, vn, n⟩ = true := by simp [madeOk, h]
theorem madeOk_op {a : AT} {p vk vn : Int} {i : Nat} : madeOk a p ⟨1, vk, vn, (a.ins.length : Int) + i⟩ = (decide ((i : Int) < p) && (rowP (a.opN i)).mkv) := by
  have e1 : (a.ins.length : Int) + i - (a.ins.length : Int) = i := by omega
  simp only [madeOk, if_true, e1, Int.toNat_natCast]
  rw [if_neg (by omega)]
theorem madeOk_no {a : AT} {p k vk vn n : Int} (h : k ≠ 1) : madeOk a p ⟨k, vk, vn, n⟩ = true := by simp [madeOk, h]
set_option maxRecDepth 100000 in
set_option maxHeartbeats 8000000 in
theorem made115 {w : World} {B : Nat} {t : Tr} {jb : Nat} {p : Int} {wp : Value} (ht : Tab w) (hT : TrOk w B t) (h : JB w jb t p wp) (hp : p ≤ t.ops.length) (s : Sr) (hs : s.w) : Calls Tryd.prog 115 #[.pointer (some ⟨jb, 0, none⟩), .agg s.cl.toArray] w (Jd (madeOk t.abs p s) p w) := by
  obtain ⟨k, vk, vn, n⟩ := s
  simp only [Sr.w, Sr.il, List.mem_cons, List.not_mem_nil, or_false, forall_eq_or_imp, forall_eq] at hs
  obtain ⟨hk, hvk, hvn, hn⟩ := hs
  have F1 : Fr [] w (w.alloc (.cells #[.int .i64 k, .int .i64 vk, .int .i64 vn, .int .i64 n] 51)) := (Fr.refl _ _).alloc _
  have hx := heap_alloc_new w (.cells #[.int .i64 k, .int .i64 vk, .int .i64 vn, .int .i64 n] 51)
  have hj := h.fr0 F1
  have nI : t.ins.length * 8 ≤ 140737488355328 := hT.ins.fit
  have nO : t.ops.length * 56 ≤ 140737488355328 := hT.ops.fit
  have nII : (t.ins.length : Int) ≤ 140737488355328 := by omega
  have h9 : IntKind.i64.min ≤ n ∧ n ≤ 9223372036854775807 := by simpa [Lit.wf, IntKind.i64] using hn
  have hw : -9223372036854775808 ≤ n ∧ n ≤ 9223372036854775807 := h9
  clear h9
  have HT : Hid (TrOk (w.alloc (.cells #[.int .i64 k, .int .i64 vk, .int .i64 vn, .int .i64 n] 51)) B t ∧ Tab (w.alloc (.cells #[.int .i64 k, .int .i64 vk, .int .i64 vn, .int .i64 n] 51))) := ⟨hT.fr0 F1, ht.fr0 F1⟩
  have HF : Hid (Fr [] w (w.alloc (.cells #[.int .i64 k, .int .i64 vk, .int .i64 vn, .int .i64 n] 51))) := F1
  have RF : Fr [] (w.alloc (.cells #[.int .i64 k, .int .i64 vk, .int .i64 vn, .int .i64 n] 51)) (w.alloc (.cells #[.int .i64 k, .int .i64 vk, .int .i64 vn, .int .i64 n] 51)) := Fr.refl _ _
  have HD : ∀ w' : World, Fr [] (w.alloc (.cells #[.int .i64 k, .int .i64 vk, .int .i64 vn, .int .i64 n] 51)) w' → Fr [] (w.alloc (.cells #[.int .i64 k, .int .i64 vk, .int .i64 vn, .int .i64 n] 51)) w'.drew := fun w' h => h.drew
  have m0 : ∀ w', Fr [] (w.alloc (.cells #[.int .i64 k, .int .i64 vk, .int .i64 vn, .int .i64 n] 51)) w' → w'.cell? ⟨w.heap.size, 0, none⟩ = some (.int .i64 k) := fun w' f => f.cell1 (at_cells hx 0 rfl) (by simp)
  have m2 : ∀ w', Fr [] (w.alloc (.cells #[.int .i64 k, .int .i64 vk, .int .i64 vn, .int .i64 n] 51)) w' → w'.cell? ⟨w.heap.size, 3, none⟩ = some (.int .i64 n) := fun w' f => f.cell1 (at_cells hx 3 rfl) (by simp)
  have j12 : ∀ w', Fr [] (w.alloc (.cells #[.int .i64 k, .int .i64 vk, .int .i64 vn, .int .i64 n] 51)) w' → w'.cell? ⟨jb, 12, none⟩ = some (.slice t.ia t.ins.length t.ic) := fun w' f => f.cell1 (at_cells hj 12 (t.jc_arr p wp t.at_ins)) (by simp)
  have j13 : ∀ w', Fr [] (w.alloc (.cells #[.int .i64 k, .int .i64 vk, .int .i64 vn, .int .i64 n] 51)) w' → w'.cell? ⟨jb, 13, none⟩ = some (.slice t.oa t.ops.length t.oc) := fun w' f => f.cell1 (at_cells hj 13 (t.jc_arr p wp t.at_ops)) (by simp)
  have j17 : ∀ w', Fr [] (w.alloc (.cells #[.int .i64 k, .int .i64 vk, .int .i64 vn, .int .i64 n] 51)) w' → w'.cell? ⟨jb, 17, none⟩ = some (.int .i64 p) := fun w' f => f.cell1 (at_cells hj 17 (t.jc_at p wp)) (by simp)
  have CW : ∀ (ok : Bool) w', Fr [] (w.alloc (.cells #[.int .i64 k, .int .i64 vk, .int .i64 vn, .int .i64 n] 51)) w' → Calls Tryd.prog 110 #[.pointer (some ⟨jb, 0, none⟩), .bool ok] w' _ := fun ok w' f => want_any (hj.fr0 f) ok
  clear hk hvk hvn hn h ht hx hj hT
  show Calls Tryd.prog 115 #[.pointer (some ⟨jb, 0, none⟩), .agg #[.int .i64 k, .int .i64 vk, .int .i64 vn, .int .i64 n]] w _
  unfold Jd
  by_cases k1 : k = 1
  · subst k1
    by_cases h0 : n < (t.ins.length : Int)
    · have hm : madeOk t.abs p ⟨1, vk, vn, n⟩ = true := madeOk_in h0
      rw [hm]
      simp only [if_true]
      have d0 : decide (n < (t.ins.length : Int)) = true := decide_eq_true h0
      clear hm h0 CW
      go_enter Tryd.func115, Tryd.ntmps115
      go_upto_region 1 with fail
      generalize w.alloc (.cells #[.int .i64 1, .int .i64 vk, .int .i64 vn, .int .i64 n] 51) = W0 at *
      go_region_held3 (fun w' : World => Fr [] W0 w') (with_reducible (first | assumption | exact HD _ (by assumption))) (fail)
      go_wp2
      exact bodyPost_ret (results_none rfl _ _ _) rfl ⟨rfl, HF.out.trans (HD _ RF)⟩
    · obtain ⟨i, rfl⟩ : ∃ i : Nat, n = (t.ins.length : Int) + i := ⟨(n - t.ins.length).toNat, by omega⟩
      have hm : madeOk t.abs p ⟨1, vk, vn, (t.ins.length : Int) + i⟩ = (decide ((i : Int) < p) && (rowP (t.abs.opN i)).mkv) := madeOk_op (a := t.abs)
      rw [hm]
      have d0 : decide ((t.ins.length : Int) + i < (t.ins.length : Int)) = false := decide_eq_false h0
      have hl1 : IntKind.i64.wrap ((t.ins.length : Int) + i - (t.ins.length : Int)) = i := by rw [IntKind.wrap_i64]; omega
      by_cases hip : (i : Int) < p
      · have hi : i < t.ops.length := by omega
        obtain ⟨e, he⟩ : ∃ e, t.ops[i]? = some e := ⟨_, List.getElem?_eq_getElem hi⟩
        have eo := HT.out.1.opl e (List.mem_of_getElem? he)
        obtain ⟨x0, hx0⟩ := len1 eo.hp
        have ho : t.abs.opN i = x0 := by
          show (((t.ops.map El.abs)[i]?).map (fun e => e.p.headD 0)).getD 0 = x0
          simp [he, El.abs, hx0]
        rw [ho, decide_eq_true hip, Bool.true_and]
        obtain ⟨b, o, e1, r1, _⟩ := HT.out.1.ops.elem (f := El.cl) (fun x hx => El.cl_len (HT.out.1.opl x hx)) (by omega) he
        have co := r1 0 (.int .i64 x0) (by simp [El.cl, hx0])
        rw [Nat.add_zero] at co
        rw [e1] at j13
        have jo : ∀ w', Fr [] (w.alloc (.cells #[.int .i64 1, .int .i64 vk, .int .i64 vn, .int .i64 ((t.ins.length : Int) + i)] 51)) w' → w'.cell? ⟨b, o + i * 5, none⟩ = some (.int .i64 x0) := fun w' f => f.cell1 co (by simp)
        have CM : ∀ w', Fr [] (w.alloc (.cells #[.int .i64 1, .int .i64 vk, .int .i64 vn, .int .i64 ((t.ins.length : Int) + i)] 51)) w' → Calls Tryd.prog 12 #[.int .i64 x0] w' fun e w'' => e = .returned (.bool (rowP x0).mkv) ∧ Fr [] w' w'' := fun w' f => makes12 (HT.out.2.fr0 f) x0
        have hiI : (i : Int) < t.ops.length := by omega
        have dp : decide ((i : Int) < p) = true := decide_eq_true hip
        have CW2 := fun w' f => CW (rowP x0).mkv w' f
        obtain ⟨mk, hmk⟩ : ∃ mk, mk = (rowP x0).mkv := ⟨_, rfl⟩
        rw [← hmk] at CM CW2 ⊢
        clear hm h0 CW hip he eo hx0 ho e1 r1 co hmk HT
        cases mk with
        | true =>
          simp only [if_true] at CW2 ⊢
          go_enter Tryd.func115, Tryd.ntmps115
          go_upto_region 1 with fail
          generalize w.alloc (.cells #[.int .i64 1, .int .i64 vk, .int .i64 vn, .int .i64 ((t.ins.length : Int) + i)] 51) = W0 at *
          go_region_held3 (fun w' : World => Fr [] W0 w') (with_reducible (first | assumption | exact HD _ (by assumption))) (fail)
          have G1 : Fr [] W0 W0.drew := HD _ RF
          go_upto_region 2 with fail
          go_region_held3 (fun w' : World => Fr [] W0 w') (with_reducible (first | assumption | exact HD _ (by assumption))) (fail)
          have G2 : Fr [] W0 W0.drew.drew := HD _ (HD _ RF)
          generalize W0.drew.drew = W2 at *
          have n17 := j17 _ G2
          have n13 := j13 _ G2
          have no := jo _ G2
          have C := CM _ G2
          clear jo CM
          go_wp2_with (first
            | (go_at_call 12; refine C.mono ?_; rintro e w3 ⟨rfl, f3⟩; have G3 := G2.trans f3; have HF3 := hid (HF.out.trans G3); clear C f3)
            | (go_at_call 110; with_reducible (refine (CW2 _ G3).mono ?_); rintro e w1 ⟨rfl, rfl⟩))
          go_end0
          exact ⟨rfl, HF3.out⟩
        | false =>
          simp only [Bool.false_eq_true, if_false] at CW2 ⊢
          unfold thrown at *
          go_enter Tryd.func115, Tryd.ntmps115
          go_upto_region 1 with fail
          generalize w.alloc (.cells #[.int .i64 1, .int .i64 vk, .int .i64 vn, .int .i64 ((t.ins.length : Int) + i)] 51) = W0 at *
          go_region_held3 (fun w' : World => Fr [] W0 w') (with_reducible (first | assumption | exact HD _ (by assumption))) (fail)
          have G1 : Fr [] W0 W0.drew := HD _ RF
          go_upto_region 2 with fail
          go_region_held3 (fun w' : World => Fr [] W0 w') (with_reducible (first | assumption | exact HD _ (by assumption))) (fail)
          have G2 : Fr [] W0 W0.drew.drew := HD _ (HD _ RF)
          generalize W0.drew.drew = W2 at *
          have n17 := j17 _ G2
          have n13 := j13 _ G2
          have no := jo _ G2
          have C := CM _ G2
          clear jo CM
          go_wp2_with (first
            | (go_at_call 12; refine C.mono ?_; rintro e w3 ⟨rfl, f3⟩; have G3 := G2.trans f3; have HF3 := hid (HF.out.trans G3); clear C f3)
            | (go_at_call 110; with_reducible (refine (CW2 _ G3).mono ?_); rintro e w1 ⟨rfl, rfl⟩))
          exact ⟨rfl, rfl, HF3.out⟩
      · have dp : decide ((i : Int) < p) = false := decide_eq_false hip
        rw [dp]
        have CW2 := fun w' f => CW false w' f
        clear hm h0 CW hip HT
        simp only [Bool.false_eq_true, if_false, Bool.false_and] at CW2 ⊢
        unfold thrown at *
        go_enter Tryd.func115, Tryd.ntmps115
        go_upto_region 1 with fail
        generalize w.alloc (.cells #[.int .i64 1, .int .i64 vk, .int .i64 vn, .int .i64 ((t.ins.length : Int) + i)] 51) = W0 at *
        go_region_held3 (fun w' : World => Fr [] W0 w') (with_reducible (first | assumption | exact HD _ (by assumption))) (fail)
        have G1 : Fr [] W0 W0.drew := HD _ RF
        go_upto_region 2 with fail
        go_region_held3 (fun w' : World => Fr [] W0 w') (with_reducible (first | assumption | exact HD _ (by assumption))) (fail)
        have G2 : Fr [] W0 W0.drew.drew := HD _ (HD _ RF)
        generalize W0.drew.drew = W2 at *
        have n17 := j17 _ G2
        go_wp2_with (go_at_call 110; with_reducible (refine (CW2 _ G2).mono ?_); rintro e w1 ⟨rfl, rfl⟩)
        exact ⟨rfl, rfl, HF.out.trans G2⟩
  · have hm : madeOk t.abs p ⟨k, vk, vn, n⟩ = true := madeOk_no k1
    rw [hm]
    simp only [if_true]
    have q1 : (k != 1) = true := by simpa using k1
    have q2 : (k == 1) = false := beq_int_false k1
    clear hm CW k1
    go_enter Tryd.func115, Tryd.ntmps115
    go_upto_region 1 with fail
    generalize w.alloc (.cells #[.int .i64 k, .int .i64 vk, .int .i64 vn, .int .i64 n] 51) = W0 at *
    have n0 := m0 _ RF
    go_quiet (fail)
    go_wp2
    exact bodyPost_ret (results_none rfl _ _ _) rfl ⟨rfl, HF.out.trans (Fr.drawn _)⟩
end Go.Proofs.YtkogfgbgmifcnaaDoor
