/-
  An operation is looked at, with what its link takes; conditions: the judge, the trace, the walk lie as told.
-/
import Derived.Test.YtkogfgbgmifcnaaDoorTcO
namespace Go.Proofs.YtkogfgbgmifcnaaDoor
open Go.RowKit Go.Shelf Go.Maps Go.ChangeShapes
set_option linter.unusedVariables false
set_option linter.unusedSimpArgs false
attribute [local go_sem] Oper.semAt_some store_func
def chainT (p : Int) : List PanicEntry := [{ v := .iface 107 (.agg #[.int .i64 p]), recovered := false }]
theorem bodyPostM_panic {F : Fence} {n : Nat} {P : Program} {fn : Func} {R : Ending → World → Prop} {c : List PanicEntry} {a : Act} {w : World} (hd : a.defers = []) (h : R (.panicked c) w) : bodyPostM F n P fn R (.panic c) a w := by
  show LeavesInM F n P fn a.tmps R a.defers (.panicking c) w
  rw [hd]
  exact h
theorem wpList_ld48 {ops : Array Oper} {rest : List Oper} {o : Oper} {a : Act} {w : World} {Q : Exit → Act → World → Prop} (hgd : o.guard = none) (x : Operand) (ho : o.op = .load 48 x)
    (g : Nat) (hx : a.eval x = .pointer (some ⟨g, 0, none⟩)) (A : Array Value) (hA : A.size = 5) (hg : w.heap[g]? = some (.cells A 48 (0, 0)))
    (h : wpList Tryd.prog ops Q rest (a.put o.dst (.agg A)) w) : wpList Tryd.prog ops Q (o :: rest) a w :=
  wpList_load_row hgd 48 x ho g hx 48 A (0, 0) _ hg Tryd.underlying48 rfl (by rw [hA]; exact info48) h
set_option maxRecDepth 100000 in
set_option maxHeartbeats 16000000 in
theorem operation93 {w0 w : World} {B : Nat} {t : Tr} {jb wb lk vk : Nat} {m : MK} {p : Int} (sp : TellSpec t) (hF : Fr [] w0 w) (ht : Tab w0) (hT : TrOk w0 B t) (hg : GoodT t.abs) (hj : JB w jb t p (.pointer (some ⟨wb, 0, none⟩))) (hw : WK w wb lk vk t m)
    (hlo : w0.heap.size ≤ jb ∧ w0.heap.size ≤ wb ∧ w0.heap.size ≤ lk ∧ w0.heap.size ≤ vk) (hp : p ≤ t.ops.length) {o k cc sn : Int} {a : Option Addr} {c : Nat} {l : List Sr} (hsl : SL w0 B 51 a l.length c 4 32 (flatS l)) (hlw : ∀ s ∈ l, s.w) :
    Calls Tryd.prog 93 #[.pointer (some ⟨jb, 0, none⟩), .agg #[.int .i64 o, .slice a l.length c, .int .i64 k, .int .i64 cc, .int .i64 sn]] w fun e w' => Fr [] w0 w' ∧ ((opOk t.abs m p o l k cc sn = true ∧ e = .returned (.tuple #[]) ∧ JB w' jb t p (.pointer (some ⟨wb, 0, none⟩)) ∧ WK w' wb lk vk t (walkP t.abs m sn).2) ∨ (opOk t.abs m p o l k cc sn = false ∧ e = thrown p)) := by
  obtain ⟨R, hR⟩ : ∃ R : Ending → World → Prop, R = fun e w' => Fr [] w0 w' ∧ ((opOk t.abs m p o l k cc sn = true ∧ e = .returned (.tuple #[]) ∧ JB w' jb t p (.pointer (some ⟨wb, 0, none⟩)) ∧ WK w' wb lk vk t (walkP t.abs m sn).2) ∨ (opOk t.abs m p o l k cc sn = false ∧ e = thrown p)) := ⟨_, rfl⟩
  rw [← hR]
  have HNO : Hid (∀ c w', (c = chainT p ∧ Fr [] w0 w' ∧ opOk t.abs m p o l k cc sn = false) → R (.panicked c) w') := by
    rintro c w' ⟨rfl, f, h⟩
    rw [hR]
    exact ⟨f, .inr ⟨h, rfl⟩⟩
  have HYE : Hid (opOk t.abs m p o l k cc sn = true → ∀ w', Fr [] w0 w' → JB w' jb t p (.pointer (some ⟨wb, 0, none⟩)) → WK w' wb lk vk t (walkP t.abs m sn).2 → R (.returned (.tuple #[])) w') := by
    intro h w' f h1 h2
    rw [hR]
    exact ⟨f, .inl ⟨h, rfl, h1, h2⟩⟩
  clear hR
  have F1 : Fr [] w ((w.alloc (.cells #[.pointer (some ⟨jb, 0, none⟩)] 134)).alloc (.cells #[.int .i64 o, .slice a l.length c, .int .i64 k, .int .i64 cc, .int .i64 sn] 48)) := ((Fr.refl _ _).alloc _).alloc _
  have bx2 : ((w.alloc (.cells #[.pointer (some ⟨jb, 0, none⟩)] 134)).alloc (.cells #[.int .i64 o, .slice a l.length c, .int .i64 k, .int .i64 cc, .int .i64 sn] 48)).heap[w.heap.size]? = some (.cells #[.pointer (some ⟨jb, 0, none⟩)] 134 (0, 0)) := (((Fr.refl [] (w.alloc (.cells #[.pointer (some ⟨jb, 0, none⟩)] 134))).alloc _).block _ (by simp) (by simp)).trans (heap_alloc_new w _)
  have bx3 : ((w.alloc (.cells #[.pointer (some ⟨jb, 0, none⟩)] 134)).alloc (.cells #[.int .i64 o, .slice a l.length c, .int .i64 k, .int .i64 cc, .int .i64 sn] 48)).heap[w.heap.size + 1]? = some (.cells #[.int .i64 o, .slice a l.length c, .int .i64 k, .int .i64 cc, .int .i64 sn] 48 (0, 0)) := blk2 w _ _
  have HF0 : Hid (Fr [] w0 ((w.alloc (.cells #[.pointer (some ⟨jb, 0, none⟩)] 134)).alloc (.cells #[.int .i64 o, .slice a l.length c, .int .i64 k, .int .i64 cc, .int .i64 sn] 48))) := hF.trans F1
  have hj1 := hj.fr0 F1
  have m2 : ∀ w', Fr [] ((w.alloc (.cells #[.pointer (some ⟨jb, 0, none⟩)] 134)).alloc (.cells #[.int .i64 o, .slice a l.length c, .int .i64 k, .int .i64 cc, .int .i64 sn] 48)) w' → w'.cell? ⟨w.heap.size, 0, none⟩ = some (.pointer (some ⟨jb, 0, none⟩)) := fun w' f => f.cell1 (at_cells bx2 0 rfl) (by simp)
  have x0 : ∀ w', Fr [] ((w.alloc (.cells #[.pointer (some ⟨jb, 0, none⟩)] 134)).alloc (.cells #[.int .i64 o, .slice a l.length c, .int .i64 k, .int .i64 cc, .int .i64 sn] 48)) w' → w'.cell? ⟨w.heap.size + 1, 0, none⟩ = some (.int .i64 o) := fun w' f => f.cell1 (at_cells bx3 0 rfl) (by simp)
  have x2 : ∀ w', Fr [] ((w.alloc (.cells #[.pointer (some ⟨jb, 0, none⟩)] 134)).alloc (.cells #[.int .i64 o, .slice a l.length c, .int .i64 k, .int .i64 cc, .int .i64 sn] 48)) w' → w'.cell? ⟨w.heap.size + 1, 2, none⟩ = some (.int .i64 k) := fun w' f => f.cell1 (at_cells bx3 2 rfl) (by simp)
  have x3 : ∀ w', Fr [] ((w.alloc (.cells #[.pointer (some ⟨jb, 0, none⟩)] 134)).alloc (.cells #[.int .i64 o, .slice a l.length c, .int .i64 k, .int .i64 cc, .int .i64 sn] 48)) w' → w'.cell? ⟨w.heap.size + 1, 3, none⟩ = some (.int .i64 cc) := fun w' f => f.cell1 (at_cells bx3 3 rfl) (by simp)
  have x4 : ∀ w', Fr [] ((w.alloc (.cells #[.pointer (some ⟨jb, 0, none⟩)] 134)).alloc (.cells #[.int .i64 o, .slice a l.length c, .int .i64 k, .int .i64 cc, .int .i64 sn] 48)) w' → w'.cell? ⟨w.heap.size + 1, 4, none⟩ = some (.int .i64 sn) := fun w' f => f.cell1 (at_cells bx3 4 rfl) (by simp)
  have j14 : ∀ w', Fr [] ((w.alloc (.cells #[.pointer (some ⟨jb, 0, none⟩)] 134)).alloc (.cells #[.int .i64 o, .slice a l.length c, .int .i64 k, .int .i64 cc, .int .i64 sn] 48)) w' → w'.cell? ⟨jb, 14, none⟩ = some (.slice t.la t.links.length t.lc) := fun w' f => f.cell1 (at_cells hj1 14 (t.jc_arr p _ t.at_links)) (by simp)
  have j18 : ∀ w', Fr [] ((w.alloc (.cells #[.pointer (some ⟨jb, 0, none⟩)] 134)).alloc (.cells #[.int .i64 o, .slice a l.length c, .int .i64 k, .int .i64 cc, .int .i64 sn] 48)) w' → w'.cell? ⟨jb, 18, none⟩ = some (.pointer (some ⟨wb, 0, none⟩)) := fun w' f => f.cell1 (at_cells hj1 18 (t.jc_wp p _)) (by simp)
  have JSx : ∀ w', Fr [] ((w.alloc (.cells #[.pointer (some ⟨jb, 0, none⟩)] 134)).alloc (.cells #[.int .i64 o, .slice a l.length c, .int .i64 k, .int .i64 cc, .int .i64 sn] 48)) w' → JS w' B t jb p (.pointer (some ⟨wb, 0, none⟩)) := fun w' f => ⟨ht.fr0 (HF0.out.trans f), hT.fr0 (HF0.out.trans f), hj1.fr0 f⟩
  have HX : Hid (((w.alloc (.cells #[.pointer (some ⟨jb, 0, none⟩)] 134)).alloc (.cells #[.int .i64 o, .slice a l.length c, .int .i64 k, .int .i64 cc, .int .i64 sn] 48)).heap[w.heap.size + 1]? = some (.cells #[.int .i64 o, .slice a l.length c, .int .i64 k, .int .i64 cc, .int .i64 sn] 48 (0, 0)) ∧ WK ((w.alloc (.cells #[.pointer (some ⟨jb, 0, none⟩)] 134)).alloc (.cells #[.int .i64 o, .slice a l.length c, .int .i64 k, .int .i64 cc, .int .i64 sn] 48)) wb lk vk t m ∧ (∀ w', Fr [] ((w.alloc (.cells #[.pointer (some ⟨jb, 0, none⟩)] 134)).alloc (.cells #[.int .i64 o, .slice a l.length c, .int .i64 k, .int .i64 cc, .int .i64 sn] 48)) w' → SL w' B 51 a l.length c 4 32 (flatS l))) := ⟨bx3, hw.fr0 F1, fun w' f => hsl.fr (HF0.out.trans f) (Away.nil _ _)⟩
  have HG : Hid (TellSpec t ∧ TrOk w0 B t ∧ GoodT t.abs ∧ (w0.heap.size ≤ jb ∧ w0.heap.size ≤ wb ∧ w0.heap.size ≤ lk ∧ w0.heap.size ≤ vk) ∧ p ≤ t.ops.length ∧ (∀ s ∈ l, s.w) ∧ Tab w0) := ⟨sp, hT, hg, hlo, hp, hlw, ht⟩
  have HZ2 : Hid (((w.alloc (.cells #[.pointer (some ⟨jb, 0, none⟩)] 134)).alloc (.cells #[.int .i64 o, .slice a l.length c, .int .i64 k, .int .i64 cc, .int .i64 sn] 48)).heap[w.heap.size]? = some (.cells #[.pointer (some ⟨jb, 0, none⟩)] 134 (0, 0)) ∧ w0.heap.size ≤ w.heap.size) := ⟨bx2, hF.size⟩
  have HOP : Hid (opOk t.abs m p o l k cc sn = ((!decide ((rowP o).nm = []) && (argsOk t.abs p o l && (kOk o k && (cOk o cc && snOk t.abs.links.length sn)))) && (walkP t.abs m sn).1.all (madeOk t.abs p))) := rfl
  obtain ⟨kn, hkn⟩ : ∃ kn, kn = !decide ((rowP o).nm = []) := ⟨_, rfl⟩
  have HKN : Hid (kn = !decide ((rowP o).nm = [])) := hkn
  rw [← hkn] at HOP
  have hS : Fr [] ((w.alloc (.cells #[.pointer (some ⟨jb, 0, none⟩)] 134)).alloc (.cells #[.int .i64 o, .slice a l.length c, .int .i64 k, .int .i64 cc, .int .i64 sn] 48)) ((w.alloc (.cells #[.pointer (some ⟨jb, 0, none⟩)] 134)).alloc (.cells #[.int .i64 o, .slice a l.length c, .int .i64 k, .int .i64 cc, .int .i64 sn] 48)) := Fr.refl _ _
  have nLI : (t.links.length : Int) ≤ 140737488355328 := by have := hT.links.fit; omega
  clear sp hF ht hT hg hj hw hlo hp hsl hlw F1 bx2 bx3 hj1 hkn
  refine calls_of_wpAt Tryd.func93 rfl ?_
  simp only [Tryd.ntmps93, List.size_toArray, List.length_cons, List.length_nil, Nat.reduceAdd, Nat.reduceSub, Array.replicate_succ, Array.replicate_zero, List.push_toArray, List.append_toArray, List.nil_append, List.cons_append]
  refine wpAt_seq_k ?_
  intro K hKs
  go_wp2
  generalize (w.alloc (.cells #[.pointer (some ⟨jb, 0, none⟩)] 134)).alloc (.cells #[.int .i64 o, .slice a l.length c, .int .i64 k, .int .i64 cc, .int .i64 sn] 48) = W0 at *
  generalize hb2 : w.heap.size = b2 at *
  generalize hb3 : b2 + 1 = b3 at *
  clear hb2 hb3
  refine wpAt_seq_k ?_
  intro K hKs
  refine reg_inT (fun w' => Fr [] W0 w') (fun a w => K a w) (fun c w' => c = chainT p ∧ Fr [] w0 w' ∧ opOk t.abs m p o l k cc sn = false) (fun _ _ h => h) (fun c a w hd h => bodyPostM_panic hd (HNO.out c w h)) ?_
  have hS : Fr [] W0 W0.drew := hS.drew
  generalize W0.drew = Y at *
  refine tkT 0 (some 7) (.pointer (some ⟨jb, 0, none⟩)) rfl rfl (Or.inl ⟨rfl, fun wq hSq => by have q := m2 wq hSq; go_simp⟩) (by decide +kernel) hS ?_
  simp only [Act.put, List.setIfInBounds_toArray, List.set_cons_zero, List.set_cons_succ]
  refine tkT 1 (some 8) (.pointer (some ⟨b3, 0, none⟩)) rfl rfl (Or.inl ⟨rfl, fun wq hSq => by first | rfl | go_simp⟩) (by decide +kernel) hS ?_
  simp only [Act.put, List.setIfInBounds_toArray, List.set_cons_zero, List.set_cons_succ]
  refine tkT 2 (some 9) (.int .i64 o) rfl rfl (Or.inl ⟨rfl, fun wq hSq => by have q := x0 wq hSq; go_simp⟩) (by decide +kernel) hS ?_
  simp only [Act.put, List.setIfInBounds_toArray, List.set_cons_zero, List.set_cons_succ]
  refine wpAnyH_ready (rs := [3]) (by decide +kernel) (by simp) ?_
  refine AllReadyH.cons rfl (fun K hK => ?_) AllReadyH.nil
  go_simp
  refine (known60 (JSx _ hS).tab o).mono ?_
  rintro e Y1 ⟨rfl, f1⟩
  rw [← HKN.out]
  have hS := hS.trans f1
  clear f1
  refine hK.out _ _ hS (fun _ => ?_)
  clear hK K
  try simp only [List.getElem_toArray, List.getElem_cons_succ, List.getElem_cons_zero, Act.put, List.setIfInBounds_toArray, List.set_cons_zero, List.set_cons_succ]
  refine wpAnyH_ready (rs := [4]) (by decide +kernel) (by simp) ?_
  refine AllReadyH.cons rfl (fun K hK => ?_) AllReadyH.nil
  go_simp
  refine (want_any (JSx _ hS).jb kn).mono ?_
  rintro e Y2 ⟨rfl, rfl⟩
  obtain hb | hb : kn = false ∨ kn = true := by cases kn <;> simp
  · simp only [hb, Bool.false_eq_true, if_false, thrown]
    exact .inr ⟨_, rfl, rfl, rfl, HF0.out.trans hS, by rw [HOP.out, hb]; rfl⟩
  have HB1 : Hid (kn = true) := hb
  simp only [hb, if_true]
  refine hK.out _ _ hS (fun _ => ?_)
  clear hb
  clear hK K
  try simp only [List.getElem_toArray, List.getElem_cons_succ, List.getElem_cons_zero, Act.put, List.setIfInBounds_toArray, List.set_cons_zero, List.set_cons_succ]
  refine wpAnyH_done (by decide +kernel) ?_ _
  refine plainT_end ?_
  refine hKs _ _ ?_
  clear hKs K
  have CA := arguments112 (JSx _ hS) HG.out.2.2.2.2.1 (o := o) (k := k) (cc := cc) (sn := sn) (HX.out.2.2 _ hS) HG.out.2.2.2.2.2.1
  have n2 := m2 _ hS
  have B3 : Hid (Y2.heap[b3]? = some (.cells #[.int .i64 o, .slice a l.length c, .int .i64 k, .int .i64 cc, .int .i64 sn] 48 (0, 0))) := (hS.block _ (Array.getElem?_eq_some_iff.1 HX.out.1).1 (by simp)).trans HX.out.1
  unfold Jd at CA
  obtain ha | ha : argsOk t.abs p o l = false ∨ argsOk t.abs p o l = true := by cases argsOk t.abs p o l <;> simp
  · rw [ha] at CA
    simp only [Bool.false_eq_true, if_false, thrown] at CA
    have HE : Hid (opOk t.abs m p o l k cc sn = false) := by unfold Hid; rw [HOP.out, ha]; simp
    refine wpAt_seq_k ?_
    intro K hKs
    go_wp2_with (first
      | refine wpList_ld48 rfl (.tmp 3) rfl b3 rfl #[.int .i64 o, .slice a l.length c, .int .i64 k, .int .i64 cc, .int .i64 sn] rfl B3.out ?_
      | (go_at_call 112; refine CA.mono ?_; rintro e Y3 ⟨rfl, f3⟩))
    exact bodyPostM_panic rfl (HNO.out _ _ ⟨rfl, HF0.out.trans (hS.trans f3), HE.out⟩)
  rw [ha] at CA
  simp only [if_true] at CA
  have HB2 : Hid (argsOk t.abs p o l = true) := ha
  clear ha
  refine wpAt_seq_k ?_
  intro K hKs
  go_wp2_with (first
    | refine wpList_ld48 rfl (.tmp 3) rfl b3 rfl #[.int .i64 o, .slice a l.length c, .int .i64 k, .int .i64 cc, .int .i64 sn] rfl B3.out ?_
    | (go_at_call 112; refine CA.mono ?_; rintro e Y3 ⟨rfl, f3⟩; have hS := hS.trans f3; clear f3 n2 CA))
  clear B3
  have n0 := x0 _ hS
  have n2 := m2 _ hS
  have nx2 := x2 _ hS
  have CK := kBounds113 Y3 o
  refine wpAt_seq_k ?_
  intro K hKs
  go_wp2_with (go_at_call 113; refine CK.mono ?_; rintro e Y4 ⟨rfl, rfl⟩)
  clear CK n0
  have HK : Hid (kOk o k = (decide ((kB o).1 ≤ k) && decide (k ≤ (kB o).2))) := rfl
  generalize (kB o).1 = lo at *
  generalize (kB o).2 = hi at *
  have CW := fun ok : Bool => want_any (JSx _ hS).jb ok
  obtain hk | hk : kOk o k = false ∨ kOk o k = true := by cases kOk o k <;> simp
  · have HE : Hid (opOk t.abs m p o l k cc sn = false) := by unfold Hid; rw [HOP.out, hk]; simp
    have CW2 := CW false
    simp only [Bool.false_eq_true, if_false, thrown] at CW2
    refine wpAt_seq_k ?_
    intro K hKs
    by_cases h1 : lo ≤ k
    · have d1 : decide (lo ≤ k) = true := decide_eq_true h1
      have d2 : decide (k ≤ hi) = false := by
        have h9 := hk
        rw [HK.out, d1] at h9
        simpa using h9
      clear hk CW h1
      go_wp2_with (go_at_call 110; refine CW2.mono ?_; rintro e Y5 ⟨rfl, rfl⟩)
      exact bodyPostM_panic rfl (HNO.out _ _ ⟨rfl, HF0.out.trans hS, HE.out⟩)
    · have d1 : decide (lo ≤ k) = false := decide_eq_false h1
      clear hk CW h1
      go_wp2_with (go_at_call 110; refine CW2.mono ?_; rintro e Y5 ⟨rfl, rfl⟩)
      exact bodyPostM_panic rfl (HNO.out _ _ ⟨rfl, HF0.out.trans hS, HE.out⟩)
  have HB3 : Hid (kOk o k = true) := hk
  have hkk := hk
  rw [HK.out] at hkk
  simp only [Bool.and_eq_true] at hkk
  obtain ⟨d1, d2⟩ := hkk
  have CW2 := CW true
  simp only [if_true] at CW2
  clear hk CW
  refine wpAt_seq_k ?_
  intro K hKs
  go_wp2_with (go_at_call 110; refine CW2.mono ?_; rintro e Y5 ⟨rfl, rfl⟩)
  clear d1 d2 CW2 n2 nx2 HK
  refine wpAt_seq_k ?_
  intro K hKs
  refine reg_inT (fun w' => Fr [] W0 w') (fun a w => K a w) (fun c w' => c = chainT p ∧ Fr [] w0 w' ∧ opOk t.abs m p o l k cc sn = false) (fun _ _ h => h) (fun c a w hd h => bodyPostM_panic hd (HNO.out c w h)) ?_
  have hS : Fr [] W0 Y5.drew := hS.drew
  generalize Y5.drew = Y at *
  refine tkT 0 (some 33) (.pointer (some ⟨jb, 0, none⟩)) rfl rfl (Or.inl ⟨rfl, fun wq hSq => by have q := m2 wq hSq; go_simp⟩) (by decide +kernel) hS ?_
  simp only [Act.put, List.setIfInBounds_toArray, List.set_cons_zero, List.set_cons_succ]
  refine tkT 1 (some 34) (.pointer (some ⟨b3, 3, none⟩)) rfl rfl (Or.inl ⟨rfl, fun wq hSq => by first | rfl | go_simp⟩) (by decide +kernel) hS ?_
  simp only [Act.put, List.setIfInBounds_toArray, List.set_cons_zero, List.set_cons_succ]
  refine tkT 2 (some 35) (.int .i64 cc) rfl rfl (Or.inl ⟨rfl, fun wq hSq => by have q := x3 wq hSq; go_simp⟩) (by decide +kernel) hS ?_
  simp only [Act.put, List.setIfInBounds_toArray, List.set_cons_zero, List.set_cons_succ]
  refine tkT 3 (some 36) (.pointer (some ⟨b3, 0, none⟩)) rfl rfl (Or.inl ⟨rfl, fun wq hSq => by first | rfl | go_simp⟩) (by decide +kernel) hS ?_
  simp only [Act.put, List.setIfInBounds_toArray, List.set_cons_zero, List.set_cons_succ]
  refine tkT 4 (some 37) (.int .i64 o) rfl rfl (Or.inl ⟨rfl, fun wq hSq => by have q := x0 wq hSq; go_simp⟩) (by decide +kernel) hS ?_
  simp only [Act.put, List.setIfInBounds_toArray, List.set_cons_zero, List.set_cons_succ]
  refine wpAnyH_ready (rs := [5]) (by decide +kernel) (by simp) ?_
  refine AllReadyH.cons rfl (fun K hK => ?_) AllReadyH.nil
  go_simp
  refine (cBound114 _ o).mono ?_
  rintro e Z1 ⟨rfl, rfl⟩
  refine hK.out _ _ hS (fun _ => ?_)
  clear hK K
  try simp only [List.getElem_toArray, List.getElem_cons_succ, List.getElem_cons_zero, Act.put, List.setIfInBounds_toArray, List.set_cons_zero, List.set_cons_succ]
  refine wpAnyH_ready (rs := [6]) (by decide +kernel) (by simp) ?_
  refine AllReadyH.cons rfl (fun K hK => ?_) AllReadyH.nil
  go_simp
  refine (within_any (JSx _ hS).jb cc 0 (cB o)).mono ?_
  rintro e Y5 ⟨rfl, rfl⟩
  obtain hb | hb : (decide (0 ≤ cc) && decide (cc ≤ cB o)) = false ∨ (decide (0 ≤ cc) && decide (cc ≤ cB o)) = true := by cases (decide (0 ≤ cc) && decide (cc ≤ cB o)) <;> simp
  · simp only [hb, Bool.false_eq_true, if_false, thrown]
    exact .inr ⟨_, rfl, rfl, rfl, HF0.out.trans hS, by rw [HOP.out, show cOk o cc = (decide (0 ≤ cc) && decide (cc ≤ cB o)) from rfl, hb]; simp⟩
  have HBY5 : Hid ((decide (0 ≤ cc) && decide (cc ≤ cB o)) = true) := hb
  simp only [hb, if_true]
  refine hK.out _ _ hS (fun _ => ?_)
  clear hb
  clear hK K
  try simp only [List.getElem_toArray, List.getElem_cons_succ, List.getElem_cons_zero, Act.put, List.setIfInBounds_toArray, List.set_cons_zero, List.set_cons_succ]
  refine wpAnyH_done (by decide +kernel) ?_ _
  refine plainT_end ?_
  refine hKs _ _ ?_
  clear hKs K
  have hl1 : IntKind.i64.wrap ((t.links.length : Int) - 1) = (t.links.length : Int) - 1 := by rw [IntKind.wrap_i64]; omega
  refine wpAt_seq_k ?_
  intro K hKs
  refine reg_inT (fun w' => Fr [] W0 w') (fun a w => K a w) (fun c w' => c = chainT p ∧ Fr [] w0 w' ∧ opOk t.abs m p o l k cc sn = false) (fun _ _ h => h) (fun c a w hd h => bodyPostM_panic hd (HNO.out c w h)) ?_
  have hS : Fr [] W0 Y5.drew := hS.drew
  generalize Y5.drew = Y at *
  refine tkT 0 (some 40) (.pointer (some ⟨jb, 0, none⟩)) rfl rfl (Or.inl ⟨rfl, fun wq hSq => by have q := m2 wq hSq; go_simp⟩) (by decide +kernel) hS ?_
  simp only [Act.put, List.setIfInBounds_toArray, List.set_cons_zero, List.set_cons_succ]
  refine tkT 1 (some 41) (.pointer (some ⟨b3, 4, none⟩)) rfl rfl (Or.inl ⟨rfl, fun wq hSq => by first | rfl | go_simp⟩) (by decide +kernel) hS ?_
  simp only [Act.put, List.setIfInBounds_toArray, List.set_cons_zero, List.set_cons_succ]
  refine tkT 2 (some 42) (.int .i64 sn) rfl rfl (Or.inl ⟨rfl, fun wq hSq => by have q := x4 wq hSq; go_simp⟩) (by decide +kernel) hS ?_
  simp only [Act.put, List.setIfInBounds_toArray, List.set_cons_zero, List.set_cons_succ]
  refine tkT 3 (some 43) (.pointer (some ⟨jb, 0, none⟩)) rfl rfl (Or.inl ⟨rfl, fun wq hSq => by have q := m2 wq hSq; go_simp⟩) (by decide +kernel) hS ?_
  simp only [Act.put, List.setIfInBounds_toArray, List.set_cons_zero, List.set_cons_succ]
  refine tkT 4 (some 44) (.pointer (some ⟨jb, 0, none⟩)) rfl rfl (Or.inl ⟨rfl, fun wq hSq => by first | rfl | go_simp⟩) (by decide +kernel) hS ?_
  simp only [Act.put, List.setIfInBounds_toArray, List.set_cons_zero, List.set_cons_succ]
  refine tkT 5 (some 45) (.pointer (some ⟨jb, 0, none⟩)) rfl rfl (Or.inl ⟨rfl, fun wq hSq => by first | rfl | go_simp⟩) (by decide +kernel) hS ?_
  simp only [Act.put, List.setIfInBounds_toArray, List.set_cons_zero, List.set_cons_succ]
  refine tkT 6 (some 46) (.pointer (some ⟨jb, 14, none⟩)) rfl rfl (Or.inl ⟨rfl, fun wq hSq => by first | rfl | go_simp⟩) (by decide +kernel) hS ?_
  simp only [Act.put, List.setIfInBounds_toArray, List.set_cons_zero, List.set_cons_succ]
  refine tkT 7 (some 47) (.slice t.la t.links.length t.lc) rfl rfl (Or.inl ⟨rfl, fun wq hSq => by have q := j14 wq hSq; go_simp⟩) (by decide +kernel) hS ?_
  simp only [Act.put, List.setIfInBounds_toArray, List.set_cons_zero, List.set_cons_succ]
  refine tkT 8 (some 48) (.int .i64 (t.links.length : Int)) rfl rfl (Or.inl ⟨rfl, fun wq hSq => by go_simp⟩) (by decide +kernel) hS ?_
  simp only [Act.put, List.setIfInBounds_toArray, List.set_cons_zero, List.set_cons_succ]
  refine tkT 9 (some 49) (.int .i64 ((t.links.length : Int) - 1)) rfl rfl (Or.inl ⟨rfl, fun wq hSq => by go_simp⟩) (by decide +kernel) hS ?_
  simp only [Act.put, List.setIfInBounds_toArray, List.set_cons_zero, List.set_cons_succ]
  refine wpAnyH_ready (rs := [10]) (by decide +kernel) (by simp) ?_
  refine AllReadyH.cons rfl (fun K hK => ?_) AllReadyH.nil
  go_simp
  refine (within_any (JSx _ hS).jb sn (-1) ((t.links.length : Int) - 1)).mono ?_
  rintro e Y6 ⟨rfl, rfl⟩
  obtain hb | hb : (decide (-1 ≤ sn) && decide (sn ≤ (t.links.length : Int) - 1)) = false ∨ (decide (-1 ≤ sn) && decide (sn ≤ (t.links.length : Int) - 1)) = true := by cases (decide (-1 ≤ sn) && decide (sn ≤ (t.links.length : Int) - 1)) <;> simp
  · simp only [hb, Bool.false_eq_true, if_false, thrown]
    exact .inr ⟨_, rfl, rfl, rfl, HF0.out.trans hS, by rw [HOP.out, show snOk t.abs.links.length sn = (decide (-1 ≤ sn) && decide (sn ≤ (t.links.length : Int) - 1)) by unfold snOk; rw [show t.abs.links.length = t.links.length by simp [Tr.abs]], hb]; simp⟩
  have HBY6 : Hid ((decide (-1 ≤ sn) && decide (sn ≤ (t.links.length : Int) - 1)) = true) := hb
  simp only [hb, if_true]
  refine hK.out _ _ hS (fun _ => ?_)
  clear hb
  clear hK K
  try simp only [List.getElem_toArray, List.getElem_cons_succ, List.getElem_cons_zero, Act.put, List.setIfInBounds_toArray, List.set_cons_zero, List.set_cons_succ]
  refine wpAnyH_done (by decide +kernel) ?_ _
  refine plainT_end ?_
  refine hKs _ _ ?_
  clear hKs K
  refine wpAt_seq_k ?_
  intro K hKs
  refine reg_inT (fun w' => Fr [] W0 w') (fun a w => K a w) (fun c w' => c = chainT p ∧ Fr [] w0 w' ∧ opOk t.abs m p o l k cc sn = false) (fun _ _ h => h) (fun c a w hd h => bodyPostM_panic hd (HNO.out c w h)) ?_
  have hS : Fr [] W0 Y6.drew := hS.drew
  generalize Y6.drew = Y at *
  refine tkT 0 (some 51) (.pointer (some ⟨jb, 0, none⟩)) rfl rfl (Or.inl ⟨rfl, fun wq hSq => by have q := m2 wq hSq; go_simp⟩) (by decide +kernel) hS ?_
  simp only [Act.put, List.setIfInBounds_toArray, List.set_cons_zero, List.set_cons_succ]
  refine tkT 1 (some 52) (.pointer (some ⟨jb, 0, none⟩)) rfl rfl (Or.inl ⟨rfl, fun wq hSq => by first | rfl | go_simp⟩) (by decide +kernel) hS ?_
  simp only [Act.put, List.setIfInBounds_toArray, List.set_cons_zero, List.set_cons_succ]
  refine tkT 2 (some 53) (.pointer (some ⟨jb, 18, none⟩)) rfl rfl (Or.inl ⟨rfl, fun wq hSq => by first | rfl | go_simp⟩) (by decide +kernel) hS ?_
  simp only [Act.put, List.setIfInBounds_toArray, List.set_cons_zero, List.set_cons_succ]
  refine tkT 3 (some 54) (.pointer (some ⟨wb, 0, none⟩)) rfl rfl (Or.inl ⟨rfl, fun wq hSq => by have q := j18 wq hSq; go_simp⟩) (by decide +kernel) hS ?_
  simp only [Act.put, List.setIfInBounds_toArray, List.set_cons_zero, List.set_cons_succ]
  refine tkT 4 (some 55) (.pointer (some ⟨b3, 4, none⟩)) rfl rfl (Or.inl ⟨rfl, fun wq hSq => by first | rfl | go_simp⟩) (by decide +kernel) hS ?_
  simp only [Act.put, List.setIfInBounds_toArray, List.set_cons_zero, List.set_cons_succ]
  refine tkT 5 (some 56) (.int .i64 sn) rfl rfl (Or.inl ⟨rfl, fun wq hSq => by have q := x4 wq hSq; go_simp⟩) (by decide +kernel) hS ?_
  simp only [Act.put, List.setIfInBounds_toArray, List.set_cons_zero, List.set_cons_succ]
  refine wpAnyH_ready (rs := [6]) (by decide +kernel) (by simp) ?_
  refine AllReadyH.cons rfl (fun K hK => ?_) AllReadyH.nil
  go_simp
  refine (from63 _ wb sn).mono ?_
  rintro e Z ⟨rfl, rfl⟩
  have q1 : ((Y.alloc (.cells #[.pointer (some ⟨wb, 0, none⟩)] 97)).alloc (.cells #[.int .i64 sn] 3)).heap[Y.heap.size]? = some (.cells #[.pointer (some ⟨wb, 0, none⟩)] 97 (0, 0)) := (((Fr.refl [] (Y.alloc (.cells #[.pointer (some ⟨wb, 0, none⟩)] 97))).alloc _).block _ (by simp) (by simp)).trans (heap_alloc_new Y _)
  have q2 : ((Y.alloc (.cells #[.pointer (some ⟨wb, 0, none⟩)] 97)).alloc (.cells #[.int .i64 sn] 3)).heap[Y.heap.size + 1]? = some (.cells #[.int .i64 sn] 3 (0, 0)) := blk2 Y _ _
  have hYs : W0.heap.size ≤ Y.heap.size := hS.size
  have hS := (hS.alloc (.cells #[.pointer (some ⟨wb, 0, none⟩)] 97)).alloc (.cells #[.int .i64 sn] 3)
  generalize (Y.alloc (.cells #[.pointer (some ⟨wb, 0, none⟩)] 97)).alloc (.cells #[.int .i64 sn] 3) = Z at *
  generalize Y.heap.size = c1 at *
  refine hK.out _ _ hS (fun _ => ?_)
  clear hK K
  try simp only [List.getElem_toArray, List.getElem_cons_succ, List.getElem_cons_zero, Act.put, List.setIfInBounds_toArray, List.set_cons_zero, List.set_cons_succ]
  refine wpAnyH_done (by decide +kernel) ?_ _
  refine plainT_end ?_
  refine hKs _ _ ?_
  clear hKs K
  have HB8 : Hid ((-1 ≤ sn ∧ sn < t.links.length) ∧ opOk t.abs m p o l k cc sn = (walkP t.abs m sn).1.all (madeOk t.abs p)) := by
    have h6 := HBY6.out
    refine ⟨?_, ?_⟩
    · simp at h6
      omega
    · rw [HOP.out, HB1.out, HB2.out, HB3.out, show cOk o cc = true from HBY5.out, show snOk t.abs.links.length sn = true by unfold snOk; rw [show t.abs.links.length = t.links.length by simp [Tr.abs]]; exact h6]
      simp
  have FZ : Hid (Fr [] w0 Z ∧ JB Z jb t p (.pointer (some ⟨wb, 0, none⟩)) ∧ WK Z wb lk vk t m ∧ Z.heap[b2]? = some (.cells #[.pointer (some ⟨jb, 0, none⟩)] 134 (0, 0)) ∧ Z.heap[c1]? = some (.cells #[.pointer (some ⟨wb, 0, none⟩)] 97 (0, 0)) ∧ Z.heap[c1 + 1]? = some (.cells #[.int .i64 sn] 3 (0, 0)) ∧ w0.heap.size ≤ b2 ∧ w0.heap.size ≤ c1) := ⟨HF0.out.trans hS, (JSx _ hS).jb, HX.out.2.1.fr0 hS, (hS.block _ (Array.getElem?_eq_some_iff.1 HZ2.out.1).1 (by simp)).trans HZ2.out.1, q1, q2, HZ2.out.2, by have := HF0.out.size; omega⟩
  clear q1 q2 hYs hS HF0 m2 x0 x2 x3 x4 j14 j18 JSx HX HB1 HB2 HB3 HBY5 HBY6 HOP HKN hl1 nLI HZ2
  refine wpAt_block ?_
  refine range_thr Tryd.func93 rfl (fun _ _ => rfl) ?_
  intro rec HY
  show CallsIn Fence.wide 0 Tryd.prog 78 #[.func (.yield (Z.heap.size + 1)) #[] #[], .pointer (some ⟨c1, 0, none⟩), .pointer (some ⟨c1 + 1, 0, none⟩)] _ _
  have f5 : Fr [] Z ((Z.alloc (.deferred (some []))).alloc (.loop (rec .ready none))) := ((Fr.refl _ _).alloc _).alloc _
  have hL5 := blk2 Z (.deferred (some [])) (.loop (rec .ready none))
  have hD5 : ((Z.alloc (.deferred (some []))).alloc (.loop (rec .ready none))).heap[Z.heap.size]? = some (.deferred (some [])) := (Below.heap_alloc _ _ _ (by simp)).trans (heap_alloc_new Z _)
  generalize (Z.alloc (.deferred (some []))).alloc (.loop (rec .ready none)) = Z5 at *
  obtain ⟨d0, hd0⟩ : ∃ d0, d0 = Z.heap.size := ⟨_, rfl⟩
  rw [← hd0] at hL5 hD5 HY ⊢
  have zl : ∀ {k : Nat} {o : Obj}, Z.heap[k]? = some o → k < d0 := fun h => by rw [hd0]; exact at_lt h
  have zk : ∀ {k : Nat} {o : Obj}, Z.heap[k]? = some o → Z5.heap[k]? = some o := fun h => (f5.block _ (at_lt h) (by simp)).trans h
  have jne : ∀ {k : Nat} {o : Obj}, Z.heap[k]? = some o → (∀ A z, o ≠ .cells A 109 z) → k ≠ jb := fun h hne e => by
    subst e
    have h9 := FZ.out.2.1
    unfold JB at h9
    rw [h] at h9
    cases h9
    exact hne _ _ rfl
  have bne : ∀ {k : Nat} {o : Obj}, Z.heap[k]? = some o → (∀ A z, o ≠ .cells A 134 z) → k ≠ b2 := fun h hne e => by
    subst e
    have h9 := FZ.out.2.2.2.1
    rw [h] at h9
    cases h9
    exact hne _ _ rfl
  have hlo := HG.out.2.2.2.1
  have hfz := FZ.out
  have hq2 : w0.heap.size ≤ c1 + 1 := by omega
  have G0 : GJ w0 t jb wb b2 d0 (d0 + 1) p (rec .ready none) [] [wb, c1, c1 + 1, lk, vk] Z5 := by
    refine ⟨FZ.out.1.trans f5, FZ.out.2.1.fr0 f5, hD5, hL5, zk FZ.out.2.2.2.1, rfl, ⟨by have := FZ.out.1.size; omega, by have := FZ.out.1.size; omega, by have := zl FZ.out.2.1; omega, by omega, by have := zl FZ.out.2.2.2.1; omega⟩, ?_⟩
    intro k hk
    simp only [List.mem_cons, List.not_mem_nil, or_false] at hk
    rcases hk with rfl | rfl | rfl | rfl | rfl
    · have h1 := FZ.out.2.2.1.blk; have h2 := zl h1; exact ⟨hlo.2.1, jne h1 (fun A z e => by cases e), by omega, by omega, bne h1 (fun A z e => by cases e)⟩
    · have h1 := FZ.out.2.2.2.2.1; have h2 := zl h1; exact ⟨hfz.2.2.2.2.2.2.2, jne h1 (fun A z e => by cases e), by omega, by omega, bne h1 (fun A z e => by cases e)⟩
    · have h1 := FZ.out.2.2.2.2.2.1; have h2 := zl h1; exact ⟨hq2, jne h1 (fun A z e => by cases e), by omega, by omega, bne h1 (fun A z e => by cases e)⟩
    · have h1 := FZ.out.2.2.1.lb; have h2 := zl h1; exact ⟨hlo.2.2.1, jne h1 (fun A z e => by cases e), by omega, by omega, bne h1 (fun A z e => by cases e)⟩
    · have h1 := FZ.out.2.2.1.vb; have h2 := zl h1; exact ⟨hlo.2.2.2, jne h1 (fun A z e => by cases e), by omega, by omega, bne h1 (fun A z e => by cases e)⟩
  have HYh : Hid _ := HY
  clear HY
  refine (callsIn_wide.2 (HG.out.1 B w0 (d0 + 1) c1 (c1 + 1) wb lk vk m sn (GJ w0 t jb wb b2 d0 (d0 + 1) p (rec .ready none)) (fun c w' => c = chainT p ∧ Fr [] w0 w' ∧ opOk t.abs m p o l k cc sn = false ∧ w'.heap[d0]? = some (.deferred (some []))) Z5 HG.out.2.1 HG.out.2.2.1 HB8.out.1.1 HB8.out.1.2 (FZ.out.2.2.1.fr0 f5) (zk FZ.out.2.2.2.2.1) (zk FZ.out.2.2.2.2.2.1) G0 (fun pre O W g => g.fr) (fun pre O O' W W' g f h _ => g.step f h) ?_)).mono ?_
  · clear G0 hL5 hD5 zl zk jne bne hlo hfz hq2 f5 hd0
    intro pre x O W g hpre hx
    refine HYh.out #[.agg x.cl.toArray] W _ rfl g.lp ?_
    clear HYh
    have hxw : x.w := HG.out.2.2.1.wf x hx
    have bA := heap_alloc_new W (.cells #[.int .i64 0, .int .i64 0, .int .i64 0, .int .i64 0] 51)
    have HA : Hid ((W.alloc (.cells #[.int .i64 0, .int .i64 0, .int .i64 0, .int .i64 0] 51)).heap[W.heap.size]? = some (.cells #[.int .i64 0, .int .i64 0, .int .i64 0, .int .i64 0] 51 (0, 0))) := bA
    have fA : Fr [] W ((W.alloc (.cells #[.int .i64 0, .int .i64 0, .int .i64 0, .int .i64 0] 51)).setRow W.heap.size x.cl.toArray) := ((Fr.refl _ _).alloc _).setRow (.inr (Nat.le_refl _)) _
    have bB := setRow_heap (W.alloc (.cells #[.int .i64 0, .int .i64 0, .int .i64 0, .int .i64 0] 51)) W.heap.size _ x.cl.toArray _ _ bA
    have hlp : ((W.alloc (.cells #[.int .i64 0, .int .i64 0, .int .i64 0, .int .i64 0] 51)).setRow W.heap.size x.cl.toArray).heap[d0 + 1]? = some (.loop (rec .ready none)) := (fA.block _ (at_lt g.lp) (by simp)).trans g.lp
    have HLP : Hid (W.heap.size ≠ d0 + 1 ∧ d0 + 1 < W.heap.size) := ⟨by have := at_lt g.lp; omega, at_lt g.lp⟩
    gi_wp2_with (refine in_store rfl 51 (.tmp 6) (.tmp 58) rfl W.heap.size x.cl.toArray rfl rfl 51 _ HA.out (by rw [info51]; rfl) rfl (by simp [Sr.cl, Sr.il, Value.oneCell']) ?_)
    refine ⟨hlp, ?_⟩
    have fP := Fr.putObj (W := (W.alloc (.cells #[.int .i64 0, .int .i64 0, .int .i64 0, .int .i64 0] 51)).setRow W.heap.size x.cl.toArray) (l := d0 + 1) (.loop (rec .busy none))
    have hbz := World.putObj_heap_same (w := (W.alloc (.cells #[.int .i64 0, .int .i64 0, .int .i64 0, .int .i64 0] 51)).setRow W.heap.size x.cl.toArray) (r := d0 + 1) (o := .loop (rec .busy none)) (at_lt hlp)
    have F2 : Fr [d0 + 1] W (((W.alloc (.cells #[.int .i64 0, .int .i64 0, .int .i64 0, .int .i64 0] 51)).setRow W.heap.size x.cl.toArray).putObj (d0 + 1) (.loop (rec .busy none))) := (fA.sub (by simp)).trans fP
    have bX : (((W.alloc (.cells #[.int .i64 0, .int .i64 0, .int .i64 0, .int .i64 0] 51)).setRow W.heap.size x.cl.toArray).putObj (d0 + 1) (.loop (rec .busy none))).heap[W.heap.size]? = some (.cells x.cl.toArray 51 (0, 0)) := (fP.block _ (at_lt bB) (by simpa using HLP.out.1)).trans bB
    generalize ((W.alloc (.cells #[.int .i64 0, .int .i64 0, .int .i64 0, .int .i64 0] 51)).setRow W.heap.size x.cl.toArray).putObj (d0 + 1) (.loop (rec .busy none)) = W2 at *
    generalize hbx : W.heap.size = bx at *
    have HBX : Hid (W.heap.size = bx) := hbx
    clear hbx
    clear bA HA fA bB hlp fP
    have g2 : Fr [] w0 W2 := g.fr.over F2 (fun k hk => by simp at hk; subst hk; exact g.hl.2.1)
    have n2 : W2.cell? ⟨b2, 0, none⟩ = some (.pointer (some ⟨jb, 0, none⟩)) := F2.cell1 (at_cells g.b 0 rfl) (by have := g.hl.2.2.2.2; simpa using this)
    have CM := made115 (HG.out.2.2.2.2.2.2.fr0 g2) (HG.out.2.1.fr0 g2) (g.j.fr F2 (by have := g.hl.2.2.1; simpa using this)) HG.out.2.2.2.2.1 x hxw
    unfold Jd at CM
    have R1 : Hid (W2.rangeAt bx 0 x.cl) := range_block bX
    have HGW : Hid (GJ w0 t jb wb b2 d0 (d0 + 1) p (rec .ready none) pre O W ∧ Fr [d0 + 1] W W2 ∧ W2.heap[d0 + 1]? = some (.loop (rec .busy none)) ∧ Fr [] w0 W2) := ⟨g, F2, hbz, g2⟩
    have HPX : Hid ((pre ++ [x]) <+: (walkP t.abs m sn).1) := hpre
    clear g F2 hbz g2 bX hpre hx hxw
    cases hm : madeOk t.abs p x with
    | true =>
      rw [hm] at CM
      simp only [if_true] at CM
      have HM : Hid (madeOk t.abs p x = true) := hm
      clear hm
      gi_wp2_with (refine in_load rfl 51 (.tmp 6) rfl bx 0 rfl x.cl _ R1.out Tryd.underlying51 rfl (by rw [info51]; rfl) ?_)
      refine ⟨trivial, rfl, (CallsIn.inRound _ (callsIn_wide.2 CM)).mono ?_⟩
      rintro e W3 ⟨rfl, f3⟩
      have F3 : Fr [d0 + 1] W W3 := HGW.out.2.1.trans (f3.sub (by simp))
      have hb3 := (f3.block _ (at_lt HGW.out.2.2.1) (by simp)).trans HGW.out.2.2.1
      have HD : Hid ((GJ w0 t jb wb b2 d0 (d0 + 1) p (rec .ready none) (pre ++ [x]) O (W3.putObj (d0 + 1) (.loop (rec .ready none))) ∧ bx ≤ (W3.putObj (d0 + 1) (.loop (rec .ready none))).heap.size ∧ ∀ k ∈ O, k < bx → (W3.putObj (d0 + 1) (.loop (rec .ready none))).heap[k]? = W.heap[k]?) ∧ W3.heap[d0 + 1]? = some (.loop (rec .busy none))) := ⟨by have q := HGW.out.1.told (F3.trans (Fr.putObj _)) (World.putObj_heap_same (at_lt hb3)) HM.out; rw [HBX.out] at q; exact q, hb3⟩
      clear f3 F3 hb3 HGW R1
      gi_wp2
      exact ⟨HD.out.2, .inl ⟨rfl, HD.out.1.1, HD.out.1.2.1, HD.out.1.2.2⟩⟩
    | false =>
      rw [hm] at CM
      simp only [Bool.false_eq_true, if_false, thrown] at CM
      have HM : Hid (madeOk t.abs p x = false) := hm
      clear hm
      gi_wp2_with (refine in_load rfl 51 (.tmp 6) rfl bx 0 rfl x.cl _ R1.out Tryd.underlying51 rfl (by rw [info51]; rfl) ?_)
      refine ⟨trivial, rfl, (CallsIn.inRound _ (callsIn_wide.2 CM)).mono ?_⟩
      rintro e W3 ⟨rfl, f3⟩
      have F3 : Fr [d0 + 1] W W3 := HGW.out.2.1.trans (f3.sub (by simp))
      have HE : opOk t.abs m p o l k cc sn = false := by
        rw [HB8.out.2]
        obtain ⟨r, hr⟩ := HPX.out
        rw [← hr, List.all_append, List.all_append]
        simp [HM.out]
      have hd3 : W3.heap[d0]? = some (.deferred (some [])) := (F3.block _ (at_lt HGW.out.1.d) (by simp)).trans HGW.out.1.d
      have hf3 := HGW.out.2.2.2.trans f3
      exact ⟨rfl, .inr ⟨_, rfl, rfl, hf3, HE, hd3⟩⟩
  · rintro e W2 (⟨rfl, O', g, hwk⟩ | ⟨c', rfl, rfl, hf, hno, hd⟩)
    · refine .inl ⟨_, rfl, g.lp, ?_⟩
      have hdd : (W2.putObj (d0 + 1) (.loop (rec .exhausted none))).heap[d0]? = some (.deferred (some [])) := (World.putObj_heap_other (by omega)).trans g.d
      show LeavesInM Fence.wide 0 Tryd.prog Tryd.f93 _ R [{ target := .collected d0, args := #[] }] .returning _
      refine ⟨by simp, .inl ⟨_, _, rfl, run_takeDeferred hdd, ?_⟩⟩
      have F9 : Fr [d0 + 1, d0] W2 ((W2.putObj (d0 + 1) (.loop (rec .exhausted none))).putObj d0 (.deferred none)) := ((Fr.putObj _).sub (by simp)).trans ((Fr.putObj _).sub (by simp))
      have hn : ∀ {k : Nat} {A : Array Value} {ty : TypeId} {z : Nat × Nat}, W2.heap[k]? = some (.cells A ty z) → k ∉ [d0 + 1, d0] := fun h hm => by
        simp at hm
        rcases hm with rfl | rfl
        · rw [g.lp] at h; cases h
        · rw [g.d] at h; cases h
      refine ⟨.tuple #[], by simp [results, Tryd.results93], HYE.out (by rw [HB8.out.2]; exact g.ok) _ (g.fr.over F9 (fun k hk => by simp at hk; rcases hk with rfl | rfl; exact g.hl.2.1; exact g.hl.1)) (g.j.fr F9 (hn g.j)) (hwk.fr F9 (hn hwk.blk) (hn hwk.lb) (hn hwk.vb))⟩
    · refine .inr ⟨_, rfl, ?_⟩
      show LeavesInM Fence.wide 0 Tryd.prog Tryd.f93 _ R [{ target := .collected d0, args := #[] }] (.panicking (chainT p)) _
      refine ⟨by simp, .inl ⟨_, _, rfl, run_takeDeferred hd, ?_⟩⟩
      exact HNO.out _ _ ⟨rfl, hf.over (Fr.putObj _) (fun k hk => by simp at hk; subst hk; exact G0.hl.1), hno⟩
end Go.Proofs.YtkogfgbgmifcnaaDoor
