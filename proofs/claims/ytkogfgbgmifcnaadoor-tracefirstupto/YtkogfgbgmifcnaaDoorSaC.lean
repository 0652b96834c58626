/-
  Lists of operations, of links, of virtual things held against each other; condition: they lie as told.
-/
import Derived.Test.YtkogfgbgmifcnaaDoorSaB
import Derived.Test.YtkogfgbgmifcnaaDoorTcH
namespace Go.Proofs.YtkogfgbgmifcnaaDoor
open Go.RowKit
set_option linter.unusedVariables false
set_option linter.unusedSimpArgs false
set_option maxRecDepth 100000 in
set_option maxHeartbeats 8000000 in
theorem eqf42 {w : World} {B c c2 y : Nat} {a a2 : Option Addr} {L M : List El} (h1 : SL w B 48 a L.length c 5 y (flatE L)) (h1l : ∀ e ∈ L, ElOk w B 1 3 e) (hw : ∀ e ∈ L, ∀ s ∈ e.l, s.w) (h2 : SL w B 48 a2 M.length c2 5 y (flatE M)) (h2l : ∀ e ∈ M, ElOk w B 1 3 e) (hv : ∀ e ∈ M, ∀ s ∈ e.l, s.w) (hfit : (L.length : Int) ≤ 140737488355328) :
    Calls Tryd.prog 42 #[.slice a L.length c, .slice a2 M.length c2, .func (.func 43) #[] #[]] w fun e w' => e = .returned (.bool (decide (L.map El.abs = M.map El.abs))) ∧ Fr [] w w' := by
  by_cases hM : M.length = L.length
  · rw [hM] at h2 ⊢
    have H1 : Hid (SL w B 48 a L.length c 5 y (flatE L) ∧ (∀ e ∈ L, ElOk w B 1 3 e) ∧ (∀ e ∈ L, ∀ s ∈ e.l, s.w)) := ⟨h1, h1l, hw⟩
    have H2 : Hid (M.length = L.length ∧ SL w B 48 a2 M.length c2 5 y (flatE M) ∧ (∀ e ∈ M, ElOk w B 1 3 e) ∧ (∀ e ∈ M, ∀ s ∈ e.l, s.w)) := ⟨hM, by rw [hM]; exact h2, h2l, hv⟩
    have F0 : Hid (Fr [] w w) := Fr.refl _ _
    clear h1 h2 h1l h2l hw hv hM
    go_enter Tryd.func42, Tryd.ntmps42
    go_wp2
    go_loopw [17] (fun i wr => ∃ p : Nat, p ≤ L.length ∧ i = .int .i64 p ∧ Hid (Fr [] w wr ∧ (L.map El.abs).take p = (M.map El.abs).take p)) (fun i _ => L.length - (intOf i).toNat)
    case atStart => exact ⟨0, Nat.zero_le _, rfl, F0.out, rfl⟩
    case round =>
      obtain ⟨p, hp, rfl, F⟩ := hrel
      by_cases hlt : p < L.length
      · have hpI : (p : Int) < L.length := by omega
        have hx : L[p]? = some (L[p]) := List.getElem?_eq_getElem _
        have hlt2 : p < M.length := by rw [H2.out.1]; exact hlt
        have hy : M[p]? = some (M[p]) := List.getElem?_eq_getElem _
        have hxm := List.mem_of_getElem? hx
        have hym := List.mem_of_getElem? hy
        generalize L[p] = s at hx hxm
        generalize M[p] = s2 at hy hym
        have k1 := H1.out.2.1 s hxm
        have k2 := H2.out.2.2.1 s2 hym
        obtain ⟨b, o, rfl, r1, _⟩ := H1.out.1.elem (f := El.cl) (fun x hx => El.cl_len (H1.out.2.1 x hx)) (by omega) hx
        obtain ⟨b2, o2, rfl, r2, _⟩ := H2.out.2.1.elem (f := El.cl) (fun x hx => El.cl_len (H2.out.2.2.1 x hx)) (by omega) hy
        have HE : Hid ((L.map El.abs)[p]? = some s.abs ∧ (M.map El.abs)[p]? = some s2.abs) := ⟨by simp [hx], by simp [hy]⟩
        have f0 : ∀ o1 o2, Fr [] wr ((wr.alloc o1).alloc o2) := fun o1 o2 => ((Fr.refl _ _).alloc _).alloc _
        have C := fun w' (f : Fr [] wr w') => op43 (k1.fr (F.out.1.trans f) (Away.nil _ _)) (k2.fr (F.out.1.trans f) (Away.nil _ _)) (H1.out.2.2 s hxm) (H2.out.2.2.2 s2 hym)
        have r1 := range_fr r1 F.out.1
        have r2 := range_fr r2 F.out.1
        have e1 : ((L.map El.abs).take p = (M.map El.abs).take p) := F.out.2
        have hb1 : b < wr.heap.size := World.block_lt_of_cell? wr _ (r1 0 _ (List.getElem?_eq_getElem (show 0 < s.cl.length by rw [El.cl_len k1]; omega)))
        have hb2 : b2 < wr.heap.size := World.block_lt_of_cell? wr _ (r2 0 _ (List.getElem?_eq_getElem (show 0 < s2.cl.length by rw [El.cl_len k2]; omega)))
        have HZ : Hid (∀ z, z = decide (s.abs = s2.abs) → z = true → (L.map El.abs).take (p + 1) = (M.map El.abs).take (p + 1)) := fun z e h => by
          subst e
          have h := of_decide_eq_true h
          exact take_more e1 HE.out.1 (by rw [h]; exact HE.out.2)
        have HN : Hid (∀ z, z = decide (s.abs = s2.abs) → z = false → decide (L.map El.abs = M.map El.abs) = false) := fun z e h => by
          subst e
          have h := of_decide_eq_false h
          exact decide_eq_false (fun q => h (by have := HE.out.1; rw [q] at this; exact Option.some.inj (this.symm.trans HE.out.2)))
        obtain ⟨z, hz⟩ : ∃ z, z = decide (s.abs = s2.abs) := ⟨_, rfl⟩
        have HZ := HZ.out z hz
        have HN := HN.out z hz
        rw [← hz] at C
        clear hz
        obtain ⟨P, Q, ea, ec, l⟩ := s
        obtain ⟨P2, Q2, ea2, ec2, l2⟩ := s2
        obtain ⟨x0, rfl⟩ := len1 (show P.length = 1 from k1.hp)
        obtain ⟨x02, rfl⟩ := len1 (show P2.length = 1 from k2.hp)
        obtain ⟨y0, y1, y2, rfl⟩ := len3 (show Q.length = 3 from k1.hq)
        obtain ⟨y02, y12, y22, rfl⟩ := len3 (show Q2.length = 3 from k2.hq)
        have q0 : wr.cell? ⟨b, o + p * 5, none⟩ = some (.int .i64 x0) := r1 0 _ rfl
        have q1 : wr.cell? ⟨b, o + p * 5 + 1, none⟩ = some (.slice ea l.length ec) := r1 1 _ rfl
        have q2 : wr.cell? ⟨b, o + p * 5 + 2, none⟩ = some (.int .i64 y0) := r1 2 _ rfl
        have q3 : wr.cell? ⟨b, o + p * 5 + 3, none⟩ = some (.int .i64 y1) := r1 3 _ rfl
        have q4 : wr.cell? ⟨b, o + p * 5 + 4, none⟩ = some (.int .i64 y2) := r1 4 _ rfl
        have q20 : wr.cell? ⟨b2, o2 + p * 5, none⟩ = some (.int .i64 x02) := r2 0 _ rfl
        have q21 : wr.cell? ⟨b2, o2 + p * 5 + 1, none⟩ = some (.slice ea2 l2.length ec2) := r2 1 _ rfl
        have q22 : wr.cell? ⟨b2, o2 + p * 5 + 2, none⟩ = some (.int .i64 y02) := r2 2 _ rfl
        have q23 : wr.cell? ⟨b2, o2 + p * 5 + 3, none⟩ = some (.int .i64 y12) := r2 3 _ rfl
        have q24 : wr.cell? ⟨b2, o2 + p * 5 + 4, none⟩ = some (.int .i64 y22) := r2 4 _ rfl
        clear r1 r2 k1 k2 hx hy hxm hym hlt2
        have C : ∀ w', Fr [] wr w' → Calls Tryd.prog 43 #[.agg #[.int .i64 x0, .slice ea l.length ec, .int .i64 y0, .int .i64 y1, .int .i64 y2], .agg #[.int .i64 x02, .slice ea2 l2.length ec2, .int .i64 y02, .int .i64 y12, .int .i64 y22]] w' (fun r w'' => r = .returned (.bool z) ∧ Fr [] w' w'') := C
        cases z with
        | true =>
          have HR : Hid ((L.map El.abs).take (p + 1) = (M.map El.abs).take (p + 1)) := HZ rfl
          clear HZ HN e1
          go_wp2_with (go_at_call 43; refine (C _ (f0 _ _)).mono ?_; rintro e w' ⟨rfl, f1⟩)
          go_roundw
          case rel => exact ⟨p + 1, hlt, by go_num, F.out.1.trans ((f0 _ _).trans f1), HR.out⟩
          case measure => simp [intOf]; omega
        | false =>
          have HR : Hid (decide (L.map El.abs = M.map El.abs) = false) := HN rfl
          clear HZ HN e1
          go_wp2_with (go_at_call 43; refine (C _ (f0 _ _)).mono ?_; rintro e w' ⟨rfl, f1⟩)
          go_ret
          exact ⟨by rw [HR.out]; rfl, F.out.1.trans ((f0 _ _).trans f1)⟩
      · obtain rfl : p = L.length := by omega
        have hT : L.map El.abs = M.map El.abs := by
          have h := F.out.2
          rw [List.take_of_length_le (by simp), List.take_of_length_le (by rw [List.length_map, H2.out.1]; omega)] at h
          exact h
        have hne : decide (L.map El.abs = M.map El.abs) = true := decide_eq_true hT
        clear hT
        go_wp2
        go_ret
        exact ⟨by rw [hne]; rfl, F.out.1⟩
  · have hne : decide (L.map El.abs = M.map El.abs) = false := decide_eq_false (fun h => hM (by have := congrArg List.length h; simpa using this.symm))
    have hnI : ¬ (L.length : Int) = M.length := fun h => hM (by omega)
    rw [hne]
    clear hM hne h1 h2 h1l h2l hw hv
    go_enter Tryd.func42, Tryd.ntmps42
    go_wp2
    go_ret
    exact ⟨rfl, Fr.refl _ _⟩
set_option maxRecDepth 100000 in
set_option maxHeartbeats 8000000 in
theorem eqf44 {w : World} {B c c2 y : Nat} {a a2 : Option Addr} {L M : List El} (h1 : SL w B 57 a L.length c 5 y (flatE L)) (h1l : ∀ e ∈ L, ElOk w B 4 0 e) (hw : ∀ e ∈ L, ∀ s ∈ e.l, s.w) (h2 : SL w B 57 a2 M.length c2 5 y (flatE M)) (h2l : ∀ e ∈ M, ElOk w B 4 0 e) (hv : ∀ e ∈ M, ∀ s ∈ e.l, s.w) (hfit : (L.length : Int) ≤ 140737488355328) :
    Calls Tryd.prog 44 #[.slice a L.length c, .slice a2 M.length c2, .func (.func 45) #[] #[]] w fun e w' => e = .returned (.bool (decide (L.map El.abs = M.map El.abs))) ∧ Fr [] w w' := by
  by_cases hM : M.length = L.length
  · rw [hM] at h2 ⊢
    have H1 : Hid (SL w B 57 a L.length c 5 y (flatE L) ∧ (∀ e ∈ L, ElOk w B 4 0 e) ∧ (∀ e ∈ L, ∀ s ∈ e.l, s.w)) := ⟨h1, h1l, hw⟩
    have H2 : Hid (M.length = L.length ∧ SL w B 57 a2 M.length c2 5 y (flatE M) ∧ (∀ e ∈ M, ElOk w B 4 0 e) ∧ (∀ e ∈ M, ∀ s ∈ e.l, s.w)) := ⟨hM, by rw [hM]; exact h2, h2l, hv⟩
    have F0 : Hid (Fr [] w w) := Fr.refl _ _
    clear h1 h2 h1l h2l hw hv hM
    go_enter Tryd.func44, Tryd.ntmps44
    go_wp2
    go_loopw [17] (fun i wr => ∃ p : Nat, p ≤ L.length ∧ i = .int .i64 p ∧ Hid (Fr [] w wr ∧ (L.map El.abs).take p = (M.map El.abs).take p)) (fun i _ => L.length - (intOf i).toNat)
    case atStart => exact ⟨0, Nat.zero_le _, rfl, F0.out, rfl⟩
    case round =>
      obtain ⟨p, hp, rfl, F⟩ := hrel
      by_cases hlt : p < L.length
      · have hpI : (p : Int) < L.length := by omega
        have hx : L[p]? = some (L[p]) := List.getElem?_eq_getElem _
        have hlt2 : p < M.length := by rw [H2.out.1]; exact hlt
        have hy : M[p]? = some (M[p]) := List.getElem?_eq_getElem _
        have hxm := List.mem_of_getElem? hx
        have hym := List.mem_of_getElem? hy
        generalize L[p] = s at hx hxm
        generalize M[p] = s2 at hy hym
        have k1 := H1.out.2.1 s hxm
        have k2 := H2.out.2.2.1 s2 hym
        obtain ⟨b, o, rfl, r1, _⟩ := H1.out.1.elem (f := El.cl) (fun x hx => El.cl_len (H1.out.2.1 x hx)) (by omega) hx
        obtain ⟨b2, o2, rfl, r2, _⟩ := H2.out.2.1.elem (f := El.cl) (fun x hx => El.cl_len (H2.out.2.2.1 x hx)) (by omega) hy
        have HE : Hid ((L.map El.abs)[p]? = some s.abs ∧ (M.map El.abs)[p]? = some s2.abs) := ⟨by simp [hx], by simp [hy]⟩
        have f0 : ∀ o1 o2, Fr [] wr ((wr.alloc o1).alloc o2) := fun o1 o2 => ((Fr.refl _ _).alloc _).alloc _
        have C := fun w' (f : Fr [] wr w') => link45 (k1.fr (F.out.1.trans f) (Away.nil _ _)) (k2.fr (F.out.1.trans f) (Away.nil _ _)) (H1.out.2.2 s hxm) (H2.out.2.2.2 s2 hym)
        have r1 := range_fr r1 F.out.1
        have r2 := range_fr r2 F.out.1
        have e1 : ((L.map El.abs).take p = (M.map El.abs).take p) := F.out.2
        have hb1 : b < wr.heap.size := World.block_lt_of_cell? wr _ (r1 0 _ (List.getElem?_eq_getElem (show 0 < s.cl.length by rw [El.cl_len k1]; omega)))
        have hb2 : b2 < wr.heap.size := World.block_lt_of_cell? wr _ (r2 0 _ (List.getElem?_eq_getElem (show 0 < s2.cl.length by rw [El.cl_len k2]; omega)))
        have HZ : Hid (∀ z, z = decide (s.abs = s2.abs) → z = true → (L.map El.abs).take (p + 1) = (M.map El.abs).take (p + 1)) := fun z e h => by
          subst e
          have h := of_decide_eq_true h
          exact take_more e1 HE.out.1 (by rw [h]; exact HE.out.2)
        have HN : Hid (∀ z, z = decide (s.abs = s2.abs) → z = false → decide (L.map El.abs = M.map El.abs) = false) := fun z e h => by
          subst e
          have h := of_decide_eq_false h
          exact decide_eq_false (fun q => h (by have := HE.out.1; rw [q] at this; exact Option.some.inj (this.symm.trans HE.out.2)))
        obtain ⟨z, hz⟩ : ∃ z, z = decide (s.abs = s2.abs) := ⟨_, rfl⟩
        have HZ := HZ.out z hz
        have HN := HN.out z hz
        rw [← hz] at C
        clear hz
        obtain ⟨P, Q, ea, ec, l⟩ := s
        obtain ⟨P2, Q2, ea2, ec2, l2⟩ := s2
        obtain ⟨x0, x1, x2, x3, rfl⟩ := len4 (show P.length = 4 from k1.hp)
        obtain ⟨x02, x12, x22, x32, rfl⟩ := len4 (show P2.length = 4 from k2.hp)
        obtain rfl : Q = [] := List.eq_nil_of_length_eq_zero k1.hq
        obtain rfl : Q2 = [] := List.eq_nil_of_length_eq_zero k2.hq
        have q0 : wr.cell? ⟨b, o + p * 5, none⟩ = some (.int .i64 x0) := r1 0 _ rfl
        have q1 : wr.cell? ⟨b, o + p * 5 + 1, none⟩ = some (.int .i64 x1) := r1 1 _ rfl
        have q2 : wr.cell? ⟨b, o + p * 5 + 2, none⟩ = some (.int .i64 x2) := r1 2 _ rfl
        have q3 : wr.cell? ⟨b, o + p * 5 + 3, none⟩ = some (.int .i64 x3) := r1 3 _ rfl
        have q4 : wr.cell? ⟨b, o + p * 5 + 4, none⟩ = some (.slice ea l.length ec) := r1 4 _ rfl
        have q20 : wr.cell? ⟨b2, o2 + p * 5, none⟩ = some (.int .i64 x02) := r2 0 _ rfl
        have q21 : wr.cell? ⟨b2, o2 + p * 5 + 1, none⟩ = some (.int .i64 x12) := r2 1 _ rfl
        have q22 : wr.cell? ⟨b2, o2 + p * 5 + 2, none⟩ = some (.int .i64 x22) := r2 2 _ rfl
        have q23 : wr.cell? ⟨b2, o2 + p * 5 + 3, none⟩ = some (.int .i64 x32) := r2 3 _ rfl
        have q24 : wr.cell? ⟨b2, o2 + p * 5 + 4, none⟩ = some (.slice ea2 l2.length ec2) := r2 4 _ rfl
        clear r1 r2 k1 k2 hx hy hxm hym hlt2
        have C : ∀ w', Fr [] wr w' → Calls Tryd.prog 45 #[.agg #[.int .i64 x0, .int .i64 x1, .int .i64 x2, .int .i64 x3, .slice ea l.length ec], .agg #[.int .i64 x02, .int .i64 x12, .int .i64 x22, .int .i64 x32, .slice ea2 l2.length ec2]] w' (fun r w'' => r = .returned (.bool z) ∧ Fr [] w' w'') := C
        cases z with
        | true =>
          have HR : Hid ((L.map El.abs).take (p + 1) = (M.map El.abs).take (p + 1)) := HZ rfl
          clear HZ HN e1
          go_wp2_with (go_at_call 45; refine (C _ (f0 _ _)).mono ?_; rintro e w' ⟨rfl, f1⟩)
          go_roundw
          case rel => exact ⟨p + 1, hlt, by go_num, F.out.1.trans ((f0 _ _).trans f1), HR.out⟩
          case measure => simp [intOf]; omega
        | false =>
          have HR : Hid (decide (L.map El.abs = M.map El.abs) = false) := HN rfl
          clear HZ HN e1
          go_wp2_with (go_at_call 45; refine (C _ (f0 _ _)).mono ?_; rintro e w' ⟨rfl, f1⟩)
          go_ret
          exact ⟨by rw [HR.out]; rfl, F.out.1.trans ((f0 _ _).trans f1)⟩
      · obtain rfl : p = L.length := by omega
        have hT : L.map El.abs = M.map El.abs := by
          have h := F.out.2
          rw [List.take_of_length_le (by simp), List.take_of_length_le (by rw [List.length_map, H2.out.1]; omega)] at h
          exact h
        have hne : decide (L.map El.abs = M.map El.abs) = true := decide_eq_true hT
        clear hT
        go_wp2
        go_ret
        exact ⟨by rw [hne]; rfl, F.out.1⟩
  · have hne : decide (L.map El.abs = M.map El.abs) = false := decide_eq_false (fun h => hM (by have := congrArg List.length h; simpa using this.symm))
    have hnI : ¬ (L.length : Int) = M.length := fun h => hM (by omega)
    rw [hne]
    clear hM hne h1 h2 h1l h2l hw hv
    go_enter Tryd.func44, Tryd.ntmps44
    go_wp2
    go_ret
    exact ⟨rfl, Fr.refl _ _⟩
set_option maxRecDepth 100000 in
set_option maxHeartbeats 8000000 in
theorem eqf46 {w : World} {B c c2 y : Nat} {a a2 : Option Addr} {L M : List El} (h1 : SL w B 59 a L.length c 2 y (flatE L)) (h1l : ∀ e ∈ L, ElOk w B 1 0 e) (hw : ∀ e ∈ L, ∀ s ∈ e.l, s.w) (h2 : SL w B 59 a2 M.length c2 2 y (flatE M)) (h2l : ∀ e ∈ M, ElOk w B 1 0 e) (hv : ∀ e ∈ M, ∀ s ∈ e.l, s.w) (hfit : (L.length : Int) ≤ 140737488355328) :
    Calls Tryd.prog 46 #[.slice a L.length c, .slice a2 M.length c2, .func (.func 47) #[] #[]] w fun e w' => e = .returned (.bool (decide (L.map El.abs = M.map El.abs))) ∧ Fr [] w w' := by
  by_cases hM : M.length = L.length
  · rw [hM] at h2 ⊢
    have H1 : Hid (SL w B 59 a L.length c 2 y (flatE L) ∧ (∀ e ∈ L, ElOk w B 1 0 e) ∧ (∀ e ∈ L, ∀ s ∈ e.l, s.w)) := ⟨h1, h1l, hw⟩
    have H2 : Hid (M.length = L.length ∧ SL w B 59 a2 M.length c2 2 y (flatE M) ∧ (∀ e ∈ M, ElOk w B 1 0 e) ∧ (∀ e ∈ M, ∀ s ∈ e.l, s.w)) := ⟨hM, by rw [hM]; exact h2, h2l, hv⟩
    have F0 : Hid (Fr [] w w) := Fr.refl _ _
    clear h1 h2 h1l h2l hw hv hM
    go_enter Tryd.func46, Tryd.ntmps46
    go_wp2
    go_loopw [17] (fun i wr => ∃ p : Nat, p ≤ L.length ∧ i = .int .i64 p ∧ Hid (Fr [] w wr ∧ (L.map El.abs).take p = (M.map El.abs).take p)) (fun i _ => L.length - (intOf i).toNat)
    case atStart => exact ⟨0, Nat.zero_le _, rfl, F0.out, rfl⟩
    case round =>
      obtain ⟨p, hp, rfl, F⟩ := hrel
      by_cases hlt : p < L.length
      · have hpI : (p : Int) < L.length := by omega
        have hx : L[p]? = some (L[p]) := List.getElem?_eq_getElem _
        have hlt2 : p < M.length := by rw [H2.out.1]; exact hlt
        have hy : M[p]? = some (M[p]) := List.getElem?_eq_getElem _
        have hxm := List.mem_of_getElem? hx
        have hym := List.mem_of_getElem? hy
        generalize L[p] = s at hx hxm
        generalize M[p] = s2 at hy hym
        have k1 := H1.out.2.1 s hxm
        have k2 := H2.out.2.2.1 s2 hym
        obtain ⟨b, o, rfl, r1, _⟩ := H1.out.1.elem (f := El.cl) (fun x hx => El.cl_len (H1.out.2.1 x hx)) (by omega) hx
        obtain ⟨b2, o2, rfl, r2, _⟩ := H2.out.2.1.elem (f := El.cl) (fun x hx => El.cl_len (H2.out.2.2.1 x hx)) (by omega) hy
        have HE : Hid ((L.map El.abs)[p]? = some s.abs ∧ (M.map El.abs)[p]? = some s2.abs) := ⟨by simp [hx], by simp [hy]⟩
        have f0 : ∀ o1 o2, Fr [] wr ((wr.alloc o1).alloc o2) := fun o1 o2 => ((Fr.refl _ _).alloc _).alloc _
        have C := fun w' (f : Fr [] wr w') => virt47 (k1.fr (F.out.1.trans f) (Away.nil _ _)) (k2.fr (F.out.1.trans f) (Away.nil _ _)) (H1.out.2.2 s hxm) (H2.out.2.2.2 s2 hym)
        have r1 := range_fr r1 F.out.1
        have r2 := range_fr r2 F.out.1
        have e1 : ((L.map El.abs).take p = (M.map El.abs).take p) := F.out.2
        have hb1 : b < wr.heap.size := World.block_lt_of_cell? wr _ (r1 0 _ (List.getElem?_eq_getElem (show 0 < s.cl.length by rw [El.cl_len k1]; omega)))
        have hb2 : b2 < wr.heap.size := World.block_lt_of_cell? wr _ (r2 0 _ (List.getElem?_eq_getElem (show 0 < s2.cl.length by rw [El.cl_len k2]; omega)))
        have HZ : Hid (∀ z, z = decide (s.abs = s2.abs) → z = true → (L.map El.abs).take (p + 1) = (M.map El.abs).take (p + 1)) := fun z e h => by
          subst e
          have h := of_decide_eq_true h
          exact take_more e1 HE.out.1 (by rw [h]; exact HE.out.2)
        have HN : Hid (∀ z, z = decide (s.abs = s2.abs) → z = false → decide (L.map El.abs = M.map El.abs) = false) := fun z e h => by
          subst e
          have h := of_decide_eq_false h
          exact decide_eq_false (fun q => h (by have := HE.out.1; rw [q] at this; exact Option.some.inj (this.symm.trans HE.out.2)))
        obtain ⟨z, hz⟩ : ∃ z, z = decide (s.abs = s2.abs) := ⟨_, rfl⟩
        have HZ := HZ.out z hz
        have HN := HN.out z hz
        rw [← hz] at C
        clear hz
        obtain ⟨P, Q, ea, ec, l⟩ := s
        obtain ⟨P2, Q2, ea2, ec2, l2⟩ := s2
        obtain ⟨x0, rfl⟩ := len1 (show P.length = 1 from k1.hp)
        obtain ⟨x02, rfl⟩ := len1 (show P2.length = 1 from k2.hp)
        obtain rfl : Q = [] := List.eq_nil_of_length_eq_zero k1.hq
        obtain rfl : Q2 = [] := List.eq_nil_of_length_eq_zero k2.hq
        have q0 : wr.cell? ⟨b, o + p * 2, none⟩ = some (.int .i64 x0) := r1 0 _ rfl
        have q1 : wr.cell? ⟨b, o + p * 2 + 1, none⟩ = some (.slice ea l.length ec) := r1 1 _ rfl
        have q20 : wr.cell? ⟨b2, o2 + p * 2, none⟩ = some (.int .i64 x02) := r2 0 _ rfl
        have q21 : wr.cell? ⟨b2, o2 + p * 2 + 1, none⟩ = some (.slice ea2 l2.length ec2) := r2 1 _ rfl
        clear r1 r2 k1 k2 hx hy hxm hym hlt2
        have C : ∀ w', Fr [] wr w' → Calls Tryd.prog 47 #[.agg #[.int .i64 x0, .slice ea l.length ec], .agg #[.int .i64 x02, .slice ea2 l2.length ec2]] w' (fun r w'' => r = .returned (.bool z) ∧ Fr [] w' w'') := C
        cases z with
        | true =>
          have HR : Hid ((L.map El.abs).take (p + 1) = (M.map El.abs).take (p + 1)) := HZ rfl
          clear HZ HN e1
          go_wp2_with (go_at_call 47; refine (C _ (f0 _ _)).mono ?_; rintro e w' ⟨rfl, f1⟩)
          go_roundw
          case rel => exact ⟨p + 1, hlt, by go_num, F.out.1.trans ((f0 _ _).trans f1), HR.out⟩
          case measure => simp [intOf]; omega
        | false =>
          have HR : Hid (decide (L.map El.abs = M.map El.abs) = false) := HN rfl
          clear HZ HN e1
          go_wp2_with (go_at_call 47; refine (C _ (f0 _ _)).mono ?_; rintro e w' ⟨rfl, f1⟩)
          go_ret
          exact ⟨by rw [HR.out]; rfl, F.out.1.trans ((f0 _ _).trans f1)⟩
      · obtain rfl : p = L.length := by omega
        have hT : L.map El.abs = M.map El.abs := by
          have h := F.out.2
          rw [List.take_of_length_le (by simp), List.take_of_length_le (by rw [List.length_map, H2.out.1]; omega)] at h
          exact h
        have hne : decide (L.map El.abs = M.map El.abs) = true := decide_eq_true hT
        clear hT
        go_wp2
        go_ret
        exact ⟨by rw [hne]; rfl, F.out.1⟩
  · have hne : decide (L.map El.abs = M.map El.abs) = false := decide_eq_false (fun h => hM (by have := congrArg List.length h; simpa using this.symm))
    have hnI : ¬ (L.length : Int) = M.length := fun h => hM (by omega)
    rw [hne]
    clear hM hne h1 h2 h1l h2l hw hv
    go_enter Tryd.func46, Tryd.ntmps46
    go_wp2
    go_ret
    exact ⟨rfl, Fr.refl _ _⟩
end Go.Proofs.YtkogfgbgmifcnaaDoor
