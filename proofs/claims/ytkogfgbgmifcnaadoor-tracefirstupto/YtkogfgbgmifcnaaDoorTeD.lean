/-
  In a trace that may be everything that an operation uses is made ahead: pure; no condition.
-/
import Derived.Test.YtkogfgbgmifcnaaDoorTeC
import Derived.Test.YtkogfgbgmifcnaaDoorTdA
namespace Go.Proofs.YtkogfgbgmifcnaaDoor
open Go.RowKit Go.Shelf Go.Maps
set_option linter.unusedVariables false
set_option linter.unusedSimpArgs false
theorem tell1P_mark {st : List Bool × List Nat} {s : Sr} {k : Nat} (h : st.1[k]? = some true) : (tell1P st s).1[k]? = some true := by
  unfold tell1P
  split
  · rename_i hc
    rw [List.getElem?_set]
    split
    · rename_i he
      subst he
      rw [h] at hc
      cases hc.2
    · exact h
  · exact h
theorem tellP_mark (L : List Sr) : ∀ (st : List Bool × List Nat) {k : Nat}, st.1[k]? = some true → (tellP st L).1[k]? = some true := by
  induction L with
  | nil => intro st k h; obtain ⟨vm, wt⟩ := st; exact h
  | cons s r ih => intro st k h; rw [tellP_cons]; exact ih _ (tell1P_mark h)
theorem tellP_keep (L : List Sr) : ∀ (st : List Bool × List Nat) {v : Nat}, v ∈ st.2 → v ∈ (tellP st L).2 := by
  induction L with
  | nil => intro st v h; obtain ⟨vm, wt⟩ := st; exact h
  | cons s r ih =>
    intro st v h
    rw [tellP_cons]
    refine ih _ ?_
    unfold tell1P
    split
    · simp [h]
    · exact h
theorem tellP_new (L : List Sr) : ∀ (st : List Bool × List Nat) {v : Nat}, (tellP st L).1[v]? = some true → st.1[v]? = some true ∨ v ∈ (tellP st L).2 := by
  induction L with
  | nil => intro st v h; obtain ⟨vm, wt⟩ := st; exact .inl h
  | cons s r ih =>
    intro st v h
    rw [tellP_cons] at h ⊢
    rcases ih _ h with h1 | h1
    · unfold tell1P at h1
      split at h1
      · rw [List.getElem?_set] at h1
        split at h1
        · rename_i hc he
          subst he
          right
          refine tellP_keep r _ ?_
          unfold tell1P
          rw [if_pos hc]
          simp
        · exact .inl h1
      · exact .inl h1
    · exact .inr h1
theorem tellP_all (L : List Sr) : ∀ (st : List Bool × List Nat) {s : Sr}, s ∈ L → s.k = 2 → s.n.toNat < st.1.length → (tellP st L).1[s.n.toNat]? = some true := by
  induction L with
  | nil => intro st s h; cases h
  | cons x r ih =>
    intro st s h hk hl
    rw [tellP_cons]
    rcases List.mem_cons.1 h with rfl | h
    · refine tellP_mark r _ ?_
      unfold tell1P
      split
      · simp [hl]
      · rename_i hc
        obtain ⟨b, hb⟩ : ∃ b, st.1[s.n.toNat]? = some b := ⟨_, List.getElem?_eq_getElem hl⟩
        cases b with
        | true => exact hb
        | false => exact absurd ⟨hk, hb⟩ hc
    · exact ih _ h hk (by rw [tell1P_len]; exact hl)
theorem tellP_from (L : List Sr) : ∀ (st : List Bool × List Nat) {v : Nat}, v ∈ (tellP st L).2 → v ∈ st.2 ∨ ∃ s ∈ L, s.k = 2 ∧ v = s.n.toNat := by
  induction L with
  | nil => intro st v h; obtain ⟨vm, wt⟩ := st; exact .inl h
  | cons x r ih =>
    intro st v h
    rw [tellP_cons] at h
    rcases ih _ h with h1 | ⟨s, hs, hk, hv⟩
    · unfold tell1P at h1
      split at h1
      · rename_i hc
        simp at h1
        rcases h1 with h1 | rfl
        · exact .inl h1
        · exact .inr ⟨x, by simp, hc.1, rfl⟩
      · exact .inl h1
    · exact .inr ⟨s, by simp [hs], hk, hv⟩
/-- What a Virt's sources promise. -/
def Shut (S : Sr → Prop) (vm : List Bool) (l : List Sr) : Prop := (∀ s ∈ l, S s) ∧ ∀ s ∈ l, s.k = 2 → vm[s.n.toNat]? = some true
theorem Shut.more {S : Sr → Prop} {vm vm' : List Bool} {l : List Sr} (h : Shut S vm l) (f : ∀ (k : Nat), vm[k]? = some true → vm'[k]? = some true) : Shut S vm' l := ⟨h.1, fun s hs hk => f _ (h.2 s hs hk)⟩
/-- What marks promise: a link n is still to be come to, Virts wait. -/
structure Inv (a : AT) (S : Sr → Prop) (n : Int) (lm vm : List Bool) (wt : List Nat) : Prop where
  ll : lm.length = a.links.length
  vl : vm.length = a.virts.length
  lk : ∀ (k : Nat) (e : AE), lm[k]? = some true → a.links[k]? = some e → Shut S vm e.l ∧ (0 ≤ e.p.headD 0 → lm[(e.p.headD 0).toNat]? = some true ∨ e.p.headD 0 = n)
  vk : ∀ (v : Nat) (e : AE), vm[v]? = some true → a.virts[v]? = some e → v ∈ wt ∨ Shut S vm e.l
  wl : ∀ v ∈ wt, v < a.virts.length
theorem src_virt {s : Sr} {nv : Nat} (h : srcOk s nv = true) (hk : s.k = 2) : s.n.toNat < nv := by
  unfold srcOk at h
  rw [if_neg (by omega), if_neg (by omega), if_pos hk] at h
  simp at h
  omega
theorem src_var {s : Sr} {nv : Nat} (h : srcOk s nv = true) (hk : s.k = 1) : 0 ≤ s.n := by
  unfold srcOk at h
  rw [if_neg (by omega), if_pos hk] at h
  simp at h
  omega
theorem chain_inv {a : AT} {S : Sr → Prop} (hg : GoodT a) : ∀ (f : Nat) (lm vm : List Bool) (wt : List Nat) (ys : List Sr) (n : Int), n < f → n < a.links.length → Inv a S n lm vm wt → (∀ s ∈ (chainP a.links f lm (vm, wt) ys n).2.2, S s) →
    Inv a S (-1) (chainP a.links f lm (vm, wt) ys n).1 (chainP a.links f lm (vm, wt) ys n).2.1.1 (chainP a.links f lm (vm, wt) ys n).2.1.2 ∧ (0 ≤ n → (chainP a.links f lm (vm, wt) ys n).1[n.toNat]? = some true) ∧
    (∀ (k : Nat), lm[k]? = some true → (chainP a.links f lm (vm, wt) ys n).1[k]? = some true) ∧ (chainP a.links f lm (vm, wt) ys n).2.1.2.length + (chainP a.links f lm (vm, wt) ys n).2.1.1.count false = wt.length + vm.count false := by
  intro f
  induction f with
  | zero =>
    intro lm vm wt ys n hn _ h hS
    refine ⟨⟨h.ll, h.vl, fun k e hk he => ⟨(h.lk k e hk he).1, fun hu => ?_⟩, h.vk, h.wl⟩, fun h0 => by omega, fun k hk => hk, rfl⟩
    rcases (h.lk k e hk he).2 hu with h1 | h1
    · exact .inl h1
    · omega
  | succ f ih =>
    intro lm vm wt ys n hn hnl h hS
    by_cases hc : 0 ≤ n ∧ lm[n.toNat]? = some false
    · obtain ⟨m, rfl⟩ := Int.eq_ofNat_of_zero_le hc.1
      obtain ⟨_, hl⟩ := hc
      simp only [Int.toNat_natCast] at hl
      have hm : m < a.links.length := by omega
      obtain ⟨e, he⟩ : ∃ e, a.links[m]? = some e := ⟨_, List.getElem?_eq_getElem hm⟩
      have hup := hg.up m e he
      have hsrc : ∀ s ∈ e.l, srcOk s a.virts.length = true := fun s hs => hg.src s (.inl ⟨e, List.mem_of_getElem? he, hs⟩)
      rw [chainP_go hl he] at hS ⊢
      have hml : m < lm.length := by rw [h.ll]; exact hm
      have hSe : ∀ s ∈ e.l, S s := fun s hs => hS s ((chainP_pre _ _ _ _ _ _).subset (by simp [hs]))
      have hmk : ∀ (k : Nat), vm[k]? = some true → (tellP (vm, wt) e.l).1[k]? = some true := fun k hk => tellP_mark e.l (vm, wt) hk
      have hset : ∀ (k : Nat), lm[k]? = some true → (lm.set m true)[k]? = some true := fun k hk => by
        rw [List.getElem?_set]
        split
        · simp [hml]
        · exact hk
      have key : Inv a S (e.p.headD 0) (lm.set m true) (tellP (vm, wt) e.l).1 (tellP (vm, wt) e.l).2 := by
        refine ⟨by simpa using h.ll, by rw [tellP_len]; exact h.vl, fun k x hk hx => ?_, fun v x hv hx => ?_, tellP_lt e.l _ h.vl h.wl⟩
        · by_cases hkm : k = m
          · subst hkm
            rw [he] at hx
            cases hx
            exact ⟨⟨hSe, fun s hs hk2 => tellP_all e.l _ hs hk2 (by show _ < vm.length; rw [h.vl]; exact src_virt (hsrc s hs) hk2)⟩, fun _ => .inr rfl⟩
          · rw [List.getElem?_set_ne (by omega)] at hk
            obtain ⟨h1, h2⟩ := h.lk k x hk hx
            refine ⟨h1.more hmk, fun hu => ?_⟩
            rcases h2 hu with h3 | h3
            · exact .inl (hset _ h3)
            · left
              rw [h3]
              simp [hml]
        · rcases tellP_new e.l _ hv with h1 | h1
          · rcases h.vk v x h1 hx with h2 | h2
            · exact .inl (tellP_keep e.l _ h2)
            · exact .inr (h2.more hmk)
          · exact .inl h1
      obtain ⟨i1, i2, i3, i4⟩ := ih (lm.set m true) (tellP (vm, wt) e.l).1 (tellP (vm, wt) e.l).2 (ys ++ e.l) (e.p.headD 0) (by omega) (by omega) key hS
      refine ⟨i1, fun _ => i3 m (by simp [hml]), fun k hk => i3 k (hset k hk), ?_⟩
      rw [i4, tellP_cnt]
    · rw [chainP_end hc] at hS ⊢
      have hn1 : 0 ≤ n → lm[n.toNat]? = some true := fun h0 => by
        have hlt : n.toNat < lm.length := by rw [h.ll]; omega
        obtain ⟨b, hb⟩ : ∃ b, lm[n.toNat]? = some b := ⟨_, List.getElem?_eq_getElem hlt⟩
        cases b with
        | true => exact hb
        | false => exact absurd ⟨h0, hb⟩ hc
      refine ⟨⟨h.ll, h.vl, fun k e hk he => ⟨(h.lk k e hk he).1, fun hu => ?_⟩, h.vk, h.wl⟩, hn1, fun k hk => hk, rfl⟩
      rcases (h.lk k e hk he).2 hu with h1 | h1
      · exact .inl h1
      · left
        rw [h1]
        exact hn1 (by omega)
theorem virts_inv {a : AT} {S : Sr → Prop} (hg : GoodT a) : ∀ (f : Nat) (vm : List Bool) (wt : List Nat) (ys : List Sr), wt.length + vm.count false < f → vm.length = a.virts.length → (∀ v ∈ wt, v < a.virts.length) → (∀ (v : Nat) (e : AE), vm[v]? = some true → a.virts[v]? = some e → v ∈ wt ∨ Shut S vm e.l) → (∀ s ∈ (virtsP a.virts f (vm, wt) ys).2, S s) →
    (∀ (v : Nat) (e : AE), (virtsP a.virts f (vm, wt) ys).1.1[v]? = some true → a.virts[v]? = some e → Shut S (virtsP a.virts f (vm, wt) ys).1.1 e.l) ∧ (∀ (k : Nat), vm[k]? = some true → (virtsP a.virts f (vm, wt) ys).1.1[k]? = some true) ∧ (virtsP a.virts f (vm, wt) ys).1.1.length = a.virts.length := by
  intro f
  induction f with
  | zero => intro vm wt ys h; omega
  | succ f ih =>
    intro vm wt ys hc hl hw hv hS
    rcases List.eq_nil_or_concat wt with rfl | ⟨wt', v, rfl⟩
    · rw [virtsP_end] at hS ⊢
      refine ⟨fun v e h1 h2 => ?_, fun k hk => hk, hl⟩
      rcases hv v e h1 h2 with h | h
      · cases h
      · exact h
    · rw [List.concat_eq_append] at *
      have hvl : v < a.virts.length := hw v (by simp)
      obtain ⟨e, he⟩ : ∃ e, a.virts[v]? = some e := ⟨_, List.getElem?_eq_getElem hvl⟩
      rw [virtsP_go he] at hS ⊢
      have hsrc : ∀ s ∈ e.l, srcOk s a.virts.length = true := fun s hs => hg.src s (.inr ⟨e, List.mem_of_getElem? he, hs⟩)
      have hmk : ∀ (k : Nat), vm[k]? = some true → (tellP (vm, wt') e.l).1[k]? = some true := fun k hk => tellP_mark e.l (vm, wt') hk
      have hSe : ∀ s ∈ e.l, S s := fun s hs => hS s ((virtsP_pre _ _ _ _).subset (by simp [hs]))
      obtain ⟨i1, i2, i3⟩ := ih (tellP (vm, wt') e.l).1 (tellP (vm, wt') e.l).2 (ys ++ e.l) (by rw [tellP_cnt]; simp at hc ⊢; omega) (by rw [tellP_len]; exact hl) (tellP_lt e.l _ hl (fun u hu => hw u (by simp [hu]))) (fun u x hu hx => by
        rcases tellP_new e.l _ hu with h1 | h1
        · rcases hv u x h1 hx with h2 | h2
          · simp at h2
            rcases h2 with h2 | rfl
            · exact .inl (tellP_keep e.l _ h2)
            · rw [he] at hx
              cases hx
              exact .inr ⟨hSe, fun s hs hk2 => tellP_all e.l _ hs hk2 (by show _ < vm.length; rw [hl]; exact src_virt (hsrc s hs) hk2)⟩
          · exact .inr (h2.more hmk)
        · exact .inl h1) hS
      exact ⟨i1, fun k hk => i2 k (hmk k hk), i3⟩
/-- Marks behind a walk promise what they promised ahead of it, and the link is marked. -/
theorem walk_inv {a : AT} {S : Sr → Prop} (hg : GoodT a) {m : MK} {n : Int} (hnl : n < a.links.length) (h : Inv a S (-1) m.lm m.vm []) (hS : ∀ s ∈ (walkP a m n).1, S s) :
    Inv a S (-1) (walkP a m n).2.lm (walkP a m n).2.vm [] ∧ (0 ≤ n → (walkP a m n).2.lm[n.toNat]? = some true) := by
  have h0 : Inv a S n m.lm m.vm [] := ⟨h.ll, h.vl, fun k e hk he => ⟨(h.lk k e hk he).1, fun hu => by rcases (h.lk k e hk he).2 hu with h1 | h1; exact .inl h1; omega⟩, h.vk, h.wl⟩
  unfold walkP at hS ⊢
  obtain ⟨i1, i2, i3, i4⟩ := chain_inv hg (a.links.length + 1) m.lm m.vm [] [] n (by omega) hnl h0 (fun s hs => hS s ((virtsP_pre _ _ _ _).subset hs))
  generalize chainP a.links (a.links.length + 1) m.lm (m.vm, []) [] n = c at *
  obtain ⟨c1, ⟨c2, c3⟩, c4⟩ := c
  simp only at *
  have hcv : m.vm.count false ≤ a.virts.length := by rw [← h.vl]; exact List.count_le_length
  obtain ⟨j1, j2, j3⟩ := virts_inv (S := S) hg (a.virts.length + 1) c2 c3 c4 (by simp at i4; omega) i1.vl i1.wl i1.vk hS
  exact ⟨⟨i1.ll, j3, fun k e hk he => ⟨(i1.lk k e hk he).1.more j2, (i1.lk k e hk he).2⟩, fun v e hv he => .inr (j1 v e hv he), fun v hv => by cases hv⟩, i2⟩
/-- A walk from a link that is marked tells what the marks promise alone. -/
theorem chain_in {a : AT} {S : Sr → Prop} {lm vm : List Bool} (h : Inv a S (-1) lm vm []) : ∀ (f : Nat) (l0 : List Bool) (st : List Bool × List Nat) (ys : List Sr) (n : Int), (0 ≤ n → lm[n.toNat]? = some true) → (∀ s ∈ ys, S s) → (∀ v ∈ st.2, vm[v]? = some true) →
    (∀ s ∈ (chainP a.links f l0 st ys n).2.2, S s) ∧ ∀ v ∈ (chainP a.links f l0 st ys n).2.1.2, vm[v]? = some true := by
  intro f
  induction f with
  | zero => intro l0 st ys n _ h1 h2; exact ⟨h1, h2⟩
  | succ f ih =>
    intro l0 st ys n hn h1 h2
    by_cases hc : 0 ≤ n ∧ l0[n.toNat]? = some false
    · obtain ⟨m, rfl⟩ := Int.eq_ofNat_of_zero_le hc.1
      obtain ⟨h0, hl⟩ := hc
      simp only [Int.toNat_natCast] at hl hn
      have hm := hn h0
      have hml : m < a.links.length := by rw [← h.ll]; exact (List.getElem?_eq_some_iff.1 hm).1
      obtain ⟨e, he⟩ : ∃ e, a.links[m]? = some e := ⟨_, List.getElem?_eq_getElem hml⟩
      rw [chainP_go hl he]
      obtain ⟨q1, q2⟩ := h.lk m e hm he
      refine ih _ _ _ _ (fun hu => ?_) (fun s hs => ?_) (fun v hv => ?_)
      · rcases q2 hu with h3 | h3
        · exact h3
        · omega
      · rcases List.mem_append.1 hs with hs | hs
        · exact h1 s hs
        · exact q1.1 s hs
      · rcases tellP_from e.l _ hv with h3 | ⟨s, hs, hk, rfl⟩
        · exact h2 v h3
        · exact q1.2 s hs hk
    · rw [chainP_end hc]
      exact ⟨h1, h2⟩
theorem virts_in {a : AT} {S : Sr → Prop} {lm vm : List Bool} (h : Inv a S (-1) lm vm []) : ∀ (f : Nat) (v0 : List Bool) (wt : List Nat) (ys : List Sr), (∀ s ∈ ys, S s) → (∀ v ∈ wt, vm[v]? = some true) → ∀ s ∈ (virtsP a.virts f (v0, wt) ys).2, S s := by
  intro f
  induction f with
  | zero => intro v0 wt ys h1 h2; exact h1
  | succ f ih =>
    intro v0 wt ys h1 h2
    rcases List.eq_nil_or_concat wt with rfl | ⟨wt', v, rfl⟩
    · rw [virtsP_end]; exact h1
    · rw [List.concat_eq_append] at *
      have hv := h2 v (by simp)
      have hvl : v < a.virts.length := by rw [← h.vl]; exact (List.getElem?_eq_some_iff.1 hv).1
      obtain ⟨e, he⟩ : ∃ e, a.virts[v]? = some e := ⟨_, List.getElem?_eq_getElem hvl⟩
      rw [virtsP_go he]
      have q := (h.vk v e hv he).resolve_left (by simp)
      refine ih _ _ _ (fun s hs => ?_) (fun u hu => ?_)
      · rcases List.mem_append.1 hs with hs | hs
        · exact h1 s hs
        · exact q.1 s hs
      · rcases tellP_from e.l _ hu with h3 | ⟨s, hs, hk, rfl⟩
        · exact h2 u (by simp [h3])
        · exact q.2 s hs hk
theorem walk_in {a : AT} {S : Sr → Prop} {lm vm : List Bool} (h : Inv a S (-1) lm vm []) (m : MK) {n : Int} (hn : 0 ≤ n → lm[n.toNat]? = some true) : ∀ s ∈ (walkP a m n).1, S s := by
  unfold walkP
  obtain ⟨i1, i2⟩ := chain_in h (a.links.length + 1) m.lm (m.vm, []) [] n hn (fun s hs => by cases hs) (fun v hv => by cases hv)
  exact virts_in h _ _ _ _ i1 i2
theorem Inv.mono {a : AT} {S S' : Sr → Prop} {n : Int} {lm vm : List Bool} {wt : List Nat} (h : Inv a S n lm vm wt) (f : ∀ s, S s → S' s) : Inv a S' n lm vm wt :=
  ⟨h.ll, h.vl, fun k e hk he => ⟨⟨fun s hs => f s ((h.lk k e hk he).1.1 s hs), (h.lk k e hk he).1.2⟩, (h.lk k e hk he).2⟩, fun v e hv he => (h.vk v e hv he).imp id (fun q => ⟨fun s hs => f s (q.1 s hs), q.2⟩), h.wl⟩
theorem inv_start (a : AT) (S : Sr → Prop) : Inv a S (-1) (MK.start a).lm (MK.start a).vm [] :=
  ⟨by simp [MK.start], by simp [MK.start], fun k e hk => by simp [MK.start, List.getElem?_replicate] at hk, fun k e hk => by simp [MK.start, List.getElem?_replicate] at hk, fun v hv => by cases hv⟩
theorem madeOk_more {a : AT} {p q : Int} (h : p ≤ q) (s : Sr) (hs : madeOk a p s = true) : madeOk a q s = true := by
  unfold madeOk at hs ⊢
  split
  · rename_i hk
    rw [if_pos hk] at hs
    split
    · rfl
    · rename_i hn
      rw [if_neg hn] at hs
      simp at hs ⊢
      exact ⟨by omega, hs.2⟩
  · rfl
/-- What an operation that may be takes. -/
theorem ops_made {a : AT} (hg : GoodT a) : ∀ (d i : Nat) (m : MK), a.ops.length - i = d → Inv a (fun s => madeOk a i s = true) (-1) m.lm m.vm [] → opsP a m i (a.ops.drop i) = none →
    ∀ (j : Nat) (e : AE), i ≤ j → a.ops[j]? = some e → opOk0 a j (e.p.headD 0) e.l (e.q.getD 0 0) (e.q.getD 1 0) (e.q.getD 2 0) = true ∧ ∀ s ∈ (walkP a (MK.start a) (e.q.getD 2 0)).1, madeOk a j s = true := by
  intro d
  induction d with
  | zero =>
    intro i m hd _ _ j e hj he
    have := (List.getElem?_eq_some_iff.1 he).1
    omega
  | succ d ih =>
    intro i m hd hi ho j e hj he
    have hlt : i < a.ops.length := by omega
    obtain ⟨x, hx⟩ : ∃ x, a.ops[i]? = some x := ⟨_, List.getElem?_eq_getElem hlt⟩
    rw [opsP_drop hx] at ho
    by_cases hok : opOk a m i (x.p.headD 0) x.l (x.q.getD 0 0) (x.q.getD 1 0) (x.q.getD 2 0) = true
    · rw [if_pos hok] at ho
      unfold opOk at hok
      rw [Bool.and_eq_true] at hok
      obtain ⟨h0, h1⟩ := hok
      have hsn : x.q.getD 2 0 < a.links.length := by
        unfold opOk0 at h0
        simp only [Bool.and_eq_true, snOk, decide_eq_true_eq] at h0
        omega
      obtain ⟨w1, w2⟩ := walk_inv (S := fun s => madeOk a i s = true) hg (m := m) hsn hi (fun s hs => List.all_eq_true.1 h1 s hs)
      by_cases hji : j = i
      · subst hji
        rw [hx] at he
        cases he
        exact ⟨h0, walk_in w1 _ w2⟩
      · exact ih (i + 1) _ (by omega) (by
          have := w1.mono (S' := fun s => madeOk a ((i + 1 : Nat) : Int) s = true) (fun s hs => madeOk_more (by omega) s hs)
          exact this) ho j e (by omega) he
    · rw [if_neg hok] at ho
      cases ho
theorem chain_srcs (a : AT) : ∀ (f : Nat) (lm : List Bool) (st : List Bool × List Nat) (ys : List Sr) (n : Int), ∀ s ∈ (chainP a.links f lm st ys n).2.2, s ∈ ys ∨ a.srcs s := by
  intro f
  induction f with
  | zero => intro lm st ys n s hs; exact .inl hs
  | succ f ih =>
    intro lm st ys n s hs
    by_cases hc : 0 ≤ n ∧ lm[n.toNat]? = some false
    · obtain ⟨m, rfl⟩ := Int.eq_ofNat_of_zero_le hc.1
      obtain ⟨h0, hl⟩ := hc
      simp only [Int.toNat_natCast] at hl
      cases he : a.links[m]? with
      | none => unfold chainP at hs; rw [if_pos ⟨h0, by simpa using hl⟩] at hs; simp only [Int.toNat_natCast, he] at hs; exact .inl hs
      | some e =>
        rw [chainP_go hl he] at hs
        rcases ih _ _ _ _ s hs with h | h
        · rcases List.mem_append.1 h with h | h
          · exact .inl h
          · exact .inr (.inl ⟨e, List.mem_of_getElem? he, h⟩)
        · exact .inr h
    · rw [chainP_end hc] at hs
      exact .inl hs
theorem virts_srcs (a : AT) : ∀ (f : Nat) (vm : List Bool) (wt : List Nat) (ys : List Sr), ∀ s ∈ (virtsP a.virts f (vm, wt) ys).2, s ∈ ys ∨ a.srcs s := by
  intro f
  induction f with
  | zero => intro vm wt ys s hs; exact .inl hs
  | succ f ih =>
    intro vm wt ys s hs
    rcases List.eq_nil_or_concat wt with rfl | ⟨wt', v, rfl⟩
    · rw [virtsP_end] at hs; exact .inl hs
    · rw [List.concat_eq_append] at *
      cases he : a.virts[v]? with
      | none => unfold virtsP at hs; simp only [List.getLast?_append, List.getLast?_singleton, Option.some_or, he] at hs; exact .inl hs
      | some e =>
        rw [virtsP_go he] at hs
        rcases ih _ _ _ s hs with h | h
        · rcases List.mem_append.1 h with h | h
          · exact .inl h
          · exact .inr (.inr ⟨e, List.mem_of_getElem? he, h⟩)
        · exact .inr h
theorem walk_srcs (a : AT) (m : MK) (n : Int) : ∀ s ∈ (walkP a m n).1, a.srcs s := by
  intro s hs
  unfold walkP at hs
  rcases virts_srcs a _ _ _ _ s hs with h | h
  · rcases chain_srcs a _ _ _ _ _ s h with h | h
    · cases h
    · exact h
  · exact h
/-- What a walk tells isn't long where lists aren't. -/
theorem chain_len {a : AT} (h : ∀ e ∈ a.links, e.l.length ≤ 1000) : ∀ (f : Nat) (lm : List Bool) (st : List Bool × List Nat) (ys : List Sr) (n : Int), (chainP a.links f lm st ys n).2.2.length ≤ ys.length + f * 1000 := by
  intro f
  induction f with
  | zero => intro lm st ys n; simp [chainP]
  | succ f ih =>
    intro lm st ys n
    by_cases hc : 0 ≤ n ∧ lm[n.toNat]? = some false
    · obtain ⟨m, rfl⟩ := Int.eq_ofNat_of_zero_le hc.1
      obtain ⟨h0, hl⟩ := hc
      simp only [Int.toNat_natCast] at hl
      cases he : a.links[m]? with
      | none => unfold chainP; rw [if_pos ⟨h0, by simpa using hl⟩]; simp only [Int.toNat_natCast, he]; omega
      | some e =>
        rw [chainP_go hl he]
        have h1 := ih (lm.set m true) (tellP st e.l) (ys ++ e.l) (e.p.headD 0)
        have h2 := h e (List.mem_of_getElem? he)
        rw [List.length_append] at h1
        have h3 : (f + 1) * 1000 = f * 1000 + 1000 := by omega
        omega
    · rw [chainP_end hc]
      simp
theorem virts_len {a : AT} (h : ∀ e ∈ a.virts, e.l.length ≤ 1000) : ∀ (f : Nat) (vm : List Bool) (wt : List Nat) (ys : List Sr), (virtsP a.virts f (vm, wt) ys).2.length ≤ ys.length + f * 1000 := by
  intro f
  induction f with
  | zero => intro vm wt ys; simp [virtsP]
  | succ f ih =>
    intro vm wt ys
    rcases List.eq_nil_or_concat wt with rfl | ⟨wt', v, rfl⟩
    · rw [virtsP_end]; simp
    · rw [List.concat_eq_append] at *
      cases he : a.virts[v]? with
      | none => unfold virtsP; simp only [List.getLast?_append, List.getLast?_singleton, Option.some_or, he]; omega
      | some e =>
        rw [virtsP_go he]
        have h1 := ih (tellP (vm, wt') e.l).1 (tellP (vm, wt') e.l).2 (ys ++ e.l)
        have h2 := h e (List.mem_of_getElem? he)
        rw [List.length_append] at h1
        show (virtsP a.virts f ((tellP (vm, wt') e.l).1, (tellP (vm, wt') e.l).2) (ys ++ e.l)).2.length ≤ _
        have h3 : (f + 1) * 1000 = f * 1000 + 1000 := by omega
        omega
theorem walk_len {a : AT} (h1 : ∀ e ∈ a.links, e.l.length ≤ 1000) (h2 : ∀ e ∈ a.virts, e.l.length ≤ 1000) (m : MK) (n : Int) : (walkP a m n).1.length ≤ (a.links.length + a.virts.length + 2) * 1000 := by
  unfold walkP
  have q1 := chain_len h1 (a.links.length + 1) m.lm (m.vm, []) [] n
  generalize chainP a.links (a.links.length + 1) m.lm (m.vm, []) [] n = c at *
  have q2 := virts_len h2 (a.virts.length + 1) c.2.1.1 c.2.1.2 c.2.2
  simp at q1
  have e : virtsP a.virts (a.virts.length + 1) c.2.1 c.2.2 = virtsP a.virts (a.virts.length + 1) (c.2.1.1, c.2.1.2) c.2.2 := rfl
  show (virtsP a.virts (a.virts.length + 1) c.2.1 c.2.2).2.length ≤ _
  rw [e]
  omega
theorem mem_compact {α : Type} [Inhabited α] [DecidableEq α] {zs : List α} {x : α} (h : x ∈ Lib.compact zs) : x ∈ zs := by
  unfold Lib.compact Lib.compactUpTo at h
  obtain ⟨i, hi, rfl⟩ := List.mem_map.1 h
  have hi' : i < zs.length := List.mem_range.1 (List.mem_filter.1 hi).1
  simp [getElem!_pos, hi']
theorem links_short {nv : Nat} : ∀ (L : List AE) (n : Nat), linksOk nv n L = true → ∀ e ∈ L, e.l.length ≤ 1000
  | [], _, _, e, he => by cases he
  | x :: r, n, h, e, he => by
    simp only [linksOk, Bool.and_eq_true] at h
    rcases List.mem_cons.1 he with rfl | he
    · have := h.1
      unfold linkOk at this
      simp only [Bool.and_eq_true, decide_eq_true_eq] at this
      omega
    · exact links_short r (n + 1) h.2 e he
/-- What a trace that may be keeps. -/
structure Whole (a : AT) : Prop where
  good : GoodT a
  ops : ∀ (j : Nat) (e : AE), a.ops[j]? = some e → opOk0 a j (e.p.headD 0) e.l (e.q.getD 0 0) (e.q.getD 1 0) (e.q.getD 2 0) = true ∧ ∀ s ∈ (walkP a (MK.start a) (e.q.getD 2 0)).1, madeOk a j s = true
  back : ∀ s ∈ a.back, argOk a a.ops.length s = true
  ll : ∀ e ∈ a.links, e.l.length ≤ 1000
  vl : ∀ e ∈ a.virts, e.l.length ≤ 1000
theorem whole_of {a : AT} (ha : ATOk a) (h : wholeP a = none) : Whole a := by
  unfold wholeP at h
  by_cases hc : (linksOk a.virts.length 0 a.links && a.virts.all (virtOk a.virts.length)) = true
  · rw [if_pos hc] at h
    simp only [Bool.and_eq_true] at hc
    have hg := good_of hc.1 hc.2 ha
    cases ho : opsP a (MK.start a) 0 a.ops with
    | some i => rw [ho] at h; cases h
    | none =>
      rw [ho] at h
      simp only at h
      by_cases hr : restOk a = true
      · refine ⟨hg, fun j e he => ops_made hg a.ops.length 0 (MK.start a) (by omega) (inv_start a _) (by rw [List.drop_zero]; exact ho) j e (Nat.zero_le _) he, fun s hs => ?_, links_short _ _ hc.1, fun e he => ?_⟩
        · unfold restOk backOk at hr
          simp only [Bool.and_eq_true] at hr
          exact List.all_eq_true.1 hr.2.2 s hs
        · have := List.all_eq_true.1 hc.2 e he
          unfold virtOk at this
          simp only [Bool.and_eq_true, decide_eq_true_eq] at this
          omega
      · rw [if_neg hr] at h
        cases h
  · rw [if_neg hc] at h
    cases h
theorem Whole.sn {a : AT} (h : Whole a) {i : Nat} {e : AE} (he : a.ops[i]? = some e) : -1 ≤ e.q.getD 2 0 ∧ e.q.getD 2 0 < a.links.length := by
  have h0 := (h.ops i e he).1
  unfold opOk0 at h0
  simp only [Bool.and_eq_true, snOk, decide_eq_true_eq] at h0
  omega
theorem Whole.told {a : AT} (h : Whole a) {i : Nat} (hi : i ≤ a.ops.length) : ∀ s ∈ toldP a i, srcOk s a.virts.length = true ∧ madeOk a i s = true := by
  intro s hs
  unfold toldP at hs
  cases he : a.ops[i]? with
  | some e =>
    rw [he] at hs
    simp only at hs
    obtain ⟨h0, h1⟩ := h.ops i e he
    rcases List.mem_append.1 hs with hs | hs
    · unfold opOk0 argsOk at h0
      simp only [Bool.and_eq_true] at h0
      have := List.all_eq_true.1 h0.2.1.1.2 s hs
      unfold argOk at this
      simp only [Bool.and_eq_true] at this
      exact ⟨this.1.1, this.2⟩
    · exact ⟨h.good.src s (walk_srcs _ _ _ s hs), h1 s hs⟩
  | none =>
    rw [he] at hs
    simp only at hs
    have hii : i = a.ops.length := by have := List.getElem?_eq_none_iff.1 he; omega
    subst hii
    rcases List.mem_append.1 hs with hs | hs
    · have := h.back s hs
      unfold argOk at this
      simp only [Bool.and_eq_true] at this
      exact ⟨this.1.1, this.2⟩
    · exact (walk_in (S := fun _ => False) (inv_start a _) (MK.start a) (n := -1) (by omega) s hs).elim
theorem uses_made {a : AT} (ha : ATOk a) {i : Nat} (hi : i ≤ a.ops.length) {x : Int} (hx : x ∈ usesP a i) : 0 ≤ x ∧ x < a.ins.length + i ∧ ((a.ins.length : Int) ≤ x → (rowP (a.opN (x - a.ins.length).toNat)).mkv = true) := by
  unfold usesP at hx
  split at hx
  · cases hx
  · rename_i hc
    have hok : wholeP a = none := by
      by_cases h : wholeP a = none
      · exact h
      · exact absurd (.inr (.inr h)) hc
    have hW := whole_of ha hok
    have h1 := mem_compact hx
    rw [List.mem_mergeSort] at h1
    simp only [Int.toNat_natCast, vr, List.mem_map, List.mem_filter, decide_eq_true_eq] at h1
    obtain ⟨s, ⟨hs, hk⟩, rfl⟩ := h1
    obtain ⟨q1, q2⟩ := hW.told hi s hs
    have q3 := src_var q1 hk
    unfold madeOk at q2
    rw [if_pos hk] at q2
    by_cases hn : s.n < (a.ins.length : Int)
    · exact ⟨q3, by omega, fun h => by omega⟩
    · rw [if_neg hn] at q2
      simp only [Bool.and_eq_true, decide_eq_true_eq] at q2
      exact ⟨q3, by omega, fun _ => q2.2⟩
theorem Whole.told_len {a : AT} (h : Whole a) {N : Nat} (h1 : a.links.length ≤ N) (h2 : a.virts.length ≤ N) (h3 : a.back.length ≤ N) (h4 : ∀ e ∈ a.ops, e.l.length ≤ N) (i : Nat) : (toldP a i).length ≤ N + (2 * N + 2) * 1000 := by
  unfold toldP
  cases he : a.ops[i]? with
  | some e =>
    have q1 := walk_len h.ll h.vl (MK.start a) (e.q.getD 2 0)
    have q2 := h4 e (List.mem_of_getElem? he)
    simp only [List.length_append]
    omega
  | none =>
    have q1 := walk_len h.ll h.vl (MK.start a) (-1)
    simp only [List.length_append]
    omega
end Go.Proofs.YtkogfgbgmifcnaaDoor
