/-
  Texts of the proof, in their order: GodA, GodB, GodC, GodD, GodE, GodW; conditions: as each says.
-/
import Derived.Test.YtnkjgggbiokfbaaGreatDoorMgKJCN
namespace Go.Proofs.YtnkjgggbiokfbaaGreatDoor
open Go.RowKit
set_option linter.unusedVariables false
set_option linter.unusedSimpArgs false

theorem valL_snoc {b : Nat} (c : UInt8) : ∀ (a : List UInt8) (n : Nat), valL b (a ++ [c]) n = (valL b a n).bind (fun m => if b ≤ fig c.toNat ∨ (9223372036854775807 - fig c.toNat) / b < m then none else some (m * b + fig c.toNat))
  | [], n => by simp [valL]
  | d :: a, n => by
    simp only [List.cons_append, valL]
    split
    · rfl
    · exact valL_snoc c a _
theorem dig_toNat {d : Nat} (h : d < 10) : (UInt8.ofNat (48 + d)).toNat = 48 + d := by
  rw [UInt8.toNat_ofNat']
  omega
theorem fig_dig {d : Nat} (h : d < 10) : fig (UInt8.ofNat (48 + d)).toNat = d := by
  rw [dig_toNat h]
  unfold fig
  rw [if_pos (by simp [isDig]; omega)]
  omega
theorem val_dec : ∀ (f n : Nat), n ≤ f → n ≤ 9223372036854775807 → valL 10 (Lib.decDigits n) 0 = some n
  | 0, n, h, _ => by
    obtain rfl : n = 0 := by omega
    rw [Lib.decDigits_one (by omega)]
    simp only [valL, fig_dig (show 0 < 10 by omega)]
    simp
  | f + 1, n, h, hn => by
    by_cases h10 : n < 10
    · rw [Lib.decDigits_one h10]
      simp only [valL, fig_dig h10]
      rw [if_neg (by omega)]
      simp
    · rw [Lib.decDigits, dif_neg h10, valL_snoc, val_dec f (n / 10) (by omega) (by omega)]
      simp only [Option.bind_some, fig_dig (Nat.mod_lt n (show 0 < 10 by omega))]
      rw [if_neg (by omega)]
      congr 1
      omega
theorem dec_head : ∀ (f n : Nat), n ≤ f → ∃ d r, Lib.decDigits n = UInt8.ofNat (48 + d) :: r ∧ d < 10 ∧ (d = 0 → n = 0)
  | 0, n, h => by
    obtain rfl : n = 0 := by omega
    exact ⟨0, [], Lib.decDigits_one (by omega), by omega, fun _ => rfl⟩
  | f + 1, n, h => by
    by_cases h10 : n < 10
    · exact ⟨n, [], Lib.decDigits_one h10, h10, fun e => e⟩
    · obtain ⟨d, r, h1, h2, h3⟩ := dec_head f (n / 10) (by omega)
      refine ⟨d, r ++ [UInt8.ofNat (48 + n % 10)], ?_, h2, fun e => ?_⟩
      · rw [Lib.decDigits, dif_neg h10, h1]; rfl
      · have := h3 e; omega
theorem dec_all : ∀ (f n : Nat), n ≤ f → ∀ c ∈ Lib.decDigits n, ∃ d, d < 10 ∧ c = UInt8.ofNat (48 + d)
  | 0, n, h, c, hc => by
    obtain rfl : n = 0 := by omega
    rw [Lib.decDigits_one (by omega)] at hc
    simp at hc
    exact ⟨0, by omega, by simpa using hc⟩
  | f + 1, n, h, c, hc => by
    by_cases h10 : n < 10
    · rw [Lib.decDigits_one h10] at hc
      exact ⟨n, h10, by simpa using hc⟩
    · rw [Lib.decDigits, dif_neg h10] at hc
      rcases List.mem_append.1 hc with hc | hc
      · exact dec_all f (n / 10) (by omega) c hc
      · exact ⟨n % 10, Nat.mod_lt _ (by omega), by simpa using hc⟩
theorem decL_dec {n : Nat} (hn : n ≤ 9223372036854775807) : T5.decL ⟨(Lib.decDigits n).toArray⟩ = true := by
  obtain ⟨d, r, h1, h2, h3⟩ := dec_head n n (Nat.le_refl _)
  have h48 : UInt8.ofNat (48 + d) ≠ 39 := fun e => by have := congrArg UInt8.toNat e; rw [dig_toNat h2] at this; simp at this; omega
  have hq : quotedL (Lib.decDigits n) = false := by
    unfold quotedL
    apply decide_eq_false
    rintro ⟨_, e, _⟩
    rw [h1] at e
    simp at e
    exact h48 (by simpa using e)
  have hx : (Lib.decDigits n).take 2 ≠ [48, 120] := fun e => by
    have hm : (120 : UInt8) ∈ Lib.decDigits n := List.mem_of_mem_take (show (120 : UInt8) ∈ (Lib.decDigits n).take 2 by rw [e]; simp)
    obtain ⟨d', hd', e'⟩ := dec_all n n (Nat.le_refl _) _ hm
    have := congrArg UInt8.toNat e'
    rw [dig_toNat hd'] at this
    simp at this
    omega
  have hv : numL (Lib.decDigits n) = some n := by
    unfold numL
    rw [if_neg (by rw [hq]; simp), if_neg hx]
    unfold valueL
    rw [if_neg (by rw [h1]; simp), val_dec n n (Nat.le_refl _) hn]
  unfold T5.decL num
  simp only [hv, Option.isSome_some, Bool.true_and, Bool.or_eq_true, decide_eq_true_eq]
  by_cases hd : d = 0
  · left
    have := h3 hd
    subst this
    exact Lib.decDigits_one (by omega)
  · right
    rw [h1]
    simp only [List.headD_cons]
    rw [dig_toNat h2]
    omega
theorem bin_line {s : List UInt8} (h : lineL s ≠ 0) : T5.binaries.contains s = true := by
  unfold lineL at h
  simp only [T5.binaries, List.contains_cons, List.contains_nil, Bool.or_false, Bool.or_eq_true, beq_iff_eq]
  by_cases e1 : s = [61, 61] ∨ s = [33, 61] ∨ s = [60] ∨ s = [60, 61]
  · rcases e1 with e | e | e | e <;> simp [e]
  · rw [if_neg e1] at h
    by_cases e2 : s = [124] ∨ s = [94]
    · rcases e2 with e | e <;> simp [e]
    · rw [if_neg e2] at h
      by_cases e3 : s = [38]
      · simp [e3]
      · rw [if_neg e3] at h
        by_cases e4 : s = [60, 60] ∨ s = [62, 62]
        · rcases e4 with e | e <;> simp [e]
        · rw [if_neg e4] at h
          by_cases e5 : s = [43] ∨ s = [45]
          · rcases e5 with e | e <;> simp [e]
          · rw [if_neg e5] at h
            by_cases e6 : s = [42] ∨ s = [47] ∨ s = [37]
            · rcases e6 with e | e | e <;> simp [e]
            · rw [if_neg e6] at h; exact absurd rfl h
/-- A token stands at its place, and a name is one. -/
structure TokS (l : List UInt8) (t : Tok) : Prop where
  nm : t.kind = 1 → nameL t.text = true
  at_ : (l.drop t.frm).take t.text.length = t.text
  le : t.frm + t.text.length ≤ l.length
theorem run_take {l : List UInt8} : runL (l.take (runL l)) = (l.take (runL l)).length := by
  induction l with
  | nil => rfl
  | cons c r ih =>
    simp only [runL]
    split
    · rename_i hw
      simp only [List.take_succ_cons, runL, hw, if_true, List.length_cons]
      rw [ih]
    · rfl
theorem readL_at {p : Nat} {l : List UInt8} {t : Tok} (hl : l ≠ []) (h : readL p l = .ok t) : (t.kind = 1 → nameL t.text = true) ∧ l.take t.text.length = t.text ∧ t.text.length ≤ l.length := by
  obtain ⟨c, r, rfl⟩ : ∃ c r, l = c :: r := by cases l with | nil => exact absurd rfl hl | cons c r => exact ⟨c, r, rfl⟩
  have tk : ∀ n, List.take (List.take n (c :: r)).length (c :: r) = List.take n (c :: r) := fun n => by
    rw [List.length_take]
    rcases Nat.le_total n (c :: r).length with h | h
    · rw [Nat.min_eq_left h]
    · rw [Nat.min_eq_right h, List.take_of_length_le h, List.take_of_length_le (Nat.le_refl _)]
  have tl : ∀ n, (List.take n (c :: r)).length ≤ (c :: r).length := fun n => by rw [List.length_take]; omega
  unfold readL at h
  simp only [List.getD_cons_zero] at h
  split at h
  · rename_i hk
    cases h
    refine ⟨fun hs => ?_, tk _, tl _⟩
    simp only at hs ⊢
    have hw : ¬ wordL (List.take (runL (c :: r)) (c :: r)) = true := by
      split at hs
      · simp at hs
      · assumption
    have hlet := kind2 hk
    unfold nameL
    have hr : runL (c :: r) = runL r + 1 := by simp [runL, isWd, hlet]
    have e : List.take (runL (c :: r)) (c :: r) = c :: List.take (runL r) r := by rw [hr]; rfl
    have hrun := run_take (l := c :: r)
    rw [hrun]
    rw [show (wordL (List.take (runL (c :: r)) (c :: r))) = false by simpa using hw, e]
    simp [hlet]
  · split at h
    · split at h
      · cases h
      · cases h
        exact ⟨fun hs => by simp at hs, tk _, tl _⟩
    · split at h
      · split at h
        · cases h
        · cases h
          exact ⟨fun hs => by simp at hs, tk _, tl _⟩
      · split at h
        · cases h
        · cases h
          exact ⟨fun hs => by simp at hs, tk _, tl _⟩
theorem scanL_at (B : List UInt8) : ∀ (f p : Nat) (l : List UInt8), B.drop p = l → p + l.length = B.length → ∀ t ∈ (scanL f p l).1, TokS B t
  | 0, p, l, _, _ => by simp [scanL]
  | f + 1, p, l, hB, hp => by
    simp only [scanL]
    split
    · simp
    · rename_i hs
      have hs2 := skipL_le false l
      have hne : l.drop (skipL false l) ≠ [] := fun e => by
        have := congrArg List.length e
        simp at this
        omega
      split
      · simp
      · rename_i t ht
        have h1 := readL_at hne ht
        have h0 := (readL_tok hne ht).2.2
        have ht2 := readL_to hne ht
        rw [List.length_drop] at ht2 h1
        have h3 := scanL_at B f t.to (l.drop (t.to - p)) (by rw [← hB, List.drop_drop]; congr 1; omega) (by rw [List.length_drop]; omega)
        intro u hu
        rcases List.mem_cons.1 hu with rfl | hu
        · refine ⟨h1.1, ?_, by omega⟩
          rw [h0, ← List.drop_drop, hB]
          exact h1.2.1
        · exact h3 u hu
theorem toks_at {s : ByteArray} {ts : List Tok} (h : (sc s 0).1 = ts) : ∀ i, i < (ts ++ [(⟨0, [], s.size, s.size, 0⟩ : Tok)]).length → TokS s.data.toList (tk (ts ++ [(⟨0, [], s.size, s.size, 0⟩ : Tok)]) i) := by
  intro i hi
  have g := scanL_at s.data.toList (s.size + 1) 0 (s.data.toList.drop 0) (by simp) (by simp)
  have e : (scanL (s.size + 1) 0 (s.data.toList.drop 0)).1 = ts := h
  rw [e] at g
  simp only [List.length_append, List.length_cons, List.length_nil] at hi
  unfold tk
  rw [List.getD_eq_getElem?_getD]
  by_cases hlt : i < ts.length
  · rw [List.getElem?_append_left hlt, List.getElem?_eq_getElem hlt]
    exact g _ (List.getElem_mem hlt)
  · have : i = ts.length := by omega
    subst this
    simp only [List.getElem?_concat_length, Option.getD_some]
    exact ⟨fun h => by simp at h, by simp, by simp⟩
end Go.Proofs.YtnkjgggbiokfbaaGreatDoor
namespace Go.Proofs.YtnkjgggbiokfbaaGreatDoor
open Go.RowKit
set_option linter.unusedVariables false
set_option linter.unusedSimpArgs false

def kinds (ns : List PN) (ks : List Nat) : List Int := ks.map (fun k => ((kdN ns k : Nat) : Int))
/-- A node that may stand behind others. -/
def okN (ns : List PN) (x : PN) : Prop := ∃ t ls, T5.wantL x.kind = some (t, ls) ∧ T5.textL t ⟨x.text.toArray⟩ = true ∧ T5.shapeL x.kind (kinds ns x.kids) = true
/-- Nodes that are laid, and those that are nobody's kids yet, in order. -/
inductive St : List PN → List Nat → Prop
  | nil : St [] []
  | lay {ns : List PN} {ρ ks : List Nat} {kind : Nat} {text : List UInt8} {pl : Nat} (h : St ns (ρ ++ ks)) (hok : okN ns ⟨kind, text, ks, pl⟩) : St (ns ++ [⟨kind, text, ks, pl⟩]) (ρ ++ [ns.length])
def Ext (ns ms : List PN) : Prop := ∃ e, ms = ns ++ e
theorem Ext.refl (ns : List PN) : Ext ns ns := ⟨[], by simp⟩
theorem Ext.trans {a b c : List PN} (h : Ext a b) (k : Ext b c) : Ext a c := by
  obtain ⟨e, rfl⟩ := h
  obtain ⟨e', rfl⟩ := k
  exact ⟨e ++ e', by simp⟩
theorem Ext.le {a b : List PN} (h : Ext a b) : a.length ≤ b.length := by obtain ⟨e, rfl⟩ := h; simp
theorem Ext.kd {a b : List PN} (h : Ext a b) {n : Nat} (hn : n < a.length) : kdN b n = kdN a n := by
  obtain ⟨e, rfl⟩ := h
  unfold kdN
  rw [List.getElem?_append_left hn]
/-- One number, of a node of a class. -/
def One (c : Nat → Bool) (ms : List PN) (v : List Nat) : Prop := ∃ n, v = [n] ∧ n < ms.length ∧ c (kdN ms n) = true
def Many (c : Nat → Bool) (ms : List PN) (v : List Nat) : Prop := ∀ n ∈ v, n < ms.length ∧ c (kdN ms n) = true
theorem Many.ext {c : Nat → Bool} {a b : List PN} {v : List Nat} (h : Many c a v) (x : Ext a b) : Many c b v := fun n hn => by
  obtain ⟨h1, h2⟩ := h n hn
  exact ⟨Nat.lt_of_lt_of_le h1 x.le, by rw [x.kd h1]; exact h2⟩
theorem One.many {c : Nat → Bool} {a : List PN} {v : List Nat} (h : One c a v) : Many c a v := fun n hn => by
  obtain ⟨m, rfl, h1, h2⟩ := h
  simp at hn
  subst hn
  exact ⟨h1, h2⟩
theorem Many.app {c : Nat → Bool} {a : List PN} {u v : List Nat} (h : Many c a u) (k : Many c a v) : Many c a (u ++ v) := fun n hn => by
  rcases List.mem_append.1 hn with hn | hn
  · exact h n hn
  · exact k n hn
theorem Many.nil {c : Nat → Bool} {a : List PN} : Many c a [] := fun n hn => by cases hn
theorem One.new {c : Nat → Bool} {ns : List PN} {x : PN} (h : c x.kind = true) : One c (ns ++ [x]) [ns.length] := ⟨ns.length, rfl, by simp, by unfold kdN; simpa using h⟩
theorem One.hd {c : Nat → Bool} {ms : List PN} {v : List Nat} (h : One c ms v) : v = [hd v] ∧ Many c ms [Go.Proofs.YtnkjgggbiokfbaaGreatDoor.hd v] := by
  obtain ⟨n, rfl, h1, h2⟩ := h
  exact ⟨rfl, fun m hm => by simp [Go.Proofs.YtnkjgggbiokfbaaGreatDoor.hd] at hm; subst hm; exact ⟨h1, h2⟩⟩

/-- From what is nobody's (A, last) reading comes to v. -/
def Pres (A : List Nat) (ns : List PN) (r : R) (Q : List PN → List Nat → Prop) : Prop := ∀ ρ v j ms, r = some (.ok (v, j, ms)) → St ns (ρ ++ A) → St ms (ρ ++ v) ∧ Q ms v ∧ Ext ns ms
section
variable {Q Q1 : List PN → List Nat → Prop} {A : List Nat} {ns : List PN} {ts : List Tok}
theorem Pres.err {e : Nat} : Pres A ns (some (.error e)) Q := fun _ _ _ _ h => by cases h
theorem Pres.none : Pres A ns none Q := fun _ _ _ _ h => by cases h
theorem Pres.bind {pn : List Nat} {r : R} {k : List Nat → Nat → List PN → R} (A0 : List Nat) (h : Pres pn ns r Q1) (hk : ∀ v j ms, Q1 ms v → Ext ns ms → Pres (A0 ++ v) ms (k v j ms) Q) : Pres (A0 ++ pn) ns (bindR r k) Q := by
  intro ρ v j ms e hs
  rcases bindR_some e with ⟨er, hr, he⟩ | ⟨v1, j1, n1, hr, hP⟩
  · cases he
  · obtain ⟨h1, h2, h3⟩ := h (ρ ++ A0) v1 j1 n1 hr (by simpa using hs)
    obtain ⟨g1, g2, g3⟩ := hk v1 j1 n1 h2 h3 ρ v j ms hP (by simpa using h1)
    exact ⟨g1, g2, h3.trans g3⟩
theorem Pres.want {s : List UInt8} {i : Nat} {x : R} (h : nx ts i = s → Pres A ns x Q) : Pres A ns (wantR ts s i x) Q := by
  unfold wantR
  split
  · rename_i e; exact h e
  · exact Pres.err
theorem Pres.lay {kind : Nat} {text : List UInt8} {pl i : Nat} (hok : okN ns ⟨kind, text, A, pl⟩) (hQ : Q (ns ++ [⟨kind, text, A, pl⟩]) [ns.length]) : Pres A ns (layR kind text pl A i ns) Q := by
  intro ρ v j ms e hs
  cases e
  exact ⟨St.lay hs hok, hQ, ⟨_, rfl⟩⟩
theorem Pres.ok {i : Nat} (hQ : Q ns A) : Pres A ns (some (.ok (A, i, ns))) Q := by
  intro ρ v j ms e hs
  cases e
  exact ⟨hs, hQ, Ext.refl _⟩
theorem Pres.imp {r : R} (h : Pres A ns r Q1) (hq : ∀ ms v, Q1 ms v → Q ms v) : Pres A ns r Q := fun ρ v j ms e hs => by
  obtain ⟨h1, h2, h3⟩ := h ρ v j ms e hs
  exact ⟨h1, hq _ _ h2, h3⟩
end

def c1 (k : Nat) : Bool := k == 1
def cD (k : Nat) : Bool := k == 2 || k == 3
def cB (k : Nat) : Bool := k == 4
def cO (k : Nat) : Bool := k == 4 || k == 14
def cN (k : Nat) : Bool := k == 17
def cS (k : Nat) : Bool := decide (5 ≤ k ∧ k ≤ 13)
def cE (k : Nat) : Bool := decide (15 ≤ k ∧ k ≤ 30)
def un (t : Tok) : Prop := T5.unaries.contains t.text = true
/-- What is nobody's ahead of a step. -/
def pend : NT → List Nat
  | .progL acc => acc | .blockL _ acc => acc | .setS p => [p] | .chainL _ n => [n] | .joined n _ => [n] | .backL n => [n] | .field n => [n] | .elem n => [n] | .listedL _ _ acc => acc | .laySigns _ n => [n]
  | _ => []
def KP (ns : List PN) : NT → Prop
  | .progL acc => Many cD ns acc | .blockL _ acc => Many cS ns acc | .setS p => Many cE ns [p] ∧ placeK (kdN ns p) = true | .chain l => 0 < l | .chainL l n => Many cE ns [n] ∧ 0 < l | .joined n l => Many cE ns [n] ∧ 0 < l | .backL n => Many cE ns [n] | .field n => Many cE ns [n] | .elem n => Many cE ns [n]
  | .listedL th _ acc => Many (if th then cE else cN) ns acc | .laySigns acc n => Many cE ns [n] ∧ ∀ t ∈ acc, un t | .signedL acc => ∀ t ∈ acc, un t
  | .worded k => k = 9 ∨ k = 10 ∨ k = 11 | .alone k => k = 16 ∨ k = 30 | .empty k => k = 26 ∨ k = 28 | .about k => k = 24 ∨ k = 25 ∨ k = 27 ∨ k = 29
  | _ => True
/-- What a step comes to. -/
def KQ : NT → List PN → List Nat → Prop
  | .prog | .progL _ => One c1
  | .decl | .recd | .func => One cD
  | .name => One cN
  | .block _ | .blockL _ _ => One cB
  | .stmt | .letS | .choice | .whileS | .worded _ | .merge | .setOrDo | .setS _ => One cS
  | .other => One cO
  | .listed th _ | .listedL th _ _ => Many (if th then cE else cN)
  | _ => One cE
/-- How a token must be, and what is asked of a step's own token. -/
def TP (ts : List Tok) (i : Nat) : NT → Prop
  | .joined _ _ => lineL (nx ts i) ≠ 0
  | .nameOrCall => nx ts i = nmB
  | .number => True
  | _ => True
theorem ok_of {ns : List PN} {kind : Nat} {text : List UInt8} {ks : List Nat} {pl t : Nat} {ls : List UInt8} (hw : T5.wantL kind = some (t, ls)) (ht : T5.textL t ⟨text.toArray⟩ = true) (hs : T5.shapeL kind (kinds ns ks) = true) : okN ns ⟨kind, text, ks, pl⟩ := ⟨t, ls, hw, ht, hs⟩
theorem many_all {c : Nat → Bool} {d : Int → Bool} {ns : List PN} {v : List Nat} (h : Many c ns v) (hd : ∀ k, c k = true → d (k : Nat) = true) : (kinds ns v).all d = true := by
  rw [List.all_eq_true]
  intro x hx
  obtain ⟨k, hk, rfl⟩ := List.mem_map.1 hx
  exact hd _ (h k hk).2
theorem cE_ex (k : Nat) (h : cE k = true) : T5.isEx (k : Nat) = true := by simp [cE] at h; simp [T5.isEx]; omega
theorem cS_st (k : Nat) (h : cS k = true) : T5.isSt (k : Nat) = true := by simp [cS] at h; simp [T5.isSt]; omega
theorem txt0 : T5.textL 0 ⟨([] : List UInt8).toArray⟩ = true := by decide
theorem txt1 {l : List UInt8} (h : nameL l = true) : T5.textL 1 ⟨l.toArray⟩ = true := by unfold T5.textL name; simpa using h
theorem txt2 {n : Nat} (h : n ≤ 9223372036854775807) : T5.textL 2 ⟨(Lib.decDigits n).toArray⟩ = true := by unfold T5.textL; simpa using decL_dec h
theorem txt3 {l : List UInt8} (h : T5.unaries.contains l = true) : T5.textL 3 ⟨l.toArray⟩ = true := by unfold T5.textL T5.unL; simpa using h
theorem txt4 {l : List UInt8} (h : T5.binaries.contains l = true) : T5.textL 4 ⟨l.toArray⟩ = true := by unfold T5.textL T5.binL; simpa using h
end Go.Proofs.YtnkjgggbiokfbaaGreatDoor
namespace Go.Proofs.YtnkjgggbiokfbaaGreatDoor
open Go.RowKit
set_option linter.unusedVariables false
set_option linter.unusedSimpArgs false

theorem decl_pre {s : List UInt8} {nt : NT} (h : declNT s = some nt) (ns : List PN) : KP ns nt ∧ pend nt = [] ∧ KQ nt = One cD ∧ ∀ ts i, TP ts i nt := by
  unfold declNT at h
  by_cases e0 : s = [114, 101, 99]
  · rw [if_pos e0] at h; cases h; exact ⟨trivial, rfl, rfl, fun _ _ => trivial⟩
  rw [if_neg e0] at h
  by_cases e1 : s = [102, 110]
  · rw [if_pos e1] at h; cases h; exact ⟨trivial, rfl, rfl, fun _ _ => trivial⟩
  rw [if_neg e1] at h
  cases h
theorem stmt_pre {s : List UInt8} {nt : NT} (h : stmtNT s = some nt) (ns : List PN) : KP ns nt ∧ pend nt = [] ∧ KQ nt = One cS ∧ ∀ ts i, TP ts i nt := by
  unfold stmtNT at h
  by_cases e0 : s = [108, 101, 116]
  · rw [if_pos e0] at h; cases h; exact ⟨trivial, rfl, rfl, fun _ _ => trivial⟩
  rw [if_neg e0] at h
  by_cases e1 : s = [105, 102]
  · rw [if_pos e1] at h; cases h; exact ⟨trivial, rfl, rfl, fun _ _ => trivial⟩
  rw [if_neg e1] at h
  by_cases e2 : s = [119, 104, 105, 108, 101]
  · rw [if_pos e2] at h; cases h; exact ⟨trivial, rfl, rfl, fun _ _ => trivial⟩
  rw [if_neg e2] at h
  by_cases e3 : s = [114, 101, 116, 117, 114, 110]
  · rw [if_pos e3] at h; cases h; exact ⟨by simp [KP], rfl, rfl, fun _ _ => trivial⟩
  rw [if_neg e3] at h
  by_cases e4 : s = [111, 117, 116]
  · rw [if_pos e4] at h; cases h; exact ⟨by simp [KP], rfl, rfl, fun _ _ => trivial⟩
  rw [if_neg e4] at h
  by_cases e5 : s = [115, 116, 111, 112]
  · rw [if_pos e5] at h; cases h; exact ⟨by simp [KP], rfl, rfl, fun _ _ => trivial⟩
  rw [if_neg e5] at h
  by_cases e6 : s = [109, 101, 114, 103, 101]
  · rw [if_pos e6] at h; cases h; exact ⟨trivial, rfl, rfl, fun _ _ => trivial⟩
  rw [if_neg e6] at h
  cases h
theorem first_pre {s : List UInt8} {nt : NT} (h : firstNT s = some nt) (ns : List PN) : KP ns nt ∧ pend nt = [] ∧ KQ nt = One cE ∧ ∀ ts i, nx ts i = s → TP ts i nt := by
  unfold firstNT at h
  by_cases e0 : s = [110, 117, 109, 98, 101, 114]
  · rw [if_pos e0] at h; cases h; exact ⟨trivial, rfl, rfl, fun _ _ hh => trivial⟩
  rw [if_neg e0] at h
  by_cases e1 : s = [110, 97, 109, 101]
  · rw [if_pos e1] at h; cases h; exact ⟨trivial, rfl, rfl, fun _ _ hh => hh.trans e1⟩
  rw [if_neg e1] at h
  by_cases e2 : s = [110, 117, 108, 108]
  · rw [if_pos e2] at h; cases h; exact ⟨by simp [KP], rfl, rfl, fun _ _ hh => trivial⟩
  rw [if_neg e2] at h
  by_cases e3 : s = [114, 111, 111, 116]
  · rw [if_pos e3] at h; cases h; exact ⟨by simp [KP], rfl, rfl, fun _ _ hh => trivial⟩
  rw [if_neg e3] at h
  by_cases e4 : s = [110, 101, 119]
  · rw [if_pos e4] at h; cases h; exact ⟨trivial, rfl, rfl, fun _ _ hh => trivial⟩
  rw [if_neg e4] at h
  by_cases e5 : s = [97, 114, 114]
  · rw [if_pos e5] at h; cases h; exact ⟨by simp [KP], rfl, rfl, fun _ _ hh => trivial⟩
  rw [if_neg e5] at h
  by_cases e6 : s = [108, 101, 110]
  · rw [if_pos e6] at h; cases h; exact ⟨by simp [KP], rfl, rfl, fun _ _ hh => trivial⟩
  rw [if_neg e6] at h
  by_cases e7 : s = [105, 110]
  · rw [if_pos e7] at h; cases h; exact ⟨by simp [KP], rfl, rfl, fun _ _ hh => trivial⟩
  rw [if_neg e7] at h
  by_cases e8 : s = [105, 109, 103]
  · rw [if_pos e8] at h; cases h; exact ⟨by simp [KP], rfl, rfl, fun _ _ hh => trivial⟩
  rw [if_neg e8] at h
  by_cases e9 : s = [115, 105, 122, 101]
  · rw [if_pos e9] at h; cases h; exact ⟨by simp [KP], rfl, rfl, fun _ _ hh => trivial⟩
  rw [if_neg e9] at h
  by_cases e10 : s = [112, 114, 111, 109, 111, 116, 101]
  · rw [if_pos e10] at h; cases h; exact ⟨by simp [KP], rfl, rfl, fun _ _ hh => trivial⟩
  rw [if_neg e10] at h
  by_cases e11 : s = [40]
  · rw [if_pos e11] at h; cases h; exact ⟨trivial, rfl, rfl, fun _ _ hh => trivial⟩
  rw [if_neg e11] at h
  cases h

theorem kinds_one (ns : List PN) (n : Nat) : kinds ns [n] = [((kdN ns n : Nat) : Int)] := rfl
theorem sh1 {ns : List PN} {n kind : Nat} (hk : kind = 5 ∨ kind = 9 ∨ kind = 10 ∨ kind = 11 ∨ kind = 18 ∨ kind = 20 ∨ kind = 24 ∨ kind = 25 ∨ kind = 27 ∨ kind = 29) (h : Many cE ns [n]) : T5.shapeL kind (kinds ns [n]) = true := by
  have ha := many_all h cE_ex
  rcases hk with rfl | rfl | rfl | rfl | rfl | rfl | rfl | rfl | rfl | rfl <;> simp [T5.shapeL] <;> simpa [kinds] using ha
theorem sh2 {ns : List PN} {n m kind : Nat} (hk : kind = 19 ∨ kind = 21) (h : Many cE ns [n, m]) : T5.shapeL kind (kinds ns [n, m]) = true := by
  have ha := many_all h cE_ex
  rcases hk with rfl | rfl <;> simp [T5.shapeL] <;> simpa [kinds] using ha
theorem sh0 {ns : List PN} {kind : Nat} (hk : kind = 14 ∨ kind = 15 ∨ kind = 16 ∨ kind = 17 ∨ kind = 23 ∨ kind = 26 ∨ kind = 28 ∨ kind = 30) : T5.shapeL kind (kinds ns []) = true := by
  rcases hk with rfl | rfl | rfl | rfl | rfl | rfl | rfl | rfl <;> rfl
theorem many2 {c : Nat → Bool} {a : List PN} {n m : Nat} (h : Many c a [n]) (k : Many c a [m]) : Many c a [n, m] := h.app k

theorem Pres.signs {ts : List Tok} : ∀ (acc : List Tok) (n : Nat) (ns : List PN) (i : Nat), Many cE ns [n] → (∀ t ∈ acc, un t) → Pres [n] ns (some (.ok ([(laySg acc n ns).1], i, (laySg acc n ns).2))) (One cE)
  | [], n, ns, i, h, _ => Pres.ok ⟨n, rfl, (h n (by simp)).1, (h n (by simp)).2⟩
  | t :: r, n, ns, i, h, hu => by
    intro ρ v j ms e hs
    have h1 : St (ns ++ [⟨18, t.text, [n], t.frm⟩]) (ρ ++ [ns.length]) := St.lay hs (ok_of rfl (txt3 (hu t (by simp))) (sh1 (by simp) h))
    have h2 : Many cE (ns ++ [⟨18, t.text, [n], t.frm⟩]) [ns.length] := (One.new (c := cE) (ns := ns) (x := ⟨18, t.text, [n], t.frm⟩) rfl).many
    obtain ⟨g1, g2, g3⟩ := Pres.signs (ts := ts) r ns.length (ns ++ [⟨18, t.text, [n], t.frm⟩]) i h2 (fun u hh => hu u (by simp [hh])) ρ v j ms (by simpa only [laySg] using e) h1
    exact ⟨g1, g2, Ext.trans ⟨_, rfl⟩ g3⟩
set_option maxHeartbeats 2000000 in
theorem st_P {ts : List Tok} (hNm : ∀ i, nx ts i = nmB → nameL (tk ts i).text = true) (hBn : ∀ i, lineL (nx ts i) ≠ 0 → T5.binaries.contains (tk ts i).text = true) (hUn : ∀ i, isSg (nx ts i) = true → un (tk ts i)) (hNu : ∀ i, (tk ts i).n ≤ 9223372036854775807) :
    ∀ (f : Nat) (nt : NT) (i : Nat) (ns : List PN), KP ns nt → TP ts i nt → Pres (pend nt) ns (P ts f nt i ns) (KQ nt) := by
  intro f
  induction f with
  | zero => intro nt i ns _ _; exact Pres.none
  | succ f ih =>
    intro nt i ns hp ht
    cases nt with
    | prog => simp only [P]; exact ih (.progL []) i ns Many.nil trivial
    | progL acc =>
      simp only [P]
      have hp : Many cD ns acc := hp
      split
      · refine Pres.lay (ok_of rfl txt0 ?_) (One.new rfl)
        have ha : (kinds ns acc).all (fun k => k == 2 || k == 3) = true := many_all hp (fun k hk => by simp [cD] at hk; rcases hk with rfl | rfl <;> rfl)
        show T5.shapeL 1 (kinds ns acc) = true
        unfold T5.shapeL
        rw [if_pos rfl]
        exact ha
      · have := Pres.bind (Q := One c1) (ns := ns) (pn := []) acc (ih .decl i ns trivial trivial) (k := fun v i ns => P ts f (.progL (acc ++ [hd v])) i ns) (fun v j ms q x => by
          obtain ⟨e, q'⟩ := One.hd q
          have h2 := ih (.progL (acc ++ [hd v])) j ms ((hp.ext x).app q') trivial
          rw [show acc ++ v = acc ++ [hd v] by rw [← e]]
          exact h2)
        rw [List.append_nil] at this
        exact this
    | decl =>
      simp only [P]
      split
      · rename_i nt hd
        obtain ⟨h1, h2, h3, h4⟩ := decl_pre hd ns
        have := ih nt i ns h1 (h4 _ _)
        rw [h2, h3] at this
        exact this
      · exact Pres.err
    | recd =>
      simp only [P]
      refine Pres.want fun e1 => Pres.want fun _ => ?_
      refine Pres.bind (Q := One cD) (pn := []) [] (ih (.listed false [125]) _ ns trivial trivial) fun v j ms q x => ?_
      refine Pres.lay (ok_of rfl (txt1 (hNm _ e1)) ?_) (One.new rfl)
      have ha : (kinds ms v).all (· == 17) = true := many_all (c := cN) q (fun k hk => by simp [cN] at hk; subst hk; rfl)
      simpa [T5.shapeL] using ha
    | func =>
      simp only [P]
      refine Pres.want fun e1 => Pres.want fun _ => ?_
      refine Pres.bind (Q := One cD) (pn := []) [] (ih (.listed false [41]) _ ns trivial trivial) fun v j ms q x => ?_
      have := Pres.bind (Q := One cD) (ns := ms) (pn := []) v (ih (.block 0) j ms trivial trivial) (k := fun b j ns => layR 3 (tk ts (i + 1)).text (tk ts (i + 1)).frm (v ++ [hd b]) j ns) (fun b j' ms' q' x' => by
        obtain ⟨e, _⟩ := One.hd q'
        obtain ⟨n, rfl, hn, hc⟩ := q'
        have hb : kdN ms' n = 4 := by simpa [cB] using hc
        refine Pres.lay (ok_of rfl (txt1 (hNm _ e1)) ?_) (One.new rfl)
        have ha : (kinds ms' v).all (· == 17) = true := many_all (c := cN) (Many.ext (c := cN) q x') (fun k hk => by simp [cN] at hk; subst hk; rfl)
        have e2 : kinds ms' (v ++ [n]) = kinds ms' v ++ [4] := by simp [kinds, hb]
        show T5.shapeL 3 (kinds ms' (v ++ [n])) = true
        rw [e2]
        simp [T5.shapeL, List.getLastD_concat]
        simpa using ha)
      rw [List.append_nil] at this
      exact this
    | name =>
      simp only [P]
      exact Pres.want fun e1 => Pres.lay (ok_of rfl (txt1 (hNm _ e1)) (sh0 (by simp))) (One.new rfl)
    | block pl =>
      simp only [P]
      exact Pres.want fun _ => ih (.blockL _ []) _ ns Many.nil trivial
    | blockL pl acc =>
      simp only [P]
      have hp : Many cS ns acc := hp
      split
      · refine Pres.lay (ok_of rfl txt0 ?_) (One.new rfl)
        have ha := many_all hp cS_st
        show T5.shapeL 4 (kinds ns acc) = true
        unfold T5.shapeL
        rw [if_neg (by decide), if_neg (by decide), if_neg (by decide), if_pos rfl]
        exact ha
      · have := Pres.bind (Q := One cB) (ns := ns) (pn := []) acc (ih .stmt i ns trivial trivial) (k := fun v i ns => P ts f (.blockL pl (acc ++ [hd v])) i ns) (fun v j ms q x => by
          obtain ⟨e, q'⟩ := One.hd q
          have h2 := ih (.blockL pl (acc ++ [hd v])) j ms ((hp.ext x).app q') trivial
          rw [show acc ++ v = acc ++ [hd v] by rw [← e]]
          exact h2)
        rw [List.append_nil] at this
        exact this
    | stmt =>
      simp only [P]
      split
      · rename_i nt hd
        obtain ⟨h1, h2, h3, h4⟩ := stmt_pre hd ns
        have := ih nt i ns h1 (h4 _ _)
        rw [h2, h3] at this
        exact this
      · exact ih .setOrDo i ns trivial trivial
    | letS =>
      simp only [P]
      refine Pres.want fun e1 => Pres.want fun _ => ?_
      refine Pres.bind (Q := One cS) (pn := []) [] (ih .expr _ ns trivial trivial) fun v j ms q x => ?_
      obtain ⟨n, rfl, hn, hc⟩ := q
      exact Pres.want fun _ => Pres.lay (ok_of rfl (txt1 (hNm _ e1)) (sh1 (by simp) (One.many ⟨n, rfl, hn, hc⟩))) (One.new rfl)
    | choice =>
      simp only [P]
      refine Pres.bind (Q := One cS) (pn := []) [] (ih .expr _ ns trivial trivial) fun v j ms q x => ?_
      obtain ⟨n, rfl, hn, hc⟩ := q
      refine Pres.bind (Q := One cS) (pn := []) [n] (ih (.block 0) j ms trivial trivial) fun b j2 ms2 q2 x2 => ?_
      obtain ⟨m, rfl, hm, hc2⟩ := q2
      refine Pres.bind (Q := One cS) (pn := []) [n, m] (ih .other j2 ms2 trivial trivial) fun o j3 ms3 q3 x3 => ?_
      obtain ⟨l, rfl, hl, hc3⟩ := q3
      refine Pres.lay (ok_of rfl txt0 ?_) (One.new rfl)
      have e1 : cE (kdN ms3 n) = true := by rw [(x2.trans x3).kd hn]; exact hc
      have e2 : kdN ms3 m = 4 := by rw [x3.kd hm]; simpa [cB] using hc2
      have e3 : kdN ms3 l = 4 ∨ kdN ms3 l = 14 := by simpa [cO] using hc3
      have e4 := cE_ex _ e1
      simp [T5.shapeL, kinds, e2, e4]
      rcases e3 with e | e <;> simp [e]
    | other =>
      simp only [P]
      split
      · exact (ih (.block 0) _ ns trivial trivial).imp fun ms v ⟨n, e, h1, h2⟩ => ⟨n, e, h1, by simp [cB] at h2; simp [cO, h2]⟩
      · exact Pres.lay (ok_of rfl txt0 (sh0 (by simp))) (One.new rfl)
    | whileS =>
      simp only [P]
      refine Pres.bind (Q := One cS) (pn := []) [] (ih .expr _ ns trivial trivial) fun v j ms q x => ?_
      obtain ⟨n, rfl, hn, hc⟩ := q
      refine Pres.bind (Q := One cS) (pn := []) [n] (ih (.block 0) j ms trivial trivial) fun b j2 ms2 q2 x2 => ?_
      obtain ⟨m, rfl, hm, hc2⟩ := q2
      refine Pres.lay (ok_of rfl txt0 ?_) (One.new rfl)
      have e1 : cE (kdN ms2 n) = true := by rw [x2.kd hn]; exact hc
      have e2 : kdN ms2 m = 4 := by simpa [cB] using hc2
      have e4 := cE_ex _ e1
      simp [T5.shapeL, kinds, e2, e4]
    | worded k =>
      simp only [P]
      have hp : k = 9 ∨ k = 10 ∨ k = 11 := hp
      refine Pres.bind (Q := One cS) (pn := []) [] (ih .expr _ ns trivial trivial) fun v j ms q x => ?_
      obtain ⟨n, rfl, hn, hc⟩ := q
      refine Pres.want fun _ => ?_
      rcases hp with rfl | rfl | rfl
      · exact Pres.lay (ok_of rfl txt0 (sh1 (by simp) (One.many ⟨n, rfl, hn, hc⟩))) (One.new rfl)
      · exact Pres.lay (ok_of rfl txt0 (sh1 (by simp) (One.many ⟨n, rfl, hn, hc⟩))) (One.new rfl)
      · exact Pres.lay (ok_of rfl txt0 (sh1 (by simp) (One.many ⟨n, rfl, hn, hc⟩))) (One.new rfl)
    | merge =>
      simp only [P]
      refine Pres.want fun _ => ?_
      refine Pres.bind (Q := One cS) (pn := []) [] (ih (.listed false [41]) _ ns trivial trivial) fun v j ms q x => ?_
      refine Pres.want fun _ => Pres.lay (ok_of rfl txt0 ?_) (One.new rfl)
      have ha : (kinds ms v).all (· == 17) = true := many_all (c := cN) q (fun k hk => by simp [cN] at hk; subst hk; rfl)
      simpa [T5.shapeL] using ha
    | setOrDo =>
      simp only [P]
      refine Pres.bind (Q := One cS) (pn := []) [] (ih .back _ ns trivial trivial) fun v j ms q x => ?_
      obtain ⟨n, rfl, hn, hc⟩ := q
      simp only [hd, List.getD_cons_zero, List.nil_append]
      split
      · rename_i hh
        exact ih (.setS n) j ms ⟨One.many ⟨n, rfl, hn, hc⟩, hh.1⟩ trivial
      · split
        · exact Pres.err
        · rename_i h22
          refine Pres.want fun _ => Pres.lay (ok_of rfl txt0 ?_) (One.new rfl)
          have : kdN ms n = 22 := by simpa using h22
          simp [T5.shapeL, kinds, this]
    | setS p =>
      simp only [P]
      obtain ⟨hp1, hp2⟩ : Many cE ns [p] ∧ placeK (kdN ns p) = true := hp
      have := Pres.bind (Q := One cS) (ns := ns) (pn := []) [p] (ih .expr (i + 1) ns trivial trivial) (k := fun v j ns => wantR ts [59] j <| layR 6 [] (tk ts i).frm [p, hd v] (j + 1) ns) (fun v j ms q x => by
        obtain ⟨n, rfl, hn, hc⟩ := q
        refine Pres.want fun _ => Pres.lay (ok_of rfl txt0 ?_) (One.new rfl)
        have ha := many_all (many2 (hp1.ext x) (One.many ⟨n, rfl, hn, hc⟩)) cE_ex
        have e1 : kdN ms p = kdN ns p := x.kd (hp1 p (by simp)).1
        have e2 : kdN ns p = 17 ∨ kdN ns p = 20 ∨ kdN ns p = 21 ∨ kdN ns p = 30 := by simp [placeK] at hp2; omega
        simp [T5.shapeL, kinds, hd] at ha ⊢
        refine ⟨ha, ?_⟩
        rw [e1]
        rcases e2 with e | e | e | e <;> simp [e])
      exact this
    | expr =>
      simp only [P]
      refine Pres.bind (Q := One cE) (pn := []) [] (ih (.chain 2) _ ns (show 0 < 2 by decide) trivial) fun v j ms q x => ?_
      obtain ⟨n, rfl, hn, hc⟩ := q
      simp only [hd, List.getD_cons_zero, List.nil_append]
      split
      · rename_i hl
        exact ih (.joined n 2) j ms ⟨One.many ⟨n, rfl, hn, hc⟩, by decide⟩ (show lineL (nx ts j) ≠ 0 by rw [hl]; decide)
      · exact Pres.ok ⟨n, rfl, hn, hc⟩
    | chain line =>
      simp only [P]
      have hp : 0 < line := hp
      split
      · exact ih .signed i ns trivial trivial
      · refine Pres.bind (Q := One cE) (pn := []) [] (ih (.chain (line + 1)) _ ns (Nat.succ_pos _) trivial) fun v j ms q x => ?_
        obtain ⟨n, rfl, hn, hc⟩ := q
        exact ih (.chainL line n) j ms ⟨One.many ⟨n, rfl, hn, hc⟩, hp⟩ trivial
    | chainL line n =>
      simp only [P]
      obtain ⟨hp, h0⟩ : Many cE ns [n] ∧ 0 < line := hp
      split
      · rename_i hl
        refine Pres.bind (Q := One cE) (pn := [n]) [] (ih (.joined n (line + 1)) i ns ⟨hp, Nat.succ_pos _⟩ (show lineL (nx ts i) ≠ 0 by rw [hl]; omega)) fun v j ms q x => ?_
        obtain ⟨m, rfl, hm, hc⟩ := q
        exact ih (.chainL line m) j ms ⟨One.many ⟨m, rfl, hm, hc⟩, h0⟩ trivial
      · exact Pres.ok ⟨n, rfl, (hp n (by simp)).1, (hp n (by simp)).2⟩
    | joined left line =>
      simp only [P]
      obtain ⟨hp, h0⟩ : Many cE ns [left] ∧ 0 < line := hp
      have ht : lineL (nx ts i) ≠ 0 := ht
      have := Pres.bind (Q := One cE) (ns := ns) (pn := []) [left] (ih (.chain line) (i + 1) ns h0 trivial) (k := fun v j ns => layR 19 (tk ts i).text (tk ts i).frm [left, hd v] j ns) (fun v j ms q x => by
        obtain ⟨n, rfl, hn, hc⟩ := q
        exact Pres.lay (ok_of rfl (txt4 (hBn _ ht)) (sh2 (by simp) (many2 (hp.ext x) (One.many ⟨n, rfl, hn, hc⟩)))) (One.new rfl))
      exact this
    | signed => simp only [P]; exact ih (.signedL []) i ns (fun t h => by cases h) trivial
    | signedL acc =>
      simp only [P]
      have hp : ∀ t ∈ acc, un t := hp
      split
      · rename_i hs
        refine ih (.signedL (acc ++ [tk ts i])) (i + 1) ns (fun t h => ?_) trivial
        rcases List.mem_append.1 h with h | h
        · exact hp t h
        · simp at h; subst h; exact hUn i hs
      · refine Pres.bind (Q := One cE) (pn := []) [] (ih .back _ ns trivial trivial) fun v j ms q x => ?_
        obtain ⟨n, rfl, hn, hc⟩ := q
        exact ih (.laySigns acc.reverse n) j ms ⟨One.many ⟨n, rfl, hn, hc⟩, fun t h => hp t (by simpa using h)⟩ trivial
    | laySigns acc n =>
      simp only [P]
      obtain ⟨h1, h2⟩ : Many cE ns [n] ∧ ∀ t ∈ acc, un t := hp
      exact Pres.signs (ts := ts) acc n ns i h1 h2
    | back =>
      simp only [P]
      refine Pres.bind (Q := One cE) (pn := []) [] (ih .first _ ns trivial trivial) fun v j ms q x => ?_
      obtain ⟨n, rfl, hn, hc⟩ := q
      exact ih (.backL n) j ms (One.many ⟨n, rfl, hn, hc⟩) trivial
    | backL n =>
      simp only [P]
      have hp : Many cE ns [n] := hp
      split
      · refine Pres.bind (Q := One cE) (pn := [n]) [] (ih (.field n) i ns hp trivial) fun v j ms q x => ?_
        obtain ⟨m, rfl, hm, hc⟩ := q
        exact ih (.backL m) j ms (One.many ⟨m, rfl, hm, hc⟩) trivial
      · split
        · refine Pres.bind (Q := One cE) (pn := [n]) [] (ih (.elem n) i ns hp trivial) fun v j ms q x => ?_
          obtain ⟨m, rfl, hm, hc⟩ := q
          exact ih (.backL m) j ms (One.many ⟨m, rfl, hm, hc⟩) trivial
        · exact Pres.ok ⟨n, rfl, (hp n (by simp)).1, (hp n (by simp)).2⟩
    | field n =>
      simp only [P]
      have hp : Many cE ns [n] := hp
      exact Pres.want fun e1 => Pres.lay (ok_of rfl (txt1 (hNm _ e1)) (sh1 (by simp) hp)) (One.new rfl)
    | elem n =>
      simp only [P]
      have hp : Many cE ns [n] := hp
      have := Pres.bind (Q := One cE) (ns := ns) (pn := []) [n] (ih .expr (i + 1) ns trivial trivial) (k := fun v j ns => wantR ts [93] j <| layR 21 [] (tk ts i).frm [n, hd v] (j + 1) ns) (fun v j ms q x => by
        obtain ⟨m, rfl, hm, hc⟩ := q
        exact Pres.want fun _ => Pres.lay (ok_of rfl txt0 (sh2 (by simp) (many2 (hp.ext x) (One.many ⟨m, rfl, hm, hc⟩)))) (One.new rfl))
      exact this
    | first =>
      simp only [P]
      split
      · rename_i nt hd
        obtain ⟨h1, h2, h3, h4⟩ := first_pre hd ns
        have := ih nt i ns h1 (h4 _ _ rfl)
        rw [h2, h3] at this
        exact this
      · exact Pres.err
    | number => simp only [P]; exact Pres.lay (ok_of rfl (txt2 (hNu i)) (sh0 (by simp))) (One.new rfl)
    | nameOrCall =>
      simp only [P]
      have ht : nx ts i = nmB := ht
      split
      · refine Pres.bind (Q := One cE) (pn := []) [] (ih (.listed true [41]) _ ns trivial trivial) fun v j ms q x => ?_
        refine Pres.lay (ok_of rfl (txt1 (hNm _ ht)) ?_) (One.new rfl)
        have ha := many_all (c := cE) q cE_ex
        simpa [T5.shapeL] using ha
      · exact Pres.lay (ok_of rfl (txt1 (hNm _ ht)) (sh0 (by simp))) (One.new rfl)
    | made =>
      simp only [P]
      exact Pres.want fun e1 => Pres.lay (ok_of rfl (txt1 (hNm _ e1)) (sh0 (by simp))) (One.new rfl)
    | alone k =>
      simp only [P]
      have hp : k = 16 ∨ k = 30 := hp
      rcases hp with rfl | rfl
      · exact Pres.lay (ok_of rfl txt0 (sh0 (by simp))) (One.new rfl)
      · exact Pres.lay (ok_of rfl txt0 (sh0 (by simp))) (One.new rfl)
    | empty k =>
      simp only [P]
      have hp : k = 26 ∨ k = 28 := hp
      refine Pres.want fun _ => Pres.want fun _ => ?_
      rcases hp with rfl | rfl
      · exact Pres.lay (ok_of rfl txt0 (sh0 (by simp))) (One.new rfl)
      · exact Pres.lay (ok_of rfl txt0 (sh0 (by simp))) (One.new rfl)
    | about k =>
      simp only [P]
      have hp : k = 24 ∨ k = 25 ∨ k = 27 ∨ k = 29 := hp
      refine Pres.bind (Q := One cE) (pn := []) [] (ih .brack _ ns trivial trivial) fun v j ms q x => ?_
      obtain ⟨n, rfl, hn, hc⟩ := q
      rcases hp with rfl | rfl | rfl | rfl
      · exact Pres.lay (ok_of rfl txt0 (sh1 (by simp) (One.many ⟨n, rfl, hn, hc⟩))) (One.new rfl)
      · exact Pres.lay (ok_of rfl txt0 (sh1 (by simp) (One.many ⟨n, rfl, hn, hc⟩))) (One.new rfl)
      · exact Pres.lay (ok_of rfl txt0 (sh1 (by simp) (One.many ⟨n, rfl, hn, hc⟩))) (One.new rfl)
      · exact Pres.lay (ok_of rfl txt0 (sh1 (by simp) (One.many ⟨n, rfl, hn, hc⟩))) (One.new rfl)
    | brack =>
      simp only [P]
      refine Pres.want fun _ => ?_
      refine Pres.bind (Q := One cE) (pn := []) [] (ih .expr _ ns trivial trivial) fun v j ms q x => ?_
      exact Pres.want fun _ => Pres.ok q
    | listed th c =>
      simp only [P]
      split
      · exact Pres.ok Many.nil
      · cases th with
        | false =>
          refine Pres.bind (Q := Many cN) (pn := []) [] (ih .name _ ns trivial trivial) fun v j ms q x => ?_
          obtain ⟨n, rfl, hn, hc⟩ := q
          exact ih (.listedL false c [n]) j ms (One.many ⟨n, rfl, hn, hc⟩) trivial
        | true =>
          refine Pres.bind (Q := Many cE) (pn := []) [] (ih .expr _ ns trivial trivial) fun v j ms q x => ?_
          obtain ⟨n, rfl, hn, hc⟩ := q
          exact ih (.listedL true c [n]) j ms (One.many ⟨n, rfl, hn, hc⟩) trivial
    | listedL th c acc =>
      simp only [P]
      split
      · cases th with
        | false =>
          have hp : Many cN ns acc := hp
          have := Pres.bind (Q := Many cN) (ns := ns) (pn := []) acc (ih .name (i + 1) ns trivial trivial) (k := fun v j ns => P ts f (.listedL false c (acc ++ [hd v])) j ns) (fun v j ms q x => by
            obtain ⟨n, rfl, hn, hc⟩ := q
            exact ih (.listedL false c (acc ++ [n])) j ms ((hp.ext x).app (One.many ⟨n, rfl, hn, hc⟩)) trivial)
          rw [List.append_nil] at this
          exact this
        | true =>
          have hp : Many cE ns acc := hp
          have := Pres.bind (Q := Many cE) (ns := ns) (pn := []) acc (ih .expr (i + 1) ns trivial trivial) (k := fun v j ns => P ts f (.listedL true c (acc ++ [hd v])) j ns) (fun v j ms q x => by
            obtain ⟨n, rfl, hn, hc⟩ := q
            exact ih (.listedL true c (acc ++ [n])) j ms ((hp.ext x).app (One.many ⟨n, rfl, hn, hc⟩)) trivial)
          rw [List.append_nil] at this
          exact this
      · exact Pres.want fun _ => Pres.ok hp
end Go.Proofs.YtnkjgggbiokfbaaGreatDoor
namespace Go.Proofs.YtnkjgggbiokfbaaGreatDoor
open Go.RowKit
set_option linter.unusedVariables false
set_option linter.unusedSimpArgs false

theorem st_roots {ns : List PN} {roots : List Nat} (h : St ns roots) : (∀ r ∈ roots, r < ns.length) ∧ roots.Pairwise (· < ·) := by
  induction h with
  | nil => exact ⟨by simp, List.Pairwise.nil⟩
  | @lay ns ρ ks kind text pl h hok ih =>
    obtain ⟨h1, h2⟩ := ih
    refine ⟨fun r hr => ?_, ?_⟩
    · rcases List.mem_append.1 hr with hr | hr
      · have := h1 r (List.mem_append_left _ hr)
        simp
        omega
      · simp at hr; subst hr; simp
    · rw [List.pairwise_append] at h2 ⊢
      refine ⟨h2.1, by simp, fun a ha b hb => ?_⟩
      simp at hb
      subst hb
      exact h1 a (List.mem_append_left _ ha)
theorem take_ok {n : Nat} : ∀ (ks : List Nat) (T : List Bool), (∀ k ∈ ks, k < n ∧ T.getD k false = false) → ks.Nodup → n ≤ T.length → ∃ T', T5.takeL n (cI ks) T = some T' ∧ T'.length = T.length ∧ ∀ i, T'.getD i false = true ↔ T.getD i false = true ∨ i ∈ ks
  | [], T, _, _, _ => ⟨T, rfl, rfl, fun i => by simp⟩
  | k :: r, T, h, hd, hl => by
    obtain ⟨h1, h2⟩ := h k (by simp)
    have hd' := List.nodup_cons.1 hd
    obtain ⟨T', e1, e2, e3⟩ := take_ok r (T.set k true) (fun q hq => by
      obtain ⟨g1, g2⟩ := h q (by simp [hq])
      refine ⟨g1, ?_⟩
      rw [getD_set (fun e => hd'.1 (by rw [← e]; exact hq))]
      exact g2) hd'.2 (by simpa using hl)
    refine ⟨T', ?_, by simpa using e2, fun i => ?_⟩
    · simp only [cI, List.map_cons, T5.takeL, Int.toNat_natCast]
      rw [if_neg (by rw [h2]; simp; omega)]
      exact e1
    · rw [e3]
      by_cases e : i = k
      · subst e
        simp
        left
        rw [List.getElem?_set_self (by omega)]
        rfl
      · rw [getD_set e]
        simp [e]
theorem kd_nx (ns ext : List PN) (k : Nat) (hk : k < ns.length) : T5.kd ((ns ++ ext).map nx5) (k : Nat) = ((kdN ns k : Nat) : Int) := by
  unfold T5.kd kdN
  rw [List.getElem?_map, Int.toNat_natCast, List.getElem?_append_left hk]
  cases ns[k]? <;> rfl
theorem st_nodes {ns : List PN} {roots : List Nat} (h : St ns roots) : ∀ ext, ∃ T, T5.nodesL ((ns ++ ext).map nx5) ns.length = .ok T ∧ T.length = (ns ++ ext).length ∧ ∀ i, T.getD i false = true ↔ (i < ns.length ∧ i ∉ roots) := by
  induction h with
  | nil =>
    intro ext
    refine ⟨List.replicate ext.length false, by simp [T5.nodesL], by simp, fun i => ?_⟩
    rw [List.getD_eq_getElem?_getD]
    by_cases e : i < ext.length <;> simp [e]
  | @lay ns ρ ks kind text pl h hok ih =>
    intro ext
    obtain ⟨h1, h2⟩ := st_roots h
    obtain ⟨T, e1, e2, e3⟩ := ih (⟨kind, text, ks, pl⟩ :: ext)
    have eL : ns ++ [(⟨kind, text, ks, pl⟩ : PN)] ++ ext = ns ++ (⟨kind, text, ks, pl⟩ :: ext) := by simp
    rw [eL]
    rw [List.pairwise_append] at h2
    have hks : ∀ k ∈ ks, k < ns.length ∧ T.getD k false = false := fun k hk => by
      refine ⟨h1 k (List.mem_append_right _ hk), ?_⟩
      cases e : T.getD k false with
      | false => rfl
      | true => exact absurd (List.mem_append_right _ hk) ((e3 k).1 e).2
    obtain ⟨T', f1, f2, f3⟩ := take_ok (n := ns.length) ks T hks (h2.2.1.imp (fun hh => Nat.ne_of_lt hh)) (by rw [e2]; simp)
    obtain ⟨t, ls, g1, g2, g3⟩ := hok
    have hx : ((ns ++ (⟨kind, text, ks, pl⟩ : PN) :: ext).map nx5)[ns.length]? = some (nx5 ⟨kind, text, ks, pl⟩) := by simp
    have hkk : (cI ks).map (T5.kd ((ns ++ (⟨kind, text, ks, pl⟩ : PN) :: ext).map nx5)) = kinds ns ks := by
      unfold cI kinds
      rw [List.map_map]
      exact List.map_congr_left (fun k hk => kd_nx ns _ k (hks k hk).1)
    have hE : T5.nodeE ((ns ++ (⟨kind, text, ks, pl⟩ : PN) :: ext).map nx5) ns.length (nx5 ⟨kind, text, ks, pl⟩) T = .ok T' := by
      rw [T5.node_rest (x := nx5 ⟨kind, text, ks, pl⟩) g1 (by simp [nx5]) f1]
      rw [if_neg (by rw [show T5.textL t (nx5 ⟨kind, text, ks, pl⟩).text = true from g2]; simp)]
      have e5 : T5.shapeL (nx5 ⟨kind, text, ks, pl⟩).kind ((nx5 ⟨kind, text, ks, pl⟩).ks.map (T5.kd ((ns ++ (⟨kind, text, ks, pl⟩ : PN) :: ext).map nx5))) = true := by
        rw [show (nx5 ⟨kind, text, ks, pl⟩).ks.map (T5.kd ((ns ++ (⟨kind, text, ks, pl⟩ : PN) :: ext).map nx5)) = kinds ns ks from hkk]
        exact g3
      rw [if_neg (by rw [e5]; simp)]
    refine ⟨T', ?_, by rw [f2, e2], fun i => ?_⟩
    · rw [show (ns ++ [(⟨kind, text, ks, pl⟩ : PN)]).length = ns.length + 1 by simp]
      unfold T5.nodesL
      rw [e1]
      simp only [hx, hE]
    · rw [f3, e3]
      simp only [List.length_append, List.length_cons, List.length_nil, List.mem_append, List.mem_cons, List.not_mem_nil, or_false]
      constructor
      · rintro (⟨a, b⟩ | hk)
        · refine ⟨by omega, fun hh => ?_⟩
          rcases hh with hh | hh
          · exact b (.inl hh)
          · omega
        · have hkl := (hks i hk).1
          refine ⟨by omega, fun hh => ?_⟩
          rcases hh with hh | hh
          · have := h2.2.2 i hh i hk; omega
          · omega
      · rintro ⟨a, b⟩
        by_cases hk : i ∈ ks
        · exact .inr hk
        · refine .inl ⟨by omega, fun hh => ?_⟩
          rcases hh with hh | hh
          · exact b (.inl hh)
          · exact hk hh
theorem st_check {ms : List PN} {v : List Nat} (h : St ms v) (h1 : One c1 ms v) (hl : ms.length ≤ 50000) (hd : deepP ms ≤ 200) : T5.checkL (ms.map nx5) = (0, 0) := by
  obtain ⟨n, rfl, hn, hc⟩ := h1
  obtain ⟨T, e1, e2, e3⟩ := st_nodes h []
  simp only [List.append_nil] at e1 e2
  have hlast : n = ms.length - 1 := by
    generalize hv : [n] = v at h
    cases h with
    | nil => cases hv
    | @lay ns ρ ks kind text pl h hok =>
      have : ρ = [] ∧ n = ns.length := by
        cases ρ with
        | nil => simp at hv; exact ⟨rfl, hv⟩
        | cons a r => simp at hv
      simp [this.2]
  have hk : T5.kd (ms.map nx5) (((ms.map nx5).length - 1 : Nat) : Int) = 1 := by
    have := kd_nx ms [] n hn
    simp only [List.append_nil] at this
    rw [List.length_map, ← hlast, this]
    have : kdN ms n = 1 := by simpa [c1] using hc
    rw [this]
    rfl
  have hD : T5.deepL (ms.map nx5) = deepP ms := by
    unfold T5.deepL deepP deepL
    have e : (ms.map nx5).map T5.Nd.ks = (ms.map ndX).map Nd.ks := by simp [nx5, ndX, cI, Function.comp_def]
    rw [depths_eq e]
    simp
  refine T5.check_ok (by simp; omega) (by rw [List.length_map]; exact e1) (by simp; intro e; rw [e] at hn; simp at hn) hk ?_ (by rw [hD]; omega)
  refine T5.has0_not _ (by rw [e2]; simp) (fun i hi => ?_)
  rw [List.length_map] at hi
  exact (e3 i).2 ⟨by omega, by simp; omega⟩
theorem tk_out {ts : List Tok} {i : Nat} (h : ¬ i < ts.length) : nx ts i = [] := by
  unfold nx tk
  rw [List.getD_eq_getElem?_getD, List.getElem?_eq_none (by omega)]
  rfl
/-- What a text is read as passes the checks. -/
theorem prg_good {s : ByteArray} {ms : List PN} (h : prgL s = .ok ms) : T5.checkL (ms.map nx5) = (0, 0) := by
  rcases hsc : sc s 0 with ⟨ts, _ | ⟨p, c⟩⟩
  · rw [prgL_after hsc rfl] at h
    have hT : Toks (withEnd s ts) := (toks_of (by rw [hsc])).1
    have K : KT (withEnd s ts) := kt_of (by rw [hsc])
    have hS : ∀ i, i < (withEnd s ts).length → TokS s.data.toList (tk (withEnd s ts) i) := toks_at (by rw [hsc])
    generalize withEnd s ts = us at *
    unfold afterL at h
    split at h
    · cases h
    · split at h
      · cases h
      · rename_i v j ns hr
        split at h
        · cases h
        · rename_i h5
          split at h
          · cases h
          · rename_i h6
            cases h
            have hh := (fullP_eq hT).trans (congrArg some hr)
            have hNm : ∀ i, nx us i = nmB → nameL (tk us i).text = true := fun i e => by
              by_cases hi : i < us.length
              · exact (hS i hi).nm ((K.name hi).1 e)
              · rw [tk_out hi] at e; simp [nmB] at e
            have hBn : ∀ i, lineL (nx us i) ≠ 0 → T5.binaries.contains (tk us i).text = true := fun i e => by
              by_cases hi : i < us.length
              · obtain ⟨_, kt⟩ := K.line hi e
                rw [← kt]
                exact bin_line e
              · rw [tk_out hi] at e; simp [lineL] at e
            have hUn : ∀ i, isSg (nx us i) = true → un (tk us i) := fun i e => by
              by_cases hi : i < us.length
              · have hx : ∀ b : List UInt8, nx us i = b → b ≠ nmB ∧ b ≠ numB ∧ b ≠ [] → (tk us i).text = b := fun b eb hb => by
                  have := K.is hi hb
                  rw [decide_eq_true eb] at this
                  simp [isT] at this
                  exact this.2
                unfold isSg at e
                simp only [Bool.or_eq_true, beq_iff_eq] at e
                unfold un
                rcases e with (e | e) | e
                · rw [hx _ e (by decide)]; decide
                · rw [hx _ e (by decide)]; decide
                · rw [hx _ e (by decide)]; decide
              · rw [tk_out hi] at e; simp [isSg] at e
            obtain ⟨g1, g2, _⟩ := st_P (ts := us) hNm hBn hUn hT.num (40 * us.length + 29) .prog 0 [] trivial trivial [] v j ms hh St.nil
            exact st_check g1 g2 (by omega) (by omega)
  · unfold prgL at h
    rw [hsc] at h
    cases h
end Go.Proofs.YtnkjgggbiokfbaaGreatDoor
namespace Go.Proofs.YtnkjgggbiokfbaaGreatDoor
open Go.RowKit
set_option linter.unusedVariables false
set_option linter.unusedSimpArgs false

def AtOK (B t : List UInt8) (p : Nat) : Prop := (B.drop p).take t.length = t ∧ p + t.length ≤ B.length
def PlOK (B : List UInt8) (x : PN) : Prop := x.pl ≤ B.length ∧ (x.kind ≠ 15 → x.kind ≠ 20 → AtOK B x.text x.pl)
theorem laySg_at {B : List UInt8} : ∀ (acc : List Tok) (n : Nat) (ns : List PN), (∀ t ∈ acc, AtOK B t.text t.frm) → (∀ x ∈ ns, PlOK B x) → ∀ x ∈ (laySg acc n ns).2, PlOK B x
  | [], n, ns, _, h => h
  | t :: r, n, ns, ha, h => by
    simp only [laySg]
    refine laySg_at r _ _ (fun u hu => ha u (by simp [hu])) (fun x hx => ?_)
    rcases List.mem_append.1 hx with hx | hx
    · exact h x hx
    · simp at hx
      subst hx
      have := ha t (by simp)
      exact ⟨by have := this.2; simp only; omega, fun _ _ => this⟩
theorem keep_at {ts : List Tok} {B : List UInt8} (ht : ∀ i, AtOK B (tk ts i).text (tk ts i).frm) : ∀ (f : Nat) (nt : NT) (i : Nat) (ns : List PN), (∀ t ∈ accT nt, AtOK B t.text t.frm) → Keep (PlOK B) ns (P ts f nt i ns) := by
  intro f
  have le : ∀ j, (tk ts j).frm ≤ B.length := fun j => by have := (ht j).2; omega
  have l0 : ∀ k ks j, PlOK B ⟨k, [], ks, (tk ts j).frm⟩ := fun _ _ j => ⟨le j, fun _ _ => ⟨by simp, by simpa using le j⟩⟩
  have l00 : ∀ k ks, PlOK B ⟨k, [], ks, 0⟩ := fun _ _ => ⟨by simp, fun _ _ => ⟨by simp, by simp⟩⟩
  have l1 : ∀ k j ks, PlOK B ⟨k, (tk ts j).text, ks, (tk ts j).frm⟩ := fun _ j _ => ⟨le j, fun _ _ => ht j⟩
  have l2 : ∀ j ks q, PlOK B ⟨15, Lib.decDigits (tk ts j).n, ks, (tk ts q).frm⟩ := fun _ _ q => ⟨le q, fun h => absurd rfl h⟩
  have l4 : ∀ j ks q, PlOK B ⟨20, (tk ts j).text, ks, (tk ts q).frm⟩ := fun _ _ q => ⟨le q, fun _ h => absurd rfl h⟩
  have l3 : ∀ (ns : List PN) k ks n, (∀ x ∈ ns, PlOK B x) → PlOK B ⟨k, [], ks, plN ns n⟩ := fun ns _ _ n h => by
    have hp : plN ns n ≤ B.length := by
      unfold plN
      cases hx : ns[n]? with
      | none => simp
      | some x => exact (h x (List.mem_of_getElem? hx)).1
    exact ⟨hp, fun _ _ => ⟨by simp, by simpa using hp⟩⟩
  have nl : ∀ (nt : NT), accT nt = [] → ∀ t ∈ accT nt, AtOK B t.text t.frm := fun nt h t hh => by rw [h] at hh; cases hh
  induction f with
  | zero => intro nt i ns _; exact Keep.none
  | succ f ih =>
    intro nt i ns ha
    cases nt
    all_goals simp only [P]
    case signedL acc =>
      split
      · refine ih (.signedL _) _ _ (fun t hh => ?_)
        rcases List.mem_append.1 hh with hh | hh
        · exact ha t hh
        · simp at hh; subst hh; exact ht i
      · refine Keep.bind (ih .back _ _ (nl _ rfl)) fun v j ms => ih (.laySigns _ _) _ _ (fun t hh => ha t (by simpa [accT] using hh))
    case block pl =>
      refine Keep.want (ih (.blockL _ _) _ _ (fun t hh => ?_))
      simp only [accT, List.mem_cons, List.not_mem_nil, or_false] at hh
      subst hh
      exact ⟨by simp, by simpa using le i⟩
    case blockL pl acc =>
      have hpl : pl ≤ B.length := by simpa using (ha ⟨0, [], pl, 0, 0⟩ (by simp [accT])).2
      split
      · exact Keep.lay ⟨hpl, fun _ _ => ⟨by simp, by simpa using hpl⟩⟩
      · exact Keep.bind (ih .stmt _ _ (nl _ rfl)) fun v j ms => ih (.blockL _ _) _ _ ha
    case laySigns acc n =>
      intro v j ms e hn
      cases e
      exact laySg_at acc n ns ha hn
    all_goals
      repeat (first
        | exact Keep.err
        | exact Keep.ok
        | exact Keep.lay (l00 _ _)
        | exact Keep.lay (l0 _ _ _)
        | exact Keep.lay' (l3 _ _ _ _)
        | exact Keep.lay (l1 _ _ _)
        | exact Keep.lay (l2 _ _ _)
        | exact Keep.lay (l4 _ _ _)
        | exact ih _ _ _ (nl _ rfl)
        | exact ih _ _ _ (nl _ (acc_decl (by assumption)))
        | exact ih _ _ _ (nl _ (acc_stmt (by assumption)))
        | exact ih _ _ _ (nl _ (acc_first (by assumption)))
        | (refine ih _ _ _ (nl _ ?_); split <;> rfl)
        | refine Keep.want ?_
        | (refine Keep.bind ?_ fun v j ms => ?_)
        | split)
theorem prg_at {s : ByteArray} {ms : List PN} (h : prgL s = .ok ms) : ∀ x ∈ ms, PlOK s.data.toList x := by
  rcases hsc : sc s 0 with ⟨ts, _ | ⟨p, c⟩⟩
  · rw [prgL_after hsc rfl] at h
    have hT : Toks (withEnd s ts) := (toks_of (by rw [hsc])).1
    have hS : ∀ i, i < (withEnd s ts).length → TokS s.data.toList (tk (withEnd s ts) i) := toks_at (by rw [hsc])
    generalize withEnd s ts = us at *
    have hA : ∀ i, AtOK s.data.toList (tk us i).text (tk us i).frm := fun i => by
      by_cases hi : i < us.length
      · exact ⟨(hS i hi).at_, (hS i hi).le⟩
      · unfold tk
        rw [List.getD_eq_getElem?_getD, List.getElem?_eq_none (by omega)]
        exact ⟨by simp, by simp⟩
    unfold afterL at h
    split at h
    · cases h
    · split at h
      · cases h
      · rename_i v j ns hr
        split at h
        · cases h
        · split at h
          · cases h
          · cases h
            have hh := (fullP_eq hT).trans (congrArg some hr)
            exact keep_at hA _ .prog _ _ (fun t h => by cases h) v j ms hh (by simp)
  · unfold prgL at h
    rw [hsc] at h
    cases h
end Go.Proofs.YtnkjgggbiokfbaaGreatDoor
namespace Go.Proofs.YtnkjgggbiokfbaaGreatDoor
open Go.RowKit
set_option linter.unusedVariables false
set_option linter.unusedSimpArgs false

/-- A list of nodes as it lies, and what it is. -/
theorem good_nodes {s : ByteArray} (hs : s.size ≤ 200000) {w w' : World} {ms : List PN} (hp : prgL s = .ok ms) {e : Ending} (h : PrgOut s w w' e) : ∃ a n c L, e = .returned (.tuple #[.slice a n c, .int .i64 0, .int .i64 0]) ∧ L.length = n ∧ n ≤ 50000 ∧ T5.NAt w'.heap.size w' a L ∧ T5.checkL L = (0, 0) ∧ ∀ (i : Nat) (x : T5.Nd), L[i]? = some x → ∃ y : PN, PlOK s.data.toList y ∧ x.kind = (y.kind : Nat) ∧ x.text = ⟨y.text.toArray⟩ ∧ x.pl = (y.pl : Nat) := by
  unfold PrgOut at h
  rw [hp] at h
  obtain ⟨nv, L, F', rfl, hL, hown, hob, hkr, hF⟩ := h
  obtain ⟨a, c, rfl, -⟩ := own_slice hown
  obtain ⟨h1, h2⟩ := prgL_len hs hp
  have hl : L.length = ms.length := by rw [← hL]; simp
  have hx : ∀ m ∈ L, LenOK 200020 m.x := fun m hm => h1 m.x (by rw [← hL]; exact List.mem_map_of_mem hm)
  have ec : T5.checkL (L.map nd5) = (0, 0) := by
    rw [← checkL_bare]
    have e1 : (L.map nd5).map bare5 = (L.map MN.x).map nx5 := by simp [nd5, nx5, bare5, Function.comp_def]
    rw [e1, hL]
    exact prg_good hp
  refine ⟨a, L.length, c, L.map nd5, rfl, by simp, by omega, nodes5 hown hkr (fun j hj => (hF j hj).2) (fun m hm => (hx m hm).1), ec, ?_⟩
  intro i x hx'
  rw [List.getElem?_map] at hx'
  obtain ⟨m, hm, rfl⟩ := Option.map_eq_some_iff.1 hx'
  exact ⟨m.x, prg_at hp m.x (by rw [← hL]; exact List.mem_map_of_mem (List.mem_of_getElem? hm)), rfl, rfl, rfl⟩

theorem prg_err_ne {s : ByteArray} {p c : Nat} (h : prgL s = .error (p, c)) : c ≠ 0 := by
  rcases hsc : sc s 0 with ⟨ts, _ | ⟨p', c'⟩⟩
  · rw [prgL_after hsc rfl] at h
    unfold afterL at h
    split at h
    · cases h; decide
    · split at h
      · cases h; decide
      · split at h
        · cases h; decide
        · split at h
          · cases h; decide
          · cases h
  · unfold prgL at h
    rw [hsc] at h
    cases h
    have h1 := scanL_err (s.size + 1) 0 (s.data.toList.drop 0) (p, c) (show (sc s 0).2 = _ by rw [hsc])
    simp only at h1
    omega
set_option maxRecDepth 100000 in
set_option maxHeartbeats 4000000 in
theorem good_walk (s : ByteArray) (w : World) (T : Tabs w) : Calls Tryz.prog 4 #[.string s] w fun e w' => e = .returned (.bool true) ∧ Fr [] w w' := by
  have CA := awake_any w T
  go_enter Tryz.func4, Tryz.ntmps4
  go_wp2_with (go_at_call 9; refine CA.mono ?_)
  rintro e w1 ⟨rfl, f1⟩
  clear CA
  by_cases h2 : 2500 < s.size
  · have h2' : (2500 : Int) < (s.size : Int) := by omega
    go_wp2
    go_ret
    exact ⟨rfl, f1⟩
  have h2' : (s.size : Int) ≤ 2500 := by omega
  have hs : s.size ≤ 200000 := by omega
  have T1 := T.fr f1 (by simp)
  have C1 := prog_any s w1 hs T1
  have HSZ : Hid (s.size ≤ 200000) := hs
  clear h2 hs
  cases hp : prgL s with
  | error x =>
    obtain ⟨p, c⟩ := x
    have HC : Hid (c ≠ 0) := prg_err_ne hp
    have hc0 : ¬ ((c : Nat) : Int) = 0 := by have := HC.out; omega
    replace C1 : Calls Tryz.prog 10 #[.string s] w1 fun e w' => e = .returned (.tuple #[.slice none 0 0, .int .i64 (p : Nat), .int .i64 (c : Nat)]) ∧ Fr [] w1 w' := C1.mono fun e w' ⟨h, f⟩ => ⟨by unfold PrgOut at h; rw [hp] at h; exact h, f⟩
    clear hp
    go_wp2_with (go_at_call 10; refine C1.mono ?_)
    rintro e w2 ⟨rfl, f2⟩
    go_wp2
    go_ret
    exact ⟨rfl, f1.trans f2⟩
  | ok ms =>
    have HP : Hid (prgL s = .ok ms) := hp
    clear hp
    go_wp2_with (go_at_call 10; refine C1.mono ?_)
    rintro e w2 ⟨hpo, f2⟩
    obtain ⟨a, n, c, L, rfl, hLn, hn, hL, hck, hx⟩ := good_nodes HSZ.out HP.out hpo
    have T2 := T1.fr f2 (by simp)
    have C2 := T5.check_any w2.heap.size L w2 a n c hLn hL (by omega) (Nat.le_refl _) T2
    rw [hck] at C2
    unfold T5.cOut at C2
    clear C1 hpo
    go_wp2_with (go_at_call 13; refine C2.mono ?_)
    rintro e w3 ⟨rfl, f3⟩
    have C3 := T5.rcheck_any w2.heap.size L w3 a n c hLn (hL.fr f3 (by simp)) (by omega) f3.size
    rw [hck] at C3
    unfold T5.cOut at C3
    clear C2
    go_wp2_with (go_at_call 14; refine C3.mono ?_)
    rintro e w4 ⟨rfl, f4⟩
    have f34 := f3.trans f4
    have F04 : Fr [] w w4 := (f1.trans f2).trans f34
    have HX : Hid (∀ (i : Nat) (x : T5.Nd), L[i]? = some x → ∃ y : PN, PlOK s.data.toList y ∧ x.kind = (y.kind : Nat) ∧ x.text = ⟨y.text.toArray⟩ ∧ x.pl = (y.pl : Nat)) := hx
    have hnI : (n : Int) ≤ 50000 := by omega
    clear C3 hck hx
    go_wp2_with fail
    go_loopw [44] (fun iv wr => ∃ q : Nat, q ≤ n ∧ iv = .int .i64 (q : Nat) ∧ Fr [] w4 wr) (fun iv _ => n - (intOf iv).toNat)
    case atStart => exact ⟨0, Nat.zero_le _, rfl, Fr.refl _ _⟩
    case round =>
      obtain ⟨q, hq, rfl, fr⟩ := hrel
      by_cases hlt : q < n
      rotate_left
      · have hlt' : ¬ ((q : Int) < (n : Int)) := by omega
        go_wp2
        go_ret
        exact ⟨rfl, F04.trans fr⟩
      have hlt' : (q : Int) < (n : Int) := by omega
      obtain ⟨x, hxq⟩ : ∃ x, L[q]? = some x := ⟨_, List.getElem?_eq_getElem (by omega)⟩
      obtain ⟨b, o, rfl, hb, NC⟩ := (hL.fr (f34.trans fr) (by simp)) q x hxq
      obtain ⟨y, hy, ek, et, ep⟩ := HX.out q x hxq
      have c0 := NC.c0
      have c1 := NC.c1
      have c2 := NC.c2
      have c3 := NC.c3
      rw [ek] at c0
      rw [et] at c1
      rw [ep] at c3
      obtain ⟨hyp, hya⟩ := hy
      rw [← Lib.size_eq] at hyp
      have HYA : Hid (y.kind ≠ 15 → y.kind ≠ 20 → AtOK s.data.toList y.text y.pl) := hya
      have nb : NB (wr.alloc (.cells #[.int .i64 (y.kind : Nat), .string ⟨y.text.toArray⟩, .slice x.a x.ks.length x.c, .int .i64 (y.pl : Nat)] 37)) wr.heap.size (y.kind : Nat) ⟨y.text.toArray⟩ x.a x.ks.length x.c (y.pl : Nat) := heap_alloc_new wr _
      have fN : Fr [] w4 (wr.alloc (.cells #[.int .i64 (y.kind : Nat), .string ⟨y.text.toArray⟩, .slice x.a x.ks.length x.c, .int .i64 (y.pl : Nat)] 37)) := fr.alloc _
      obtain ⟨d0, d1, d2, d3⟩ := nb.cells
      have hp0 : (0 : Int) ≤ (y.pl : Int) := by omega
      have hp1 : (y.pl : Int) ≤ (s.size : Int) := by omega
      have HQ : Hid (q < n) := hlt
      clear NC hya ek et ep hxq hlt
      obtain ⟨kd, tx, kk, pl⟩ := y
      simp only at *
      by_cases hnm : kd = 2 ∨ kd = 3 ∨ kd = 5 ∨ kd = 17 ∨ kd = 22 ∨ kd = 23 ∨ kd = 18 ∨ kd = 19
      rotate_left
      · have b2 : (((kd : Nat) : Int) == 2) = false := beq_int_false (by omega)
        have b3 : (((kd : Nat) : Int) == 3) = false := beq_int_false (by omega)
        have b5 : (((kd : Nat) : Int) == 5) = false := beq_int_false (by omega)
        have b17 : (((kd : Nat) : Int) == 17) = false := beq_int_false (by omega)
        have b22 : (((kd : Nat) : Int) == 22) = false := beq_int_false (by omega)
        have b23 : (((kd : Nat) : Int) == 23) = false := beq_int_false (by omega)
        have b18 : (((kd : Nat) : Int) == 18) = false := beq_int_false (by omega)
        have b19 : (((kd : Nat) : Int) == 19) = false := beq_int_false (by omega)
        clear hnm HYA
        go_wp2
        go_roundw
        case rel => exact ⟨q + 1, HQ.out, by go_num, fN⟩
        case measure => have := HQ.out; simp [intOf]; omega
      obtain ⟨hat, hle⟩ := HYA.out (by omega) (by omega)
      rw [← Lib.size_eq] at hle
      have hex : s.extract pl (pl + tx.length) = ⟨tx.toArray⟩ := ba_of (by rw [Lib.extract_data]; simpa using hat)
      have hle' : (pl : Int) + (tx.length : Int) ≤ (s.size : Int) := by omega
      have hsb : decide ((s.size : Int) - (pl : Int) < (tx.length : Int)) = false := decide_eq_false (by omega)
      have hsb2 : ((s.size : Int) - (pl : Int) < (tx.length : Int)) = False := by simp; omega
      have hw1 : IntKind.i64.wrap ((s.size : Int) - (pl : Int)) = (s.size : Int) - (pl : Int) := by rw [IntKind.wrap_i64]; omega
      have hw2 : IntKind.i64.wrap ((pl : Int) + (tx.length : Int)) = (pl : Int) + (tx.length : Int) := by rw [IntKind.wrap_i64]; omega
      have hq1 : (pl : Int) ≤ (pl : Int) + (tx.length : Int) := by omega
      have hq2 : ((pl : Int) + (tx.length : Int)).toNat = pl + tx.length := by omega
      have hszt : (ByteArray.mk tx.toArray).size = tx.length := by rw [Lib.size_eq]
      clear HYA hat hle
      rcases hnm with rfl | rfl | rfl | rfl | rfl | rfl | rfl | rfl
      · have r1 : ∀ w', Fr [] (wr.alloc (.cells #[.int .i64 2, .string ⟨tx.toArray⟩, .slice x.a x.ks.length x.c, .int .i64 (pl : Nat)] 37)) w' → w'.cell? ⟨wr.heap.size, 1, none⟩ = some (.string ⟨tx.toArray⟩) := fun w' f => f.cell1 d1 (by simp)
        have r3 : ∀ w', Fr [] (wr.alloc (.cells #[.int .i64 2, .string ⟨tx.toArray⟩, .slice x.a x.ks.length x.c, .int .i64 (pl : Nat)] 37)) w' → w'.cell? ⟨wr.heap.size, 3, none⟩ = some (.int .i64 (pl : Nat)) := fun w' f => f.cell1 d3 (by simp)
        have f00 : Fr [] (wr.alloc (.cells #[.int .i64 2, .string ⟨tx.toArray⟩, .slice x.a x.ks.length x.c, .int .i64 (pl : Nat)] 37)) (wr.alloc (.cells #[.int .i64 2, .string ⟨tx.toArray⟩, .slice x.a x.ks.length x.c, .int .i64 (pl : Nat)] 37)) := Fr.refl _ _
        go_wp2
        go_region_held3 (fun w' => Fr [] (wr.alloc (.cells #[.int .i64 2, .string ⟨tx.toArray⟩, .slice x.a x.ks.length x.c, .int .i64 (pl : Nat)] 37)) w') (with_reducible (first | assumption | (refine Fr.drew ?_; assumption))) (fail)
        go_wp2
        go_roundw
        case rel => exact ⟨q + 1, HQ.out, by go_num, fN.drew⟩
        case measure => have := HQ.out; simp [intOf]; omega
      · have r1 : ∀ w', Fr [] (wr.alloc (.cells #[.int .i64 3, .string ⟨tx.toArray⟩, .slice x.a x.ks.length x.c, .int .i64 (pl : Nat)] 37)) w' → w'.cell? ⟨wr.heap.size, 1, none⟩ = some (.string ⟨tx.toArray⟩) := fun w' f => f.cell1 d1 (by simp)
        have r3 : ∀ w', Fr [] (wr.alloc (.cells #[.int .i64 3, .string ⟨tx.toArray⟩, .slice x.a x.ks.length x.c, .int .i64 (pl : Nat)] 37)) w' → w'.cell? ⟨wr.heap.size, 3, none⟩ = some (.int .i64 (pl : Nat)) := fun w' f => f.cell1 d3 (by simp)
        have f00 : Fr [] (wr.alloc (.cells #[.int .i64 3, .string ⟨tx.toArray⟩, .slice x.a x.ks.length x.c, .int .i64 (pl : Nat)] 37)) (wr.alloc (.cells #[.int .i64 3, .string ⟨tx.toArray⟩, .slice x.a x.ks.length x.c, .int .i64 (pl : Nat)] 37)) := Fr.refl _ _
        go_wp2
        go_region_held3 (fun w' => Fr [] (wr.alloc (.cells #[.int .i64 3, .string ⟨tx.toArray⟩, .slice x.a x.ks.length x.c, .int .i64 (pl : Nat)] 37)) w') (with_reducible (first | assumption | (refine Fr.drew ?_; assumption))) (fail)
        go_wp2
        go_roundw
        case rel => exact ⟨q + 1, HQ.out, by go_num, fN.drew⟩
        case measure => have := HQ.out; simp [intOf]; omega
      · have r1 : ∀ w', Fr [] (wr.alloc (.cells #[.int .i64 5, .string ⟨tx.toArray⟩, .slice x.a x.ks.length x.c, .int .i64 (pl : Nat)] 37)) w' → w'.cell? ⟨wr.heap.size, 1, none⟩ = some (.string ⟨tx.toArray⟩) := fun w' f => f.cell1 d1 (by simp)
        have r3 : ∀ w', Fr [] (wr.alloc (.cells #[.int .i64 5, .string ⟨tx.toArray⟩, .slice x.a x.ks.length x.c, .int .i64 (pl : Nat)] 37)) w' → w'.cell? ⟨wr.heap.size, 3, none⟩ = some (.int .i64 (pl : Nat)) := fun w' f => f.cell1 d3 (by simp)
        have f00 : Fr [] (wr.alloc (.cells #[.int .i64 5, .string ⟨tx.toArray⟩, .slice x.a x.ks.length x.c, .int .i64 (pl : Nat)] 37)) (wr.alloc (.cells #[.int .i64 5, .string ⟨tx.toArray⟩, .slice x.a x.ks.length x.c, .int .i64 (pl : Nat)] 37)) := Fr.refl _ _
        go_wp2
        go_region_held3 (fun w' => Fr [] (wr.alloc (.cells #[.int .i64 5, .string ⟨tx.toArray⟩, .slice x.a x.ks.length x.c, .int .i64 (pl : Nat)] 37)) w') (with_reducible (first | assumption | (refine Fr.drew ?_; assumption))) (fail)
        go_wp2
        go_roundw
        case rel => exact ⟨q + 1, HQ.out, by go_num, fN.drew⟩
        case measure => have := HQ.out; simp [intOf]; omega
      · have r1 : ∀ w', Fr [] (wr.alloc (.cells #[.int .i64 17, .string ⟨tx.toArray⟩, .slice x.a x.ks.length x.c, .int .i64 (pl : Nat)] 37)) w' → w'.cell? ⟨wr.heap.size, 1, none⟩ = some (.string ⟨tx.toArray⟩) := fun w' f => f.cell1 d1 (by simp)
        have r3 : ∀ w', Fr [] (wr.alloc (.cells #[.int .i64 17, .string ⟨tx.toArray⟩, .slice x.a x.ks.length x.c, .int .i64 (pl : Nat)] 37)) w' → w'.cell? ⟨wr.heap.size, 3, none⟩ = some (.int .i64 (pl : Nat)) := fun w' f => f.cell1 d3 (by simp)
        have f00 : Fr [] (wr.alloc (.cells #[.int .i64 17, .string ⟨tx.toArray⟩, .slice x.a x.ks.length x.c, .int .i64 (pl : Nat)] 37)) (wr.alloc (.cells #[.int .i64 17, .string ⟨tx.toArray⟩, .slice x.a x.ks.length x.c, .int .i64 (pl : Nat)] 37)) := Fr.refl _ _
        go_wp2
        go_region_held3 (fun w' => Fr [] (wr.alloc (.cells #[.int .i64 17, .string ⟨tx.toArray⟩, .slice x.a x.ks.length x.c, .int .i64 (pl : Nat)] 37)) w') (with_reducible (first | assumption | (refine Fr.drew ?_; assumption))) (fail)
        go_wp2
        go_roundw
        case rel => exact ⟨q + 1, HQ.out, by go_num, fN.drew⟩
        case measure => have := HQ.out; simp [intOf]; omega
      · have r1 : ∀ w', Fr [] (wr.alloc (.cells #[.int .i64 22, .string ⟨tx.toArray⟩, .slice x.a x.ks.length x.c, .int .i64 (pl : Nat)] 37)) w' → w'.cell? ⟨wr.heap.size, 1, none⟩ = some (.string ⟨tx.toArray⟩) := fun w' f => f.cell1 d1 (by simp)
        have r3 : ∀ w', Fr [] (wr.alloc (.cells #[.int .i64 22, .string ⟨tx.toArray⟩, .slice x.a x.ks.length x.c, .int .i64 (pl : Nat)] 37)) w' → w'.cell? ⟨wr.heap.size, 3, none⟩ = some (.int .i64 (pl : Nat)) := fun w' f => f.cell1 d3 (by simp)
        have f00 : Fr [] (wr.alloc (.cells #[.int .i64 22, .string ⟨tx.toArray⟩, .slice x.a x.ks.length x.c, .int .i64 (pl : Nat)] 37)) (wr.alloc (.cells #[.int .i64 22, .string ⟨tx.toArray⟩, .slice x.a x.ks.length x.c, .int .i64 (pl : Nat)] 37)) := Fr.refl _ _
        go_wp2
        go_region_held3 (fun w' => Fr [] (wr.alloc (.cells #[.int .i64 22, .string ⟨tx.toArray⟩, .slice x.a x.ks.length x.c, .int .i64 (pl : Nat)] 37)) w') (with_reducible (first | assumption | (refine Fr.drew ?_; assumption))) (fail)
        go_wp2
        go_roundw
        case rel => exact ⟨q + 1, HQ.out, by go_num, fN.drew⟩
        case measure => have := HQ.out; simp [intOf]; omega
      · have r1 : ∀ w', Fr [] (wr.alloc (.cells #[.int .i64 23, .string ⟨tx.toArray⟩, .slice x.a x.ks.length x.c, .int .i64 (pl : Nat)] 37)) w' → w'.cell? ⟨wr.heap.size, 1, none⟩ = some (.string ⟨tx.toArray⟩) := fun w' f => f.cell1 d1 (by simp)
        have r3 : ∀ w', Fr [] (wr.alloc (.cells #[.int .i64 23, .string ⟨tx.toArray⟩, .slice x.a x.ks.length x.c, .int .i64 (pl : Nat)] 37)) w' → w'.cell? ⟨wr.heap.size, 3, none⟩ = some (.int .i64 (pl : Nat)) := fun w' f => f.cell1 d3 (by simp)
        have f00 : Fr [] (wr.alloc (.cells #[.int .i64 23, .string ⟨tx.toArray⟩, .slice x.a x.ks.length x.c, .int .i64 (pl : Nat)] 37)) (wr.alloc (.cells #[.int .i64 23, .string ⟨tx.toArray⟩, .slice x.a x.ks.length x.c, .int .i64 (pl : Nat)] 37)) := Fr.refl _ _
        go_wp2
        go_region_held3 (fun w' => Fr [] (wr.alloc (.cells #[.int .i64 23, .string ⟨tx.toArray⟩, .slice x.a x.ks.length x.c, .int .i64 (pl : Nat)] 37)) w') (with_reducible (first | assumption | (refine Fr.drew ?_; assumption))) (fail)
        go_wp2
        go_roundw
        case rel => exact ⟨q + 1, HQ.out, by go_num, fN.drew⟩
        case measure => have := HQ.out; simp [intOf]; omega
      · have r1 : ∀ w', Fr [] (wr.alloc (.cells #[.int .i64 18, .string ⟨tx.toArray⟩, .slice x.a x.ks.length x.c, .int .i64 (pl : Nat)] 37)) w' → w'.cell? ⟨wr.heap.size, 1, none⟩ = some (.string ⟨tx.toArray⟩) := fun w' f => f.cell1 d1 (by simp)
        have r3 : ∀ w', Fr [] (wr.alloc (.cells #[.int .i64 18, .string ⟨tx.toArray⟩, .slice x.a x.ks.length x.c, .int .i64 (pl : Nat)] 37)) w' → w'.cell? ⟨wr.heap.size, 3, none⟩ = some (.int .i64 (pl : Nat)) := fun w' f => f.cell1 d3 (by simp)
        have f00 : Fr [] (wr.alloc (.cells #[.int .i64 18, .string ⟨tx.toArray⟩, .slice x.a x.ks.length x.c, .int .i64 (pl : Nat)] 37)) (wr.alloc (.cells #[.int .i64 18, .string ⟨tx.toArray⟩, .slice x.a x.ks.length x.c, .int .i64 (pl : Nat)] 37)) := Fr.refl _ _
        go_wp2
        go_region_held3 (fun w' => Fr [] (wr.alloc (.cells #[.int .i64 18, .string ⟨tx.toArray⟩, .slice x.a x.ks.length x.c, .int .i64 (pl : Nat)] 37)) w') (with_reducible (first | assumption | (refine Fr.drew ?_; assumption))) (fail)
        go_wp2
        go_roundw
        case rel => exact ⟨q + 1, HQ.out, by go_num, fN.drew⟩
        case measure => have := HQ.out; simp [intOf]; omega
      · have r1 : ∀ w', Fr [] (wr.alloc (.cells #[.int .i64 19, .string ⟨tx.toArray⟩, .slice x.a x.ks.length x.c, .int .i64 (pl : Nat)] 37)) w' → w'.cell? ⟨wr.heap.size, 1, none⟩ = some (.string ⟨tx.toArray⟩) := fun w' f => f.cell1 d1 (by simp)
        have r3 : ∀ w', Fr [] (wr.alloc (.cells #[.int .i64 19, .string ⟨tx.toArray⟩, .slice x.a x.ks.length x.c, .int .i64 (pl : Nat)] 37)) w' → w'.cell? ⟨wr.heap.size, 3, none⟩ = some (.int .i64 (pl : Nat)) := fun w' f => f.cell1 d3 (by simp)
        have f00 : Fr [] (wr.alloc (.cells #[.int .i64 19, .string ⟨tx.toArray⟩, .slice x.a x.ks.length x.c, .int .i64 (pl : Nat)] 37)) (wr.alloc (.cells #[.int .i64 19, .string ⟨tx.toArray⟩, .slice x.a x.ks.length x.c, .int .i64 (pl : Nat)] 37)) := Fr.refl _ _
        go_wp2
        go_region_held3 (fun w' => Fr [] (wr.alloc (.cells #[.int .i64 19, .string ⟨tx.toArray⟩, .slice x.a x.ks.length x.c, .int .i64 (pl : Nat)] 37)) w') (with_reducible (first | assumption | (refine Fr.drew ?_; assumption))) (fail)
        go_wp2
        go_roundw
        case rel => exact ⟨q + 1, HQ.out, by go_num, fN.drew⟩
        case measure => have := HQ.out; simp [intOf]; omega
end Go.Proofs.YtnkjgggbiokfbaaGreatDoor
