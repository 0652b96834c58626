/-
  A text moved by d: the tokens' places move, the nodes' places move with them but for those that stand nowhere; condition: the last token is the end's, and no other.
-/
import Derived.Test.YtekjfddcbcijdaaGreatDoorPrg
namespace Go.Proofs.YtekjfddcbcijdaaGreatDoor
open Go.RowKit
set_option linter.unusedVariables false
set_option linter.unusedSimpArgs false

def sh (d : Nat) (t : Tok) : Tok := ⟨t.kind, t.text, t.frm + d, t.to + d, t.n⟩
def plS (d k p : Nat) : Nat := if k = 1 ∨ k = 14 then p else p + d
def shN (d : Nat) (x : PN) : PN := ⟨x.kind, x.text, x.kids, plS d x.kind x.pl⟩
def shR (d : Nat) : R → R
  | some (.ok (v, i, ns)) => some (.ok (v, i, ns.map (shN d)))
  | some (.error e) => some (.error e)
  | none => none
def shT (d : Nat) : NT → NT
  | .blockL pl acc => .blockL (pl + d) acc
  | .signedL acc => .signedL (acc.map (sh d))
  | .laySigns acc n => .laySigns (acc.map (sh d)) n
  | nt => nt
def okB : NT → Bool
  | .worded k => k != 1 && k != 14
  | .alone k => k != 1 && k != 14
  | .empty k => k != 1 && k != 14
  | .about k => k != 1 && k != 14
  | _ => true
theorem tk_sh {d : Nat} {ts : List Tok} {i : Nat} (h : i < ts.length) : tk (ts.map (sh d)) i = sh d (tk ts i) := by
  unfold tk
  simp [List.getD_eq_getElem?_getD, h]
theorem frm_sh {d : Nat} {ts : List Tok} {i : Nat} (h : i < ts.length) : (tk (ts.map (sh d)) i).frm = (tk ts i).frm + d := by rw [tk_sh h]; rfl
theorem tk_nil {ts : List Tok} {i : Nat} (h : ¬ i < ts.length) : tk ts i = ⟨0, [], 0, 0, 0⟩ := by
  unfold tk
  rw [List.getD_eq_getElem?_getD, List.getElem?_eq_none (by omega)]
  rfl
theorem nx_sh {d : Nat} {ts : List Tok} {i : Nat} : nx (ts.map (sh d)) i = nx ts i := by
  unfold nx
  by_cases h : i < ts.length
  · rw [tk_sh h]; rfl
  · rw [tk_nil (by simpa using h), tk_nil h]
theorem tx_sh {d : Nat} {ts : List Tok} {i : Nat} : (tk (ts.map (sh d)) i).text = (tk ts i).text := by
  by_cases h : i < ts.length
  · rw [tk_sh h]; rfl
  · rw [tk_nil (by simpa using h), tk_nil h]
theorem n_sh {d : Nat} {ts : List Tok} {i : Nat} : (tk (ts.map (sh d)) i).n = (tk ts i).n := by
  by_cases h : i < ts.length
  · rw [tk_sh h]; rfl
  · rw [tk_nil (by simpa using h), tk_nil h]
theorem kd_sh {d : Nat} {ns : List PN} {n : Nat} : kdN (ns.map (shN d)) n = kdN ns n := by
  unfold kdN
  rw [List.getElem?_map]
  cases ns[n]? <;> rfl
theorem pl_sh {d : Nat} {ns : List PN} {n : Nat} (h : kdN ns n = 22) : plN (ns.map (shN d)) n = plN ns n + d := by
  unfold plN
  unfold kdN at h
  rw [List.getElem?_map]
  cases hx : ns[n]? with
  | none => rw [hx] at h; cases h
  | some x =>
    rw [hx] at h
    simp only at h
    simp [shN, plS, h]
theorem laySg_sh {d : Nat} : ∀ (acc : List Tok) (n : Nat) (ns : List PN), laySg (acc.map (sh d)) n (ns.map (shN d)) = ((laySg acc n ns).1, (laySg acc n ns).2.map (shN d))
  | [], n, ns => rfl
  | t :: r, n, ns => by
    simp only [List.map_cons, laySg, List.length_map]
    rw [← laySg_sh r]
    simp [shN, plS, sh]

def Mv (d : Nat) (E : Prop) (len i : Nat) (ns : List PN) (c s : Nat) (sg : Bool) (r r' : R) : Prop := Good E len i ns c s sg r ∧ r' = shR d r
section
variable {d : Nat} {E : Prop} {len i : Nat} {ns : List PN} {c s : Nat} {sg : Bool} {r r' : R}
theorem Mv.bind {c' s' : Nat} {sg' : Bool} {k k' : List Nat → Nat → List PN → R} (h : Mv d E len i ns c s sg r r') (hk : ∀ v j ms, i + c ≤ j → j < len → ns.length ≤ ms.length → (sg = true → ∃ n, v = [n] ∧ n < ms.length) → Mv d E len j ms c' s' sg' (k v j ms) (k' v j (ms.map (shN d)))) : Mv d E len i ns (c + c') (s + s') sg' (bindR r k) (bindR r' k') := by
  obtain ⟨h, rfl⟩ := h
  refine ⟨h.bind fun v j ms h1 h2 h3 h4 => (hk v j ms h1 h2 h3 h4).1, ?_⟩
  match r, h with
  | none, _ => rfl
  | some (.error e), _ => rfl
  | some (.ok (v, j, ms)), h =>
    obtain ⟨h1, h2, h3, _, h5⟩ := h.2.2 v j ms rfl
    exact (hk v j ms h1 h2 h3 h5).2
theorem Mv.shift {q c' s' : Nat} (h : Mv d E len (i + q) ns c s sg r r') (hc : c' ≤ c + q) (hs : s ≤ s' + 2 * q) : Mv d E len i ns c' s' sg r r' := ⟨h.1.shift hc hs, h.2⟩
theorem Mv.weak {c' s' : Nat} (h : Mv d E len i ns c s sg r r') (hc : c' ≤ c) (hs : s ≤ s') : Mv d E len i ns c' s' sg r r' := ⟨h.1.weak hc hs, h.2⟩
theorem Mv.less {E' : Prop} (h : Mv d E len i ns c s sg r r') (hE : E' → E) : Mv d E' len i ns c s sg r r' := ⟨h.1.less hE, h.2⟩
theorem Mv.err {e : Nat} (h : e < len) : Mv d E len i ns c s sg (some (.error e)) (some (.error e)) := ⟨Good.err h, rfl⟩
theorem Mv.lay {k : Nat} {t : List UInt8} {p p' : Nat} {ks : List Nat} (hi : i < len) (hp : p' = plS d k p) : Mv d E len i ns 0 1 true (layR k t p ks i ns) (layR k t p' ks i (ns.map (shN d))) := ⟨Good.lay hi, by subst hp; simp [layR, shR, shN]⟩
theorem Mv.one {n : Nat} (h : i < len) (hn : n < ns.length) : Mv d E len i ns 0 0 true (some (.ok ([n], i, ns))) (some (.ok ([n], i, ns.map (shN d)))) := ⟨Good.one h hn, rfl⟩
theorem Mv.same {v : List Nat} (h : i < len) (hv : sg = true → ∃ n, v = [n] ∧ n < ns.length) : Mv d E len i ns 0 0 sg (some (.ok (v, i, ns))) (some (.ok (v, i, ns.map (shN d)))) := ⟨Good.same h hv, rfl⟩
theorem Mv.ite {C : Prop} [Decidable C] {a b a' b' : R} (h : C → Mv d E len i ns c s sg a a') (k : ¬ C → Mv d E len i ns c s sg b b') : Mv d E len i ns c s sg (if C then a else b) (if C then a' else b') := by
  by_cases e : C
  · rw [if_pos e, if_pos e]; exact h e
  · rw [if_neg e, if_neg e]; exact k e
theorem Mv.want {ts : List Tok} (h : Toks ts) {what : List UInt8} {k k' : R} (hi : i < ts.length) (hw : what ≠ []) (hk : nx ts i = what → i + 1 < ts.length → Mv d E ts.length (i + 1) ns c s sg k k') : Mv d E ts.length i ns (c + 1) (s - 2) sg (wantR ts what i k) (wantR (ts.map (sh d)) what i k') := by
  unfold wantR
  rw [nx_sh]
  by_cases e : nx ts i = what
  · rw [if_pos e, if_pos e]
    exact (hk e (h.more hi (by rw [e]; exact hw))).shift (by omega) (by omega)
  · rw [if_neg e, if_neg e]
    exact Mv.err hi
end
theorem pl_frm {d k : Nat} {ts : List Tok} {j : Nat} (h : j < ts.length) (hk : (k != 1 && k != 14) = true) : (tk (ts.map (sh d)) j).frm = plS d k (tk ts j).frm := by
  rw [frm_sh h]
  simp at hk
  unfold plS
  rw [if_neg (by omega)]

set_option maxHeartbeats 4000000 in
theorem moved {ts : List Tok} (h : Toks ts) (d : Nat) : ∀ (f : Nat) (nt : NT) (i : Nat) (ns : List PN), i < ts.length → preN ts i ns nt → okB nt = true → Mv d (40 * (ts.length - i) + rank nt < f) ts.length i ns (consN nt) (slack nt) (single nt) (P ts f nt i ns) (P (ts.map (sh d)) f (shT d nt) i (ns.map (shN d))) := by
  intro f
  induction f with
  | zero => exact fun nt i ns hi hp _ => ⟨good h 0 nt i ns hi hp, rfl⟩
  | succ f ih =>
    intro nt i ns hi hp ho
    generalize hE : (40 * (ts.length - i) + rank nt < f + 1) = E
    have go : ∀ (nt' : NT) (j : Nat) (ms : List PN), j < ts.length → preN ts j ms nt' → i ≤ j → (i < j ∨ rank nt' < rank nt) → rank nt' ≤ 28 → ∀ (ho : okB nt' = true := by rfl), Mv d E ts.length j ms (consN nt') (slack nt') (single nt') (P ts f nt' j ms) (P (ts.map (sh d)) f (shT d nt') j (ms.map (shN d))) := fun nt' j ms hj hp' hij hr h28 ho' => (ih nt' j ms hj hp' ho').less (fun hf => by
      rw [← hE] at hf
      rcases hr with hr | hr
      · have : rank nt' ≤ 28 := h28
        omega
      · omega)
    clear ih hE
    cases nt with
    | prog => exact (go (.progL []) i ns hi trivial (Nat.le_refl _) (.inr (by decide)) (by decide))
    | progL acc =>
      simp only [P, shT, nx_sh, tx_sh, n_sh, kd_sh]
      by_cases e : nx ts i = []
      · simp only [if_pos e]
        exact Mv.lay hi (by simp [plS])
      · simp only [if_neg e]
        exact ((go .decl i ns hi trivial (Nat.le_refl _) (.inr (by simp [rank])) (by decide)).bind (c' := 0) (s' := 1) (sg' := true) (fun v j ms h1 h2 h3 _ => go (.progL (acc ++ [hd v])) j ms h2 trivial (by omega) (.inl (by simp [consN] at h1; omega)) (by simp [rank]))).weak (by simp [consN]) (by simp [slack])
    | decl =>
      simp only [P, shT, nx_sh, tx_sh, n_sh, kd_sh]
      unfold declNT
      by_cases e1 : nx ts i = [114, 101, 99]
      · simp only [if_pos e1]
        exact go .recd i ns hi (by simp [preN, e1]) (Nat.le_refl _) (.inr (by simp [rank])) (by decide)
      · simp only [if_neg e1]
        by_cases e2 : nx ts i = [102, 110]
        · simp only [if_pos e2]
          exact go .func i ns hi (by simp [preN, e2]) (Nat.le_refl _) (.inr (by simp [rank])) (by decide)
        · simp only [if_neg e2]
          exact Mv.err hi
    | recd =>
      simp only [P, shT, nx_sh, tx_sh, n_sh, kd_sh]
      have h1 := h.more hi hp
      refine Mv.shift (q := 1) (Mv.want h h1 (by decide) fun _ h2 => Mv.want h h2 (by decide) fun _ h3 => Mv.bind (go (.listed false [125]) (i + 1 + 1 + 1) ns h3 (by simp [preN]) (by omega) (.inl (by omega)) (by decide)) (c' := 0) (s' := 1) (sg' := true) fun v j ms _ g2 _ _ => Mv.lay g2 (pl_frm h1 rfl)) ?_ ?_
      all_goals simp [consN, slack]
    | func =>
      simp only [P, shT, nx_sh, tx_sh, n_sh, kd_sh]
      have h1 := h.more hi hp
      refine Mv.shift (q := 1) (Mv.want h h1 (by decide) fun _ h2 => Mv.want h h2 (by decide) fun _ h3 => Mv.bind (go (.listed false [41]) (i + 1 + 1 + 1) ns h3 (by simp [preN]) (by omega) (.inl (by omega)) (by decide)) (c' := 1) (s' := 1) (sg' := true) fun v j ms g1 g2 _ _ => Mv.bind (go (.block 0) j ms g2 trivial (by omega) (.inl (by omega)) (by decide)) (c' := 0) (s' := 1) (sg' := true) fun v j ms _ g2 _ _ => Mv.lay g2 (pl_frm h1 rfl)) ?_ ?_
      all_goals simp [consN, slack]
    | name =>
      simp only [P, shT, nx_sh, tx_sh, n_sh, kd_sh]
      refine (Mv.want h hi (by decide) fun _ h2 => Mv.lay h2 (pl_frm hi rfl)).weak ?_ ?_
      all_goals simp [consN, slack]
    | block pl =>
      simp only [P, shT, nx_sh, tx_sh, n_sh, kd_sh, frm_sh hi]
      refine (Mv.want h hi (by decide) fun _ h2 => go (.blockL _ []) (i + 1) ns h2 trivial (by omega) (.inl (by omega)) (by simp [rank])).weak ?_ ?_
      all_goals simp [consN, slack]
    | blockL pl acc =>
      simp only [P, shT, nx_sh, tx_sh, n_sh, kd_sh]
      by_cases e : nx ts i = [125]
      · simp only [if_pos e]
        refine Mv.shift (q := 1) (Mv.lay (h.more hi (by rw [e]; decide)) (by simp [plS])) ?_ ?_
        all_goals simp [consN, slack]
      · simp only [if_neg e]
        refine ((go .stmt i ns hi trivial (Nat.le_refl _) (.inr (by simp [rank])) (by decide)).bind (c' := 1) (s' := 0) (sg' := true) (fun v j ms h1 h2 h3 _ => go (.blockL pl (acc ++ [hd v])) j ms h2 trivial (by omega) (.inl (by simp [consN] at h1; omega)) (by simp [rank]))).weak ?_ ?_
        all_goals simp [consN, slack]
    | stmt =>
      simp only [P, shT, nx_sh, tx_sh, n_sh, kd_sh]
      unfold stmtNT
      have nn : ∀ l : List UInt8, l ≠ [] → nx ts i = l → nx ts i ≠ [] := fun l hl e => by rw [e]; exact hl
      by_cases e1 : nx ts i = [108, 101, 116]
      · simp only [if_pos e1]; exact go .letS i ns hi (nn _ (by decide) e1) (Nat.le_refl _) (.inr (by simp [rank])) (by decide)
      simp only [if_neg e1]
      by_cases e2 : nx ts i = [105, 102]
      · simp only [if_pos e2]; exact go .choice i ns hi (nn _ (by decide) e2) (Nat.le_refl _) (.inr (by simp [rank])) (by decide)
      simp only [if_neg e2]
      by_cases e3 : nx ts i = [119, 104, 105, 108, 101]
      · simp only [if_pos e3]; exact go .whileS i ns hi (nn _ (by decide) e3) (Nat.le_refl _) (.inr (by simp [rank])) (by decide)
      simp only [if_neg e3]
      by_cases e4 : nx ts i = [114, 101, 116, 117, 114, 110]
      · simp only [if_pos e4]; exact go (.worded 9) i ns hi (nn _ (by decide) e4) (Nat.le_refl _) (.inr (by simp [rank])) (by decide)
      simp only [if_neg e4]
      by_cases e5 : nx ts i = [111, 117, 116]
      · simp only [if_pos e5]; exact go (.worded 10) i ns hi (nn _ (by decide) e5) (Nat.le_refl _) (.inr (by simp [rank])) (by decide)
      simp only [if_neg e5]
      by_cases e6 : nx ts i = [115, 116, 111, 112]
      · simp only [if_pos e6]; exact go (.worded 11) i ns hi (nn _ (by decide) e6) (Nat.le_refl _) (.inr (by simp [rank])) (by decide)
      simp only [if_neg e6]
      by_cases e7 : nx ts i = [109, 101, 114, 103, 101]
      · simp only [if_pos e7]; exact go .merge i ns hi (nn _ (by decide) e7) (Nat.le_refl _) (.inr (by simp [rank])) (by decide)
      simp only [if_neg e7]
      exact go .setOrDo i ns hi trivial (Nat.le_refl _) (.inr (by simp [rank])) (by decide)
    | letS =>
      simp only [P, shT, nx_sh, tx_sh, n_sh, kd_sh]
      have h1 := h.more hi hp
      refine Mv.shift (q := 1) (Mv.want h h1 (by decide) fun _ h2 => Mv.want h h2 (by decide) fun _ h3 => Mv.bind (go .expr (i + 1 + 1 + 1) ns h3 trivial (by omega) (.inl (by omega)) (by decide)) (c' := 1) (s' := 0) (sg' := true) fun v j ms _ g2 _ _ => (Mv.want h g2 (by decide) fun _ g3 => Mv.lay g3 (pl_frm h1 rfl)).weak (by omega) (by omega)) ?_ ?_
      all_goals simp [consN, slack]
    | choice =>
      simp only [P, shT, nx_sh, tx_sh, n_sh, kd_sh]
      have h1 := h.more hi hp
      refine Mv.shift (q := 1) (Mv.bind (go .expr (i + 1) ns h1 trivial (by omega) (.inl (by omega)) (by decide)) (c' := 1) (s' := 2) (sg' := true) fun v j ms _ g2 _ _ => Mv.bind (go (.block 0) j ms g2 trivial (by omega) (.inl (by omega)) (by decide)) (c' := 0) (s' := 2) (sg' := true) fun v j ms _ g2 _ _ => Mv.bind (go .other j ms g2 trivial (by omega) (.inl (by omega)) (by decide)) (c' := 0) (s' := 1) (sg' := true) fun v j ms _ g2 _ _ => Mv.lay g2 (pl_frm hi rfl)) ?_ ?_
      all_goals simp [consN, slack]
    | other =>
      simp only [P, shT, nx_sh, tx_sh, n_sh, kd_sh]
      by_cases e : nx ts i = [101, 108, 115, 101]
      · simp only [if_pos e]
        refine Mv.shift (q := 1) (go (.block 0) (i + 1) ns (h.more hi (by rw [e]; decide)) trivial (by omega) (.inl (by omega)) (by decide)) ?_ ?_
        all_goals simp [consN, slack]
      · simp only [if_neg e]
        exact Mv.lay hi (by simp [plS])
    | whileS =>
      simp only [P, shT, nx_sh, tx_sh, n_sh, kd_sh]
      have h1 := h.more hi hp
      refine Mv.shift (q := 1) (Mv.bind (go .expr (i + 1) ns h1 trivial (by omega) (.inl (by omega)) (by decide)) (c' := 1) (s' := 1) (sg' := true) fun v j ms _ g2 _ _ => Mv.bind (go (.block 0) j ms g2 trivial (by omega) (.inl (by omega)) (by decide)) (c' := 0) (s' := 1) (sg' := true) fun v j ms _ g2 _ _ => Mv.lay g2 (pl_frm hi rfl)) ?_ ?_
      all_goals simp [consN, slack]
    | worded k =>
      simp only [P, shT, nx_sh, tx_sh, n_sh, kd_sh]
      have h1 := h.more hi hp
      refine Mv.shift (q := 1) (Mv.bind (go .expr (i + 1) ns h1 trivial (by omega) (.inl (by omega)) (by decide)) (c' := 1) (s' := 0) (sg' := true) fun v j ms _ g2 _ _ => (Mv.want h g2 (by decide) fun _ g3 => Mv.lay g3 (pl_frm hi ho)).weak (by omega) (by omega)) ?_ ?_
      all_goals simp [consN, slack]
    | merge =>
      simp only [P, shT, nx_sh, tx_sh, n_sh, kd_sh]
      have h1 := h.more hi hp
      refine Mv.shift (q := 1) (Mv.want h h1 (by decide) fun _ h2 => Mv.bind (go (.listed false [41]) (i + 1 + 1) ns h2 (by simp [preN]) (by omega) (.inl (by omega)) (by decide)) (c' := 1) (s' := 0) (sg' := true) fun v j ms _ g2 _ _ => (Mv.want h g2 (by decide) fun _ g3 => Mv.lay g3 (pl_frm hi rfl)).weak (by omega) (by omega)) ?_ ?_
      all_goals simp [consN, slack]
    | setOrDo =>
      simp only [P, shT, nx_sh, tx_sh, n_sh, kd_sh]
      refine (Mv.bind (go .back i ns hi trivial (Nat.le_refl _) (.inr (by simp [rank])) (by decide)) (c' := 0) (s' := 0) (sg' := true) fun v j ms g1 g2 _ _ => ?_).weak ?_ ?_
      · simp only [kd_sh]
        refine Mv.ite (fun e => ?_) (fun e2 => ?_)
        ·
          exact (go (.setS (hd v)) j ms g2 (by show nx ts j ≠ []; rw [e.2]; decide) (by omega) (.inl (by simp [consN] at g1; omega)) (by simp [rank])).weak (by omega) (by simp [slack])
        · refine Mv.ite (fun e => ?_) (fun e2 => ?_)
          · exact Mv.err g2
          · exact (Mv.want h g2 (by decide) fun _ g3 => Mv.lay g3 (by rw [pl_sh (Classical.not_not.1 e2)]; simp [plS])).weak (by omega) (by omega)
      all_goals simp [consN, slack]
    | setS p =>
      simp only [P, shT, nx_sh, tx_sh, n_sh, kd_sh]
      have h1 := h.more hi hp
      refine Mv.shift (q := 1) (Mv.bind (go .expr (i + 1) ns h1 trivial (by omega) (.inl (by omega)) (by decide)) (c' := 1) (s' := 0) (sg' := true) fun v j ms _ g2 _ _ => (Mv.want h g2 (by decide) fun _ g3 => Mv.lay g3 (pl_frm hi rfl)).weak (by omega) (by omega)) ?_ ?_
      all_goals simp [consN, slack]
    | expr =>
      simp only [P, shT, nx_sh, tx_sh, n_sh, kd_sh]
      refine (Mv.bind (go (.chain 2) i ns hi (by simp [preN]) (Nat.le_refl _) (.inr (by simp [rank])) (by decide)) (c' := 0) (s' := 0) (sg' := true) fun v j ms g1 g2 _ g4 => ?_).weak ?_ ?_
      · refine Mv.ite (fun e => ?_) (fun e => ?_)
        ·
          exact (go (.joined (hd v) 2) j ms g2 ⟨fun e2 => by rw [e2] at e; simp [lineL] at e, by decide, by decide⟩ (by omega) (.inl (by simp [consN] at g1; omega)) (by simp [rank])).weak (by omega) (by simp [slack])
        · exact Mv.same g2 g4
      all_goals simp [consN, slack]
    | chain line =>
      simp only [P, shT, nx_sh, tx_sh, n_sh, kd_sh]
      have hl : 0 < line ∧ line ≤ 7 := hp
      refine Mv.ite (fun e => ?_) (fun e => ?_)
      · exact go .signed i ns hi trivial (Nat.le_refl _) (.inr (by simp [rank]; omega)) (by decide)
      · refine (Mv.bind (go (.chain (line + 1)) i ns hi (by show 0 < line + 1 ∧ line + 1 ≤ 7; omega) (Nat.le_refl _) (.inr (by simp [rank]; omega)) (by simp [rank]; omega)) (c' := 0) (s' := 0) (sg' := true) fun v j ms g1 g2 _ g4 => ?_).weak ?_ ?_
        · obtain ⟨n, rfl, hn⟩ := g4 rfl
          exact go (.chainL line n) j ms g2 ⟨by omega, by omega, hn⟩ (by omega) (.inl (by simp [consN] at g1; omega)) (by simp [rank])
        all_goals simp [consN, slack]
    | chainL line n =>
      simp only [P, shT, nx_sh, tx_sh, n_sh, kd_sh]
      have hl : line ≤ 6 ∧ 0 < line ∧ n < ns.length := hp
      refine Mv.ite (fun e => ?_) (fun e => ?_)
      ·
        refine (Mv.bind (go (.joined n (line + 1)) i ns hi ⟨fun e2 => by rw [e2, lineL_nil] at e; omega, by omega, by omega⟩ (Nat.le_refl _) (.inr (by simp [rank])) (by simp [rank])) (c' := 0) (s' := 0) (sg' := true) fun v j ms g1 g2 _ g4 => ?_).weak ?_ ?_
        · obtain ⟨m, rfl, hm⟩ := g4 rfl
          exact go (.chainL line m) j ms g2 ⟨by omega, by omega, hm⟩ (by omega) (.inl (by simp [consN] at g1; omega)) (by simp [rank])
        all_goals simp [consN, slack]
      · exact Mv.one hi hl.2.2
    | joined left line =>
      simp only [P, shT, nx_sh, tx_sh, n_sh, kd_sh]
      have hl : nx ts i ≠ [] ∧ 0 < line ∧ line ≤ 7 := hp
      have h1 := h.more hi hl.1
      refine Mv.shift (q := 1) (Mv.bind (go (.chain line) (i + 1) ns h1 hl.2 (by omega) (.inl (by omega)) (by simp [rank]; omega)) (c' := 0) (s' := 1) (sg' := true) fun v j ms _ g2 _ _ => Mv.lay g2 (pl_frm hi rfl)) ?_ ?_
      all_goals simp [consN, slack]
    | signed => exact go (.signedL []) i ns hi trivial (Nat.le_refl _) (.inr (by simp [rank])) (by simp [rank])
    | signedL acc =>
      simp only [P, shT, nx_sh, tx_sh, n_sh, kd_sh]
      refine Mv.ite (fun e => ?_) (fun e => ?_)
      ·
        have hq := go (.signedL (acc ++ [tk ts i])) (i + 1) ns (h.more hi (fun e2 => by rw [e2, isSg_nil] at e; cases e)) trivial (by omega) (.inl (by omega)) (by simp [rank])
        simp only [shT, List.map_append, List.map_cons, List.map_nil] at hq
        rw [tk_sh hi]
        refine Mv.shift (q := 1) hq ?_ ?_
        all_goals simp [consN, slack]
      · refine (Mv.bind (go .back i ns hi trivial (Nat.le_refl _) (.inr (by simp [rank])) (by decide)) (c' := 0) (s' := acc.length) (sg' := true) fun v j ms g1 g2 _ g4 => ?_).weak ?_ ?_
        · obtain ⟨m, rfl, hm⟩ := g4 rfl
          have hq := go (.laySigns acc.reverse m) j ms g2 hm (by omega) (.inl (by simp [consN] at g1; omega)) (by simp [rank])
          simp only [shT, List.map_reverse] at hq
          exact hq.weak (by simp [consN]) (by simp [slack])
        all_goals simp [consN, slack]
    | laySigns acc n =>
      simp only [P, shT, nx_sh, tx_sh, n_sh, kd_sh]
      have hn : n < ns.length := hp
      obtain ⟨g1, g2⟩ := laySg_len acc n ns hn
      refine ⟨?_, by rw [laySg_sh]; rfl⟩
      refine ⟨fun _ => ⟨_, rfl⟩, (fun e h => by cases h), fun v j ms h => ?_⟩
      cases h
      exact ⟨by simp [consN], hi, by omega, by simp only [slack]; omega, fun _ => ⟨_, rfl, g2⟩⟩
    | back =>
      simp only [P, shT, nx_sh, tx_sh, n_sh, kd_sh]
      refine (Mv.bind (go .first i ns hi trivial (Nat.le_refl _) (.inr (by simp [rank])) (by decide)) (c' := 0) (s' := 0) (sg' := true) fun v j ms g1 g2 _ g4 => ?_).weak ?_ ?_
      · obtain ⟨m, rfl, hm⟩ := g4 rfl
        exact go (.backL m) j ms g2 hm (by omega) (.inl (by simp [consN] at g1; omega)) (by simp [rank])
      all_goals simp [consN, slack]
    | backL n =>
      simp only [P, shT, nx_sh, tx_sh, n_sh, kd_sh]
      have hn : n < ns.length := hp
      refine Mv.ite (fun e => ?_) (fun e => ?_)
      ·
        refine (Mv.bind (go (.field n) i ns hi (by show nx ts i ≠ []; rw [e]; decide) (Nat.le_refl _) (.inr (by simp [rank])) (by simp [rank])) (c' := 0) (s' := 0) (sg' := true) fun v j ms g1 g2 _ g4 => ?_).weak ?_ ?_
        · obtain ⟨m, rfl, hm⟩ := g4 rfl
          exact go (.backL m) j ms g2 hm (by omega) (.inl (by simp [consN] at g1; omega)) (by simp [rank])
        all_goals simp [consN, slack]
      · refine Mv.ite (fun e => ?_) (fun e => ?_)
        ·
          refine (Mv.bind (go (.elem n) i ns hi (by show nx ts i ≠ []; rw [e]; decide) (Nat.le_refl _) (.inr (by simp [rank])) (by simp [rank])) (c' := 0) (s' := 0) (sg' := true) fun v j ms g1 g2 _ g4 => ?_).weak ?_ ?_
          · obtain ⟨m, rfl, hm⟩ := g4 rfl
            exact go (.backL m) j ms g2 hm (by omega) (.inl (by simp [consN] at g1; omega)) (by simp [rank])
          all_goals simp [consN, slack]
        · exact Mv.one hi hn
    | field n =>
      simp only [P, shT, nx_sh, tx_sh, n_sh, kd_sh]
      have h1 := h.more hi hp
      refine Mv.shift (q := 1) (Mv.want h h1 (by decide) fun _ h2 => Mv.lay h2 (pl_frm hi rfl)) ?_ ?_
      all_goals simp [consN, slack]
    | elem n =>
      simp only [P, shT, nx_sh, tx_sh, n_sh, kd_sh]
      have h1 := h.more hi hp
      refine Mv.shift (q := 1) (Mv.bind (go .expr (i + 1) ns h1 trivial (by omega) (.inl (by omega)) (by decide)) (c' := 1) (s' := 0) (sg' := true) fun v j ms _ g2 _ _ => (Mv.want h g2 (by decide) fun _ g3 => Mv.lay g3 (pl_frm hi rfl)).weak (by omega) (by omega)) ?_ ?_
      all_goals simp [consN, slack]
    | first =>
      simp only [P, shT, nx_sh, tx_sh, n_sh, kd_sh]
      unfold firstNT
      have nn : ∀ l : List UInt8, l ≠ [] → nx ts i = l → nx ts i ≠ [] := fun l hl e => by rw [e]; exact hl
      by_cases e0 : nx ts i = [110, 117, 109, 98, 101, 114]
      · simp only [if_pos e0]; exact go .number i ns hi (nn _ (by decide) e0) (Nat.le_refl _) (.inr (by simp [rank])) (by decide)
      simp only [if_neg e0]
      by_cases e1 : nx ts i = [110, 97, 109, 101]
      · simp only [if_pos e1]; exact go .nameOrCall i ns hi (nn _ (by decide) e1) (Nat.le_refl _) (.inr (by simp [rank])) (by decide)
      simp only [if_neg e1]
      by_cases e2 : nx ts i = [110, 117, 108, 108]
      · simp only [if_pos e2]; exact go (.alone 16) i ns hi (nn _ (by decide) e2) (Nat.le_refl _) (.inr (by simp [rank])) (by decide)
      simp only [if_neg e2]
      by_cases e3 : nx ts i = [114, 111, 111, 116]
      · simp only [if_pos e3]; exact go (.alone 30) i ns hi (nn _ (by decide) e3) (Nat.le_refl _) (.inr (by simp [rank])) (by decide)
      simp only [if_neg e3]
      by_cases e4 : nx ts i = [110, 101, 119]
      · simp only [if_pos e4]; exact go .made i ns hi (nn _ (by decide) e4) (Nat.le_refl _) (.inr (by simp [rank])) (by decide)
      simp only [if_neg e4]
      by_cases e5 : nx ts i = [97, 114, 114]
      · simp only [if_pos e5]; exact go (.about 24) i ns hi (nn _ (by decide) e5) (Nat.le_refl _) (.inr (by simp [rank])) (by decide)
      simp only [if_neg e5]
      by_cases e6 : nx ts i = [108, 101, 110]
      · simp only [if_pos e6]; exact go (.about 25) i ns hi (nn _ (by decide) e6) (Nat.le_refl _) (.inr (by simp [rank])) (by decide)
      simp only [if_neg e6]
      by_cases e7 : nx ts i = [105, 110]
      · simp only [if_pos e7]; exact go (.empty 26) i ns hi (nn _ (by decide) e7) (Nat.le_refl _) (.inr (by simp [rank])) (by decide)
      simp only [if_neg e7]
      by_cases e8 : nx ts i = [105, 109, 103]
      · simp only [if_pos e8]; exact go (.about 27) i ns hi (nn _ (by decide) e8) (Nat.le_refl _) (.inr (by simp [rank])) (by decide)
      simp only [if_neg e8]
      by_cases e9 : nx ts i = [115, 105, 122, 101]
      · simp only [if_pos e9]; exact go (.empty 28) i ns hi (nn _ (by decide) e9) (Nat.le_refl _) (.inr (by simp [rank])) (by decide)
      simp only [if_neg e9]
      by_cases e10 : nx ts i = [112, 114, 111, 109, 111, 116, 101]
      · simp only [if_pos e10]; exact go (.about 29) i ns hi (nn _ (by decide) e10) (Nat.le_refl _) (.inr (by simp [rank])) (by decide)
      simp only [if_neg e10]
      by_cases e11 : nx ts i = [40]
      · simp only [if_pos e11]; exact go .brack i ns hi trivial (Nat.le_refl _) (.inr (by simp [rank])) (by decide)
      simp only [if_neg e11]
      exact Mv.err hi
    | number =>
      simp only [P, shT, nx_sh, tx_sh, n_sh, kd_sh]
      refine Mv.shift (q := 1) (Mv.lay (h.more hi hp) (pl_frm hi rfl)) ?_ ?_
      all_goals simp [consN, slack]
    | nameOrCall =>
      simp only [P, shT, nx_sh, tx_sh, n_sh, kd_sh]
      have h1 := h.more hi hp
      refine Mv.ite (fun e => ?_) (fun e => ?_)
      ·
        refine Mv.shift (q := 2) (Mv.bind (go (.listed true [41]) (i + 2) ns (h.more h1 (by rw [e]; decide)) (by simp [preN]) (by omega) (.inl (by omega)) (by decide)) (c' := 0) (s' := 1) (sg' := true) fun v j ms _ g2 _ _ => Mv.lay g2 (pl_frm hi rfl)) ?_ ?_
        all_goals simp [consN, slack]
      · refine Mv.shift (q := 1) (Mv.lay h1 (pl_frm hi rfl)) ?_ ?_
        all_goals simp [consN, slack]
    | made =>
      simp only [P, shT, nx_sh, tx_sh, n_sh, kd_sh]
      have h1 := h.more hi hp
      refine Mv.shift (q := 1) (Mv.want h h1 (by decide) fun _ h2 => Mv.lay h2 (pl_frm h1 rfl)) ?_ ?_
      all_goals simp [consN, slack]
    | alone k =>
      simp only [P, shT, nx_sh, tx_sh, n_sh, kd_sh]
      refine Mv.shift (q := 1) (Mv.lay (h.more hi hp) (pl_frm hi ho)) ?_ ?_
      all_goals simp [consN, slack]
    | empty k =>
      simp only [P, shT, nx_sh, tx_sh, n_sh, kd_sh]
      have h1 := h.more hi hp
      refine Mv.shift (q := 1) (Mv.want h h1 (by decide) fun _ h2 => Mv.want h h2 (by decide) fun _ h3 => Mv.lay h3 (pl_frm hi ho)) ?_ ?_
      all_goals simp [consN, slack]
    | about k =>
      simp only [P, shT, nx_sh, tx_sh, n_sh, kd_sh]
      have h1 := h.more hi hp
      refine Mv.shift (q := 1) (Mv.bind (go .brack (i + 1) ns h1 trivial (by omega) (.inl (by omega)) (by decide)) (c' := 0) (s' := 1) (sg' := true) fun v j ms _ g2 _ _ => Mv.lay g2 (pl_frm hi ho)) ?_ ?_
      all_goals simp [consN, slack]
    | brack =>
      simp only [P, shT, nx_sh, tx_sh, n_sh, kd_sh]
      refine (Mv.want h hi (by decide) fun _ h2 => Mv.bind (go .expr (i + 1) ns h2 trivial (by omega) (.inl (by omega)) (by decide)) (c' := 1) (s' := 0) (sg' := true) fun v j ms _ g2 _ g4 => (Mv.want h g2 (by decide) fun _ g3 => Mv.same g3 g4).weak (by omega) (by omega)).weak ?_ ?_
      all_goals simp [consN, slack]
    | listed thing closing =>
      simp only [P, shT, nx_sh, tx_sh, n_sh, kd_sh]
      have hc : closing ≠ [] := hp
      refine Mv.ite (fun e => ?_) (fun e => ?_)
      ·
        refine Mv.shift (q := 1) (Mv.same (h.more hi (by rw [e]; exact hc)) (fun e => by cases e)) ?_ ?_
        all_goals simp [consN, slack]
      · cases thing
        · refine (Mv.bind (go .name i ns hi trivial (Nat.le_refl _) (.inr (by simp [rank])) (by decide)) (c' := 1) (s' := 0) (sg' := false) fun v j ms g1 g2 _ g4 => go (.listedL false closing [hd v]) j ms g2 hc (by omega) (.inl (by simp [consN] at g1; omega)) (by simp [rank])).weak ?_ ?_
          all_goals simp [consN, slack]
        · refine (Mv.bind (go .expr i ns hi trivial (Nat.le_refl _) (.inr (by simp [rank])) (by decide)) (c' := 1) (s' := 0) (sg' := false) fun v j ms g1 g2 _ g4 => go (.listedL true closing [hd v]) j ms g2 hc (by omega) (.inl (by simp [consN] at g1; omega)) (by simp [rank])).weak ?_ ?_
          all_goals simp [consN, slack]
    | listedL thing closing acc =>
      simp only [P, shT, nx_sh, tx_sh, n_sh, kd_sh]
      have hc : closing ≠ [] := hp
      refine Mv.ite (fun e => ?_) (fun e => ?_)
      ·
        have h1 := h.more hi (by rw [e]; decide)
        cases thing
        · refine Mv.shift (q := 1) (Mv.bind (go .name (i + 1) ns h1 trivial (by omega) (.inl (by omega)) (by decide)) (c' := 1) (s' := 0) (sg' := false) fun v j ms g1 g2 _ g4 => go (.listedL false closing (acc ++ [hd v])) j ms g2 hc (by omega) (.inl (by omega)) (by simp [rank])) ?_ ?_
          all_goals simp [consN, slack]
        · refine Mv.shift (q := 1) (Mv.bind (go .expr (i + 1) ns h1 trivial (by omega) (.inl (by omega)) (by decide)) (c' := 1) (s' := 0) (sg' := false) fun v j ms g1 g2 _ g4 => go (.listedL true closing (acc ++ [hd v])) j ms g2 hc (by omega) (.inl (by omega)) (by simp [rank])) ?_ ?_
          all_goals simp [consN, slack]
      · refine (Mv.want h hi hc fun _ g3 => Mv.same g3 (fun e => by cases e)).weak ?_ ?_
        all_goals simp [consN, slack]
end Go.Proofs.YtekjfddcbcijdaaGreatDoor
