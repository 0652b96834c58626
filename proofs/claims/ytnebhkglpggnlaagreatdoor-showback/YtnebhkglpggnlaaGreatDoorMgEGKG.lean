/-
  Texts of the proof, in their order: TreeR; conditions: as each says.
-/
import Derived.Laws.OwnMore
import Derived.Test.YtnebhkglpggnlaaGreatDoorMgGKJB
namespace Go.Proofs.YtnebhkglpggnlaaGreatDoor.T5
open Go.RowKit
set_option maxRecDepth 100000
set_option linter.unusedVariables false
set_option linter.unusedSimpArgs false

/-- Nodes as cells. -/
def cellsN (x : Nd) : List Value := [.int .i64 x.kind, .string x.text, .slice x.a x.ks.length x.c, .int .i64 x.pl]
def flatN : List Nd → List Value
  | [] => []
  | x :: L => cellsN x ++ flatN L
theorem flatN_length : ∀ L : List Nd, (flatN L).length = L.length * 4
  | [] => rfl
  | x :: L => by simp [flatN, flatN_length L, cellsN]; omega
theorem flatN_at : ∀ (L : List Nd) (i j : Nat) (x : Nd), L[i]? = some x → j < 4 → (flatN L)[i * 4 + j]? = (cellsN x)[j]?
  | [], i, j, x, h, hj => by simp at h
  | y :: L, 0, j, x, h, hj => by
    simp at h; subst h
    rw [flatN, List.getElem?_append_left (by simp [cellsN]; omega)]
    simp
  | y :: L, i + 1, j, x, h, hj => by
    rw [flatN, List.getElem?_append_right (by simp [cellsN]; omega)]
    rw [show (i + 1) * 4 + j - (cellsN y).length = i * 4 + j by simp [cellsN]; omega]
    exact flatN_at L i j x (by simpa using h) hj
theorem flatN_set (j : Nat) (hj : j < 4) (u : Value) : ∀ (L : List Nd) (i : Nat) (x y : Nd), L[i]? = some x → (cellsN x).set j u = cellsN y → (flatN L).set (i * 4 + j) u = flatN (L.set i y)
  | [], i, x, y, h, e => by simp at h
  | z :: L, 0, x, y, h, e => by
    simp at h; subst h
    rw [flatN, List.set_append_left _ _ (by simp [cellsN]; omega)]
    simp [flatN, e]
  | z :: L, i + 1, x, y, h, e => by
    rw [flatN, List.set_append_right _ _ (by simp [cellsN]; omega)]
    rw [show (i + 1) * 4 + j - (cellsN z).length = i * 4 + j by simp [cellsN]; omega]
    rw [flatN_set j hj u L i x y (by simpa using h) e]
    rfl
theorem flatN_one : ∀ (L : List Nd), ∀ u ∈ flatN L, u.oneCell' = true
  | [], u, h => by simp [flatN] at h
  | x :: L, u, h => by
    simp only [flatN, List.mem_append] at h
    rcases h with h | h
    · simp only [cellsN, List.mem_cons, List.not_mem_nil, or_false] at h
      rcases h with rfl | rfl | rfl | rfl <;> rfl
    · exact flatN_one L u h
theorem flatN_lies {B : Nat} {w : World} {L : List Nd} {ad : Addr} (h : NAt B w (some ad) L) : ∀ j u, (flatN L)[j]? = some u → w.cell? (ad.add j) = some u := by
  intro j u hj
  have hlt : j < L.length * 4 := by have := (List.getElem?_eq_some_iff.1 hj).1; rw [flatN_length] at this; exact this
  have hi : j / 4 < L.length := by omega
  have hx : L[j / 4]? = some L[j / 4] := List.getElem?_eq_getElem hi
  generalize L[j / 4] = x at hx
  obtain ⟨b, o, e, hb, hN⟩ := h _ x hx
  injection e with e
  subst e
  have hm := flatN_at L (j / 4) (j % 4) x hx (by omega)
  rw [show j / 4 * 4 + j % 4 = j by omega, hj] at hm
  rw [Addr.add_lit]
  have hr : j % 4 = 0 ∨ j % 4 = 1 ∨ j % 4 = 2 ∨ j % 4 = 3 := by omega
  rcases hr with hr | hr | hr | hr
  · rw [hr] at hm
    have e2 : o + j = o + j / 4 * 4 := by omega
    rw [e2, hN.c0]; exact hm.symm
  · rw [hr] at hm
    have e2 : o + j = o + j / 4 * 4 + 1 := by omega
    rw [e2, hN.c1]; exact hm.symm
  · rw [hr] at hm
    have e2 : o + j = o + j / 4 * 4 + 2 := by omega
    rw [e2, hN.c2]; exact hm.symm
  · rw [hr] at hm
    have e2 : o + j = o + j / 4 * 4 + 3 := by omega
    rw [e2, hN.c3]; exact hm.symm

theorem info39 : (Tryz.prog.info? 36).map (fun i => (i.zero, i.size, i.bytes)) = some (some (.agg #[.int .i64 0, .string ⟨#[]⟩, .slice none 0 0, .int .i64 0]), 4, 56) := by kernel_rfl

theorem grown_none {w w' : World} (h : w.grownBy w' none) : Fr [] w w' := Fr.grown (Fr.refl _ _) h (fun k e => by cases e)

/-- Nodes behind nothing. -/
theorem app_nodes {B : Nat} (w : World) (L : List Nd) (a : Option Addr) (len cap : Nat) (hlen : L.length = len) (hL : NAt B w a L) (hcap : a = none → cap = 0) (hm : len * 56 ≤ 140737488355328) :
    ∃ v' w', (Builtin.append_ #[22, 22] 22 #[.slice none 0 0, .slice a len cap]).run Tryz.prog w = .ok v' w' ∧ w'.ownsRow w.heap.size 36 4 v' len (flatN L) ∧ Fr [] w w' := by
  obtain ⟨i, hi, hz, hs, hb⟩ := info_parts info39
  cases a with
  | none =>
    have : L = [] := by
      cases L with
      | nil => rfl
      | cons x r => obtain ⟨b, o, e, _⟩ := hL 0 x rfl; cases e
    subst this
    simp at hlen
    subst hlen
    have := run_append_owned_none (P := Tryz.prog) w w.heap.size 22 22 36 i 4 Tryz.underlying22 hi (.slice none 0 0) 0 [] (World.ownsRow_nil _ _ _ _)
    have hc := hcap rfl
    subst hc
    exact ⟨_, _, this, World.ownsRow_nil _ _ _ _, Fr.refl _ _⟩
  | some ad =>
    obtain ⟨v', w', h1, h2, h3, _⟩ := run_append_own (P := Tryz.prog) w w.heap.size 22 22 36 i _ 4 56 Tryz.underlying22 hi hz hs hb rfl (by decide) (.slice none 0 0) 0 [] (World.ownsRow_nil _ _ _ _) ad len cap (flatN L) (by rw [flatN_length, hlen]) (flatN_lies hL) (flatN_one L) (by unfold maxLen; omega) (by omega) (Nat.le_refl _)
    refine ⟨v', w', h1, by simpa using h2, grown_none h3⟩
/-- Kids behind nothing. -/
theorem app_ints {B : Nat} (w : World) (ks : List Int) (a : Option Addr) (m c : Nat) (hl : ks.length = m) (hK : KAt B w a ks) (hcap : a = none → c = 0) (hm : m * 8 ≤ 140737488355328) :
    ∃ v' w', (Builtin.append_ #[34, 34] 34 #[.slice none 0 0, .slice a m c]).run Tryz.prog w = .ok v' w' ∧ OR w' w.heap.size v' ks ∧ Fr [] w w' := by
  obtain ⟨i, hi, hz, hs, hb⟩ := info_parts info3
  cases a with
  | none =>
    have : ks = [] := by
      cases ks with
      | nil => rfl
      | cons x r => obtain ⟨b, o, e, _⟩ := hK 0 x rfl; cases e
    subst this
    simp at hl
    subst hl
    have := run_append_owned_none (P := Tryz.prog) w w.heap.size 34 34 3 i 1 Tryz.underlying34 hi (.slice none 0 0) 0 [] (World.ownsRow_nil _ _ _ _)
    have hc := hcap rfl
    subst hc
    exact ⟨_, _, this, OR.nil _ _, Fr.refl _ _⟩
  | some ad =>
    obtain ⟨v', w', h1, h2, h3, _⟩ := run_append_own (P := Tryz.prog) w w.heap.size 34 34 3 i _ 1 8 Tryz.underlying34 hi hz hs hb rfl (by decide) (.slice none 0 0) 0 [] (World.ownsRow_nil _ _ _ _) ad m c (ks.map (Value.int .i64)) (by simp [hl]) (fun j u hj => by
      simp only [List.getElem?_map, Option.map_eq_some_iff] at hj
      obtain ⟨k, hk, rfl⟩ := hj
      obtain ⟨b, o, e, _, hc⟩ := hK j k hk
      injection e with e
      subst e
      rw [Addr.add_lit]; exact hc) (fun u hu => by
      simp only [List.mem_map] at hu
      obtain ⟨k, _, rfl⟩ := hu
      rfl) (by unfold maxLen; omega) (by omega) (Nat.le_refl _)
    refine ⟨v', w', h1, ?_, grown_none h3⟩
    unfold OR
    rw [hl]
    simpa using h2

/-- Kids in a row that isn't g's. -/
def KN (g : Nat) (w : World) (a : Option Addr) (ks : List Int) : Prop := ∀ (j : Nat) (k : Int), ks[j]? = some k → ∃ b o, a = some ⟨b, o, none⟩ ∧ b ≠ g ∧ b < w.heap.size ∧ w.cell? ⟨b, o + j, none⟩ = some (.int .i64 k)
theorem KN.fr {g : Nat} {w w' : World} {a : Option Addr} {ks : List Int} {S : List Nat} (h : KN g w a ks) (f : Fr S w w') (hS : ∀ k, k ∈ S → k = g) : KN g w' a ks := fun j k hk => by
  obtain ⟨b, o, e, hb, hl, hc⟩ := h j k hk
  exact ⟨b, o, e, hb, Nat.lt_of_lt_of_le hl f.size, f.cell1 hc (fun hm => hb (hS _ hm))⟩
theorem KN.kat {g : Nat} {w : World} {a : Option Addr} {ks : List Int} (h : KN g w a ks) : KAt w.heap.size w a ks := fun j k hk => by
  obtain ⟨b, o, e, hb, hl, hc⟩ := h j k hk
  exact ⟨b, o, e, hl, hc⟩

/-- A list in new memory. -/
structure TW (w : World) (base g len c : Nat) (L M : List Nd) : Prop where
  own : w.ownsRow base 36 4 (.slice (some ⟨g, 0, none⟩) len c) len (flatN M)
  len : M.length = len
  eq : ∀ (i : Nat) (x y : Nd), L[i]? = some x → M[i]? = some y → y.kind = x.kind ∧ y.text = x.text ∧ y.ks = x.ks
  ok : ∀ (i : Nat) (y : Nd), M[i]? = some y → KN g w y.a y.ks ∧ y.text.size ≤ maxLen ∧ y.ks.length ≤ maxLen ∧ y.ks.length ≤ y.c ∧ (y.a = none → y.c = 0)

theorem TW.cell {w : World} {base g len c : Nat} {L M : List Nd} (h : TW w base g len c L M) {i j : Nat} {y : Nd} (hy : M[i]? = some y) (hj : j < 4) : w.cell? ⟨g, i * 4 + j, none⟩ = (cellsN y)[j]? := by
  have hi := (List.getElem?_eq_some_iff.1 hy).1
  rw [h.own.cellAt (i * 4 + j) (by have := h.len; omega)]
  exact flatN_at M i j y hy hj
theorem TW.nat {w : World} {base g len c : Nat} {L M : List Nd} (h : TW w base g len c L M) : NAt w.heap.size w (some ⟨g, 0, none⟩) M := fun i y hy => by
  obtain ⟨k, t, l, cc, n⟩ := h.ok i y hy
  have c0 := h.cell hy (show 0 < 4 by omega)
  have c1 := h.cell hy (show 1 < 4 by omega)
  have c2 := h.cell hy (show 2 < 4 by omega)
  have c3 := h.cell hy (show 3 < 4 by omega)
  refine ⟨g, 0, rfl, World.block_lt_of_cell? w _ c0, ?_⟩
  rw [Nat.zero_add]
  exact ⟨c0, c1, c2, c3, k.kat, t, l, cc, n⟩
theorem TW.fr {w w' : World} {base g len c : Nat} {L M : List Nd} (h : TW w base g len c L M) (f : Fr [] w w') : TW w' base g len c L M := by
  refine ⟨?_, h.len, h.eq, fun i y hy => ?_⟩
  · obtain ⟨h1, h2⟩ := h.own
    refine ⟨h1, ?_⟩
    rcases h2 with h2 | ⟨g', cap, cur, e, hb, hg, r⟩
    · exact .inl h2
    · exact .inr ⟨g', cap, cur, e, hb, (f.block g' (Array.getElem?_eq_some_iff.1 hg).1 (by simp)).trans hg, r⟩
  · obtain ⟨k, r⟩ := h.ok i y hy
    exact ⟨k.fr f (by simp), r⟩
theorem TW.put {w : World} {base g len c : Nat} {L M : List Nd} (h : TW w base g len c L M) {i j : Nat} {y y' : Nd} (hy : M[i]? = some y) (hj : j < 4) (u : Value) (e : (cellsN y).set j u = cellsN y') (e1 : y'.kind = y.kind ∧ y'.text = y.text ∧ y'.ks = y.ks) (ok : KN g w y'.a y'.ks ∧ y'.text.size ≤ maxLen ∧ y'.ks.length ≤ maxLen ∧ y'.ks.length ≤ y'.c ∧ (y'.a = none → y'.c = 0)) : TW (w.setCell ⟨g, i * 4 + j, none⟩ u) base g len c L (M.set i y') := by
  have f : Fr [g] w (w.setCell ⟨g, i * 4 + j, none⟩ u) := (Fr.refl _ _).setCell (p := ⟨g, i * 4 + j, none⟩) (.inl (by simp)) _
  have hi := (List.getElem?_eq_some_iff.1 hy).1
  refine ⟨?_, by rw [List.length_set]; exact h.len, fun k x z hx hz => ?_, fun k z hz => ?_⟩
  · have := h.own.stored (i * 4 + j) u
    rw [flatN_set j hj u M i y y' hy e] at this
    exact this.1
  · by_cases ek : k = i
    · subst ek
      rw [List.getElem?_set_self hi] at hz
      injection hz with hz
      subst hz
      obtain ⟨a1, a2, a3⟩ := h.eq k x y hx hy
      exact ⟨e1.1.trans a1, e1.2.1.trans a2, e1.2.2.trans a3⟩
    · rw [List.getElem?_set_ne (fun e => ek e.symm)] at hz
      exact h.eq k x z hx hz
  · by_cases ek : k = i
    · subst ek
      rw [List.getElem?_set_self hi] at hz
      injection hz with hz
      subst hz
      exact ⟨ok.1.fr f (by simp), ok.2⟩
    · rw [List.getElem?_set_ne (fun e => ek e.symm)] at hz
      obtain ⟨k1, r⟩ := h.ok k z hz
      exact ⟨k1.fr f (by simp), r⟩

theorem wpList_append_run {P : Program} (w : World) {ops : Array Oper} {rest : List Oper} {o : Oper} {a : Act} {Q : Exit → Act → World → Prop} (hgd : o.guard = none) (s x : Operand) (t : TypeId)
    (ho : o.op = .call { callee := .builtin .append, args := #[s, x], argTypes := #[t, t] }) (v1 v2 : Value) (hs : a.eval s = v1) (hx : a.eval x = v2) {v' : Value} {w' : World}
    (hr : (Builtin.append_ #[t, t] o.type #[v1, v2]).run P w = .ok v' w') (h : wpList P ops Q rest (a.put o.dst v') w') : wpList P ops Q (o :: rest) a w := by
  refine wpList_plain hgd fun K hK => ?_
  unfold Oper.wp execOp
  simp only [ho, resolve, invoke, builtin, Sem.run_bind, Sem.run_pure, Result.andThen_ok, List.map_toArray, List.map_cons, List.map_nil, hs, hx, hr]
  exact hK _ _ h

set_option maxRecDepth 100000 in
set_option maxHeartbeats 1000000 in
theorem twin_any (B : Nat) (L : List Nd) (w : World) (a : Option Addr) (len cap : Nat) (hlen : L.length = len) (hL : NAt B w a L) (hcap : a = none → cap = 0) (hB : B ≤ w.heap.size) (hm : len * 56 ≤ 140737488355328) (hks : ∀ (i : Nat) (x : Nd), L[i]? = some x → x.ks.length * 8 ≤ 140737488355328) :
    Calls Tryz.prog 24 #[.slice a len cap] w fun e w' => (∃ a' c', e = .returned (.slice a' len c') ∧ (0 < len → ∃ g M, a' = some ⟨g, 0, none⟩ ∧ w.heap.size ≤ g ∧ TW w' w.heap.size g len c' L M)) ∧ Fr [] w w' := by
  obtain ⟨v1, w1, hrun, hown, f1⟩ := app_nodes w L a len cap hlen hL hcap hm
  have HL : Hid (L.length = len) := hlen
  have HM : Hid _ := hm
  clear hm
  by_cases h0 : len = 0
  · subst h0
    have hv : ∃ a' c', v1 = .slice a' 0 c' := by
      rcases hown.2 with ⟨rfl, _⟩ | ⟨g, c, cur, rfl, _⟩
      · exact ⟨_, _, rfl⟩
      · exact ⟨_, _, rfl⟩
    obtain ⟨a', c', rfl⟩ := hv
    clear hown
    have HRUN : Hid _ := hrun
    clear hrun
    go_enter Tryz.func24, Tryz.ntmps24
    go_wp2_with (at_builtin; refine wpList_append_run _ rfl _ _ 22 rfl _ _ rfl rfl HRUN.out ?_)
    go_wp2
    go_loopw [9] (fun i wr => i = .int .i64 0 ∧ wr = w1) (fun i _ => 0)
    case atStart => exact ⟨rfl, rfl⟩
    case round =>
      obtain ⟨rfl, rfl⟩ := hrel
      go_wp2
      go_ret
      exact ⟨⟨_, _, rfl, fun h => by omega⟩, f1⟩
  · rcases hown.2 with ⟨_, hh⟩ | ⟨g, c, cur, rfl, hg, hgc, _⟩
    · exact absurd hh h0
    · have T0 : TW w1 w.heap.size g len c L L := ⟨hown, HL.out, fun i x y hx hy => by rw [hx] at hy; injection hy with hy; subst hy; exact ⟨rfl, rfl, rfl⟩, fun i y hy => by
        obtain ⟨b, o, _, hb, hN⟩ := (hL.fr f1 (by simp)) i y hy
        refine ⟨fun j k hk => ?_, hN.t, hN.kl, hN.kc, hN.kn⟩
        obtain ⟨b2, o2, e2, hb2, hc2⟩ := hN.k j k hk
        exact ⟨b2, o2, e2, by omega, by have := f1.size; omega, hc2⟩⟩
      clear hown hgc
      have hlm : len ≤ 2600000000000 := by have := HM.out; omega
      have HRUN : Hid _ := hrun
      have HKS : Hid _ := hks
      clear hrun hks hL hcap
      go_enter Tryz.func24, Tryz.ntmps24
      go_wp2_with (at_builtin; refine wpList_append_run _ rfl _ _ 22 rfl _ _ rfl rfl HRUN.out ?_)
      go_wp2
      go_loopw [9] (fun i wr => ∃ p : Nat, p ≤ len ∧ i = .int .i64 p ∧ Fr [] w wr ∧ ∃ M, TW wr w.heap.size g len c L M) (fun i _ => len - (intOf i).toNat)
      case atStart => exact ⟨0, Nat.zero_le _, rfl, f1, L, T0⟩
      case round =>
        obtain ⟨p, hp, rfl, fw, M, hT⟩ := hrel
        clear T0
        by_cases hlt : p < len
        · have hy : M[p]? = some (M[p]'(by rw [hT.len]; exact hlt)) := List.getElem?_eq_getElem _
          have hxl : L[p]? = some (L[p]'(by rw [HL.out]; exact hlt)) := List.getElem?_eq_getElem _
          generalize M[p]'(by rw [hT.len]; exact hlt) = y at hy
          generalize L[p]'(by rw [HL.out]; exact hlt) = x at hxl
          have hk8 : y.ks.length * 8 ≤ 140737488355328 := by rw [(hT.eq p x y hxl hy).2.2]; exact HKS.out p x hxl
          obtain ⟨kn, ty, ly, cy, ny⟩ := hT.ok p y hy
          have c2 : wr.cell? ⟨g, p * 4 + 2, none⟩ = some (.slice y.a y.ks.length y.c) := hT.cell hy (show 2 < 4 by omega)
          obtain ⟨v2, w2, hrun2, hOR, f2⟩ := app_ints wr y.ks y.a y.ks.length y.c rfl kn.kat ny hk8
          obtain ⟨a2, cc2, rfl, hcc, hnn⟩ := hOR.slice
          have hgw : g < wr.heap.size := World.block_lt_of_cell? wr _ c2
          have T2 := (hT.fr f2).put (j := 2) (y' := { y with a := a2, c := cc2 }) hy (by omega) (.slice a2 y.ks.length cc2) rfl ⟨rfl, rfl, rfl⟩ ⟨fun j k hk => by
            obtain ⟨b, o, e, hb, hc⟩ := hOR.kat j k hk
            refine ⟨b, o, e, ?_, hb, hc⟩
            intro eb
            obtain ⟨_, h2⟩ := hOR
            rcases h2 with ⟨e2, h02⟩ | ⟨g', cap', cur', e2, hb2, _⟩
            · injection e2 with e3
              rw [e3] at e
              cases e
            · injection e2 with e3
              rw [e3] at e
              injection e with e
              injection e with e
              omega, ty, ly, hcc, hnn⟩
          have c3 : w2.cell? ⟨g, p * 4 + 2, none⟩ = some (.slice y.a y.ks.length y.c) := f2.cell1 c2 (by simp)
          have hfz := (hT.fr f2).own.frozenAt (p * 4 + 2)
          have HRUN2 : Hid _ := hrun2
          have F2 := (fw.trans f2).setCell (p := ⟨g, p * 4 + 2, none⟩) (.inr hg) (.slice a2 y.ks.length cc2)
          clear hrun2 hOR hT kn hxl hy
          go_wp2_with (at_builtin; refine wpList_append_run _ rfl _ _ 34 rfl _ _ rfl rfl HRUN2.out ?_)
          go_wp2
          go_roundw
          case rel => exact ⟨p + 1, hlt, by go_num, F2, _, T2⟩
          case measure => simp [intOf]; omega
        · go_wp2
          go_ret
          exact ⟨⟨_, _, rfl, fun _ => ⟨g, M, rfl, hg, hT⟩⟩, fw⟩
end Go.Proofs.YtnebhkglpggnlaaGreatDoor.T5
