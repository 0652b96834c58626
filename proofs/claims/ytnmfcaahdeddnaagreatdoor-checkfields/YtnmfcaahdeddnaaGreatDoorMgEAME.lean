/-
  Texts of the proof, in their order: CkX; conditions: as each says.
-/
import Derived.Test.YtnmfcaahdeddnaaGreatDoorMgFOEL
import Derived.Test.YtnmfcaahdeddnaaGreatDoorMgNAHF
namespace Go.Proofs.YtnmfcaahdeddnaaGreatDoor.T5
open Go.RowKit Go.Maps
set_option linter.unusedVariables false
set_option linter.unusedSimpArgs false

/-- What every function that is told is like. -/
theorem addVar_mem (v : ByteArray) : ∀ (l : List FnD) (g : FnD), g ∈ addVar v l → ∃ f ∈ l, g.params = f.params ∧ g.node = f.node
  | [], g, h => by simp [addVar] at h
  | [f], g, h => by
    simp [addVar] at h
    subst h
    exact ⟨f, by simp, rfl, rfl⟩
  | f :: f2 :: r, g, h => by
    rw [addVar, List.mem_cons] at h
    rcases h with rfl | h
    · exact ⟨g, by simp, rfl, rfl⟩
    · obtain ⟨x, hx, h1⟩ := addVar_mem v (f2 :: r) g h
      exact ⟨x, by simp [hx], h1⟩
theorem foldD_fns {L : List Nd} (d : List (Nat × Nat)) : ∀ f ∈ (foldD L d).fns, f.params = (kN L f.node).length - 1 ∧ kdN L f.node = 3 := by
  have key : ∀ (r : List (Nat × Nat)), ∀ f ∈ (foldD L r.reverse).fns, f.params = (kN L f.node).length - 1 ∧ kdN L f.node = 3 := by
    intro r
    induction r with
    | nil => intro f hf; simp [foldD] at hf
    | cons t r ih =>
      rw [List.reverse_cons, foldD_snoc]
      generalize foldD L r.reverse = D at *
      unfold stepD
      intro f hf
      split at hf
      · exact ih f hf
      · split at hf
        · rename_i _ h3
          simp only [List.mem_append, List.mem_singleton] at hf
          rcases hf with hf | rfl
          · exact ih f hf
          · exact ⟨rfl, h3⟩
        · split at hf
          · obtain ⟨g, hg, h1, h2⟩ := addVar_mem _ _ f hf
            rw [h1, h2]
            exact ih g hg
          · split at hf
            · exact ih f hf
            · exact ih f hf
  have := key d.reverse
  rwa [List.reverse_reverse] at this

def sliceA : Value → Option Addr
  | .slice a _ _ => a
  | _ => none
def sliceC : Value → Nat
  | .slice _ _ c => c
  | _ => 0
def FnM.c (f : FnM) : FnC := ⟨f.nm, sliceA f.vv, f.vs.length, sliceC f.vv, f.nd⟩
theorem flatFn_at : ∀ {l : List FnM} {i : Nat} {f : FnM}, l[i]? = some f → (flatFn l)[i * 4]? = some (.string f.nm) ∧ (flatFn l)[i * 4 + 1]? = some (.int .i64 (f.pr : Nat)) ∧ (flatFn l)[i * 4 + 2]? = some f.vv ∧ (flatFn l)[i * 4 + 3]? = some (.int .i64 (f.nd : Nat))
  | [], i, f, h => by simp at h
  | g :: r, 0, f, h => by
    simp at h
    subst h
    exact ⟨rfl, rfl, rfl, rfl⟩
  | g :: r, i + 1, f, h => by
    obtain ⟨h1, h2, h3, h4⟩ := flatFn_at (l := r) (i := i) (f := f) (by simpa using h)
    have e : flatFn (g :: r) = fnC g ++ flatFn r := rfl
    have key : ∀ j, (flatFn (g :: r))[(i + 1) * 4 + j]? = (flatFn r)[i * 4 + j]? := fun j => by
      rw [e, List.getElem?_append_right (by simp [fnC]; omega)]
      congr 1
      simp [fnC]
      omega
    exact ⟨by have := key 0; simp only [Nat.add_zero] at this; rw [this]; exact h1, by rw [key 1]; exact h2, by rw [key 2]; exact h3, by rw [key 3]; exact h4⟩
theorem DM.fsAt {X : World} {base : Nat} {d : Ds} {sv fv mv : Value} {SS : List SrM} {FF : List FnM} (h : DM X base d sv fv mv SS FF) {L : List Nd} (hp : ∀ f ∈ d.fns, f.params = (kN L f.node).length - 1 ∧ kdN L f.node = 3) : FsAt L X.heap.size X (sliceA fv) (FF.map FnM.c) := by
  intro i x hx
  rw [List.getElem?_map] at hx
  cases hf : FF[i]? with
  | none => rw [hf] at hx; simp at hx
  | some f =>
    rw [hf] at hx
    simp at hx
    subst hx
    have hlt := (List.getElem?_eq_some_iff.1 hf).1
    obtain ⟨g, c, e, _, _, hb, hc⟩ := own_cell h.fo (by omega)
    have hlt2 := (h.fo.lt g (by rw [e]; rfl)).2
    obtain ⟨q0, q1, q2, q3⟩ := flatFn_at hf
    have hmem : f.d ∈ d.fns := by rw [← h.ef]; exact List.mem_map.2 ⟨f, List.mem_of_getElem? hf, rfl⟩
    have hpr : f.pr = (kN L f.nd).length - 1 := (hp _ hmem).1
    obtain ⟨va, vc, hvv, _⟩ := own_slice (h.ff f (List.mem_of_getElem? hf))
    have hm4 : i * 4 + 4 ≤ FF.length * 4 := by omega
    refine ⟨g, 0, by rw [e]; rfl, hlt2, ⟨?_, ?_, ?_, ?_⟩⟩
    · rw [Nat.zero_add]; exact hc _ _ (by omega) q0
    · rw [Nat.zero_add]
      show X.cell? ⟨g, i * 4 + 1, none⟩ = some (.int .i64 (((kN L f.nd).length - 1 : Nat) : Int))
      rw [← hpr]; exact hc _ _ (by omega) q1
    · rw [Nat.zero_add]
      have : Value.slice (FnM.c f).va (FnM.c f).vn (FnM.c f).vc = f.vv := by rw [hvv]; simp [FnM.c, hvv, sliceA, sliceC]
      rw [this]; exact hc _ _ (by omega) q2
    · rw [Nat.zero_add]; exact hc _ _ (by omega) q3
theorem funs_same {L : List Nd} {E : Env} : ∀ {FF : List FnM}, (∀ f ∈ FF.map FnM.d, f.params = (kN L f.node).length - 1 ∧ kdN L f.node = 3) → funsP L E (FF.map FnM.c) = funsE L E (FF.map FnM.d)
  | [], _ => rfl
  | f :: r, h => by
    have h1 := (h (FnM.d f) (by simp)).1
    have ih := funs_same (L := L) (E := E) (FF := r) (fun g hg => h g (by simp only [List.map_cons, List.mem_cons]; exact .inr hg))
    rw [List.map_cons, List.map_cons, funsP, funsE, ih]
    have : fnE L E (FnM.c f).vn (FnM.c f).nd = funE L E (FnM.d f) := by
      unfold fnE funE
      rw [h1]
      rfl
    rw [this]
    rfl
theorem judge_same {L : List Nd} {d : Ds} {SS : List SrM} {FF : List FnM} (es : SS.map SrM.d = d.sorts) (ef : FF.map FnM.d = d.fns) (hp : ∀ f ∈ d.fns, f.params = (kN L f.node).length - 1 ∧ kdN L f.node = 3) : judgeP L SS.length (FF.map FnM.c) = judgeE L d := by
  unfold judgeP judgeE decP mainP
  have e1 : (FF.map FnM.c).map FnC.nd = d.fns.map FnD.node := by rw [← ef, List.map_map, List.map_map]; rfl
  have e2 : SS.length = d.sorts.length := by rw [← es, List.length_map]
  have e3 : (FF.map FnM.c).length = d.fns.length := by rw [← ef, List.length_map, List.length_map]
  have e4 : ∀ E, funsP L E (FF.map FnM.c) = funsE L E d.fns := fun E => by rw [← ef]; exact funs_same (by rw [ef]; exact hp)
  rw [e1, e2, e3]
  split
  · rfl
  · cases recsE L (kN L (L.length - 1)) NM.nil NM.nil with
    | error e => rfl
    | ok m =>
      obtain ⟨rc, fl⟩ := m
      simp only
      cases decsE L (d.fns.map FnD.node) NM.nil with
      | error e => rfl
      | ok fn =>
        simp only
        cases fn mainB with
        | none => rfl
        | some k => simp only; rw [e4]

set_option maxRecDepth 100000 in
theorem place_any {B : Nat} {L : List Nd} {w : World} {a : Option Addr} {len : Nat} (cap : Nat) (hlen : L.length = len) (hL : NAt B w a L) (hlm : len ≤ 2600000000000) (n e : Nat) (hn : n ≤ 2600000000000) :
    Calls Tryz.prog 37 #[.slice a len cap, .int .i64 n, .int .i64 e] w fun ex w' => ex = .returned (.int .i64 (if e = 2 ∨ e = 51 ∨ L.length ≤ n then 0 else max (plN L n) 0)) ∧ w' = w := by
  have hlI : (len : Int) ≤ 2600000000000 := by omega
  have hnI : (n : Int) ≤ 2600000000000 := by omega
  by_cases h : e = 2 ∨ e = 51 ∨ L.length ≤ n
  · rw [if_pos h]
    by_cases h2 : e = 2
    · have j2 : ((e : Int) == 2) = true := by simp; omega
      go_enter Tryz.func37, Tryz.ntmps37
      go_wp2
      go_ret
      exact ⟨rfl, rfl⟩
    · have j2 : ((e : Int) == 2) = false := by simp; omega
      by_cases h3 : e = 51
      · have j3 : ((e : Int) == 51) = true := by simp; omega
        go_enter Tryz.func37, Tryz.ntmps37
        go_wp2
        go_ret
        exact ⟨rfl, rfl⟩
      · have j3 : ((e : Int) == 51) = false := by simp; omega
        have j4 : (len : Int) ≤ n := by omega
        go_enter Tryz.func37, Tryz.ntmps37
        go_wp2
        go_ret
        exact ⟨rfl, rfl⟩
  · rw [if_neg h]
    have j2 : ((e : Int) == 2) = false := by simp; omega
    have j3 : ((e : Int) == 51) = false := by simp; omega
    have j4 : ¬ (len : Int) ≤ n := by omega
    have hx : L[n]? = some (L[n]'(by omega)) := List.getElem?_eq_getElem _
    generalize L[n]'(by omega) = x at hx
    obtain ⟨b, o, rfl, hb, hc⟩ := hL n x hx
    have c3 := hc.c3
    have e1 : plN L n = x.pl := by unfold plN; rw [hx]
    rw [e1]
    generalize x.pl = pl at *
    clear hc hL e1 hx h
    go_enter Tryz.func37, Tryz.ntmps37
    go_wp2
    go_ret
    exact ⟨rfl, rfl⟩
def zeroD : Value := .agg #[.slice none 0 0, .slice none 0 0, .int .i64 0, .slice none 0 0]
/-- What Program answers. -/
def POut (L : List Nd) (w w' : World) (e : Ending) : Prop := match progE L with
  | .error (p, c) => e = .returned (.tuple #[.agg #[.slice none 0 0, .slice none 0 0, .int .i64 0, .slice none 0 0], .int .i64 p, .int .i64 (c : Nat)])
  | .ok d => ∃ sv fv mv SS FF, e = .returned (.tuple #[.agg #[sv, fv, .int .i64 (d.main : Nat), mv], .int .i64 0, .int .i64 0]) ∧ DM w' w.heap.size d sv fv mv SS FF
theorem POut.err {L : List Nd} {w w' : World} {p : Int} {c : Nat} (h : progE L = .error (p, c)) : POut L w w' (.returned (.tuple #[.agg #[.slice none 0 0, .slice none 0 0, .int .i64 0, .slice none 0 0], .int .i64 p, .int .i64 (c : Nat)])) := by unfold POut; rw [h]
theorem POut.ok {L : List Nd} {w w' : World} {d : Ds} {e : Ending} (h : progE L = .ok d) (k : ∃ sv fv mv SS FF, e = .returned (.tuple #[.agg #[sv, fv, .int .i64 (d.main : Nat), mv], .int .i64 0, .int .i64 0]) ∧ DM w' w.heap.size d sv fv mv SS FF) : POut L w w' e := by unfold POut; rw [h]; exact k
theorem check_le {L : List Nd} : (checkL L).1 ≤ L.length := by
  unfold checkL
  split
  · simp
  · split
    · rename_i e he
      have : ∀ n e, nodesL L n = .error e → e.1 < n := by
        intro n
        induction n with
        | zero => intro e h; simp [nodesL] at h
        | succ n ih =>
          intro e h
          unfold nodesL at h
          split at h
          · rename_i e0 h0
            cases h
            have := ih _ h0
            omega
          · split at h
            · cases h
            · split at h
              · cases h; simp
              · cases h
      have := this _ _ he
      omega
    · split
      · simp
      · split
        · simp
        · split <;> simp

set_option maxRecDepth 100000 in
set_option maxHeartbeats 4000000 in
theorem prog8_any {L : List Nd} {w : World} {a : Option Addr} {len cap : Nat} (hlen : L.length = len) (hL : NAt w.heap.size w a L) (hm : len ≤ 2600000000000) (TT : Tabs w) :
    Calls Tryz.prog 19 #[.slice a len cap] w fun e w' => POut L w w' e ∧ Fr [] w w' := by
  have HLN := hidC hlen
  have F0 : Fr [] w (w.alloc (.cells #[.slice none 0 0, .slice none 0 0, .int .i64 0, .slice none 0 0] 28)) := (Fr.refl _ _).alloc _
  have r0 := heap_alloc_new w (.cells #[.slice none 0 0, .slice none 0 0, .int .i64 0, .slice none 0 0] 28)
  have C := check_any w.heap.size L _ a len cap hlen (hL.fr F0 (by simp)) hm F0.size (TT.fr F0 (by simp))
  have hle := check_le (L := L)
  unfold cOut at C
  have HL := hidC hL
  have HTT := hidC TT
  have HP : Hid (progE L = if (checkL L).2 ≠ 0 then .error (if (checkL L).2 = 2 ∨ (checkL L).2 = 51 ∨ L.length ≤ (checkL L).1 then 0 else max (plN L (checkL L).1) 0, (checkL L).2) else match judgeE L (descL L) with | .error e => .error e | .ok _ => .ok (descL L)) := rfl
  have HCK : Hid (∀ p, checkL L = (p, 0) → Ahead L ∧ 0 < L.length ∧ L.length ≤ 50000 ∧ Shp L ∧ (∀ n, (kN L n).length ≤ 50000)) := fun p h => by
    obtain ⟨hA, hp, h5, _, _⟩ := tree_once h
    obtain ⟨T, hn, _⟩ := check_zero h
    refine ⟨hA, hp, h5, shp_of hn, fun n => ?_⟩
    cases hx : L[n]? with
    | none => unfold kN; rw [hx]; simp
    | some x =>
      rw [kN_some hx, List.length_map]
      have := kids_few hn hx
      have := (List.getElem?_eq_some_iff.1 hx).1
      omega
  generalize hck : checkL L = ck at *
  obtain ⟨p, er⟩ := ck
  simp only at *
  have HCP := hidC hck
  clear hL TT hck hlen
  go_enter Tryz.func19, Tryz.ntmps19
  go_wp2_with fail
  refine C.mono ?_
  rintro e w1 ⟨rfl, f1⟩
  have r1 := (f1.block _ (Array.getElem?_eq_some_iff.1 r0).1 (by simp)).trans r0
  have F1 := F0.trans f1
  clear C f1 r0 F0
  by_cases h0 : er = 0
  · subst h0
    rw [if_neg (by simp)] at HP
    obtain ⟨hA, hp0, h5, hS, hkf⟩ := HCK.out p rfl
    have C38 := described_any L w1 a len cap HLN.out ((HL.out.fr F1 (by simp)).mono F1.size) (HTT.out.fr F1 (by simp)) HCP.out hS hkf
    have hfns : ∀ f ∈ (descL L).fns, f.params = (kN L f.node).length - 1 ∧ kdN L f.node = 3 := foldD_fns (treeW L)
    have hbd : DB L (descL L) 50000 := by
      have h1 := foldD_bound hkf (treeW L)
      have h2 : (treeW L).length ≤ 50000 := by unfold treeW; rw [HCP.out]; have := (tree_once HCP.out).2.2.2.2; simp only [if_true]; omega
      have e : descL L = foldD L (treeW L) := rfl
      rw [e]
      exact ⟨by have := h1.s; omega, by have := h1.f; omega, by have := h1.m; omega, fun f hf => by have := h1.v f hf; omega, by have := h1.mn; omega⟩
    have HJO := hidC (judgeE_ok L (descL L))
    generalize descL L = DL at *
    go_wp2_with fail
    refine C38.mono ?_
    rintro e w2 ⟨sv, fv, mv, SS, FF, rfl, hDM, f2⟩
    have F2 := F1.trans f2
    have r2 := (f2.block _ (Array.getElem?_eq_some_iff.1 r1).1 (by simp)).trans r1
    obtain ⟨sa, sc, rfl, _⟩ := own_slice hDM.so
    obtain ⟨fa, fc, rfl, _⟩ := own_slice hDM.fo
    obtain ⟨ma, mc, rfl, _⟩ := own_slice hDM.mo
    have F3 : Fr [] w2 (w2.alloc (.cells #[.slice sa SS.length sc, .slice fa FF.length fc, .int .i64 (DL.main : Nat), .slice ma DL.merges.length mc] 28)) := (Fr.refl _ _).alloc _
    have b3 := heap_alloc_new w2 (.cells #[.slice sa SS.length sc, .slice fa FF.length fc, .int .i64 (DL.main : Nat), .slice ma DL.merges.length mc] 28)
    have r3 := keep_alloc (u := .cells #[.slice sa SS.length sc, .slice fa FF.length fc, .int .i64 (DL.main : Nat), .slice ma DL.merges.length mc] 28) r2
    have M3 := hDM.fr F3 (by simp)
    have hJS := judge_same (L := L) M3.es M3.ef hfns
    have hss : SS.length ≤ 50000 := by have h1 := hbd.s; rw [← M3.es, List.length_map] at h1; exact h1
    have hff : FF.length ≤ 50000 := by have h1 := hbd.f; rw [← M3.ef, List.length_map] at h1; exact h1
    have C39 := judged_any (cap := cap) hA hS.shOk ((HL.out.fr (F2.trans F3) (by simp)).mono (F2.trans F3).size) HLN.out (by have := HLN.out; omega) (fun n x hx => by have := hkf n; rw [kN_some hx, List.length_map] at this; exact this) (by have := HLN.out; omega) (F := FF.map FnM.c) (sa := sa) (sc := sc) hss (fa := fa) (fn := FF.length) (fc := fc) (by simp) hff (M3.fsAt hfns) (fun x hx => by
      obtain ⟨f, hf, rfl⟩ := List.mem_map.1 hx
      have hmem : f.d ∈ DL.fns := by rw [← M3.ef]; exact List.mem_map.2 ⟨f, hf, rfl⟩
      have h1 := hS.fnPos (hfns _ hmem).2
      have h2 := hbd.v _ hmem
      refine ⟨h1.1, h1.2, ?_⟩
      show f.vs.length ≤ 1000000
      simp [FnM.d] at h2
      omega) (DL.main : Nat) (.slice ma DL.merges.length mc) rfl
    rw [hJS] at C39
    have F4 := F2.trans F3
    have HM3 := hidC M3
    have HF2s : Hid (w.heap.size ≤ w1.heap.size) := F1.size
    clear hDM f2 F1 F2 F3 r1 r2 hJS hfns hbd hss hff hS hkf hA M3 C38
    have g0 := at_cells b3 0 rfl
    have g1 := at_cells b3 1 rfl
    have g2 := at_cells b3 2 rfl
    have g3 := at_cells b3 3 rfl
    go_wp2_with fail
    refine C39.mono ?_
    rintro e w4 ⟨rfl, f4⟩
    have r4 := (f4.block _ (Array.getElem?_eq_some_iff.1 r3).1 (by simp)).trans r3
    have b4 := (f4.block _ (Array.getElem?_eq_some_iff.1 b3).1 (by simp)).trans b3
    have F5 := F4.trans f4
    have M4 := hidC (HM3.out.fr f4 (by simp))
    have c0 := at_cells r4 0 rfl
    have c1 := at_cells r4 1 rfl
    have c2 := at_cells r4 2 rfl
    have c3 := at_cells r4 3 rfl
    have z1 : ∀ i, w4.frozen? ⟨w.heap.size, i, none⟩ = false := fun i => by simp [World.frozen?, r4]
    have b40 := at_cells b4 0 rfl
    have b41 := at_cells b4 1 rfl
    have b42 := at_cells b4 2 rfl
    have b43 := at_cells b4 3 rfl
    clear C39 f4 F4 HM3 g0 g1 g2 g3 r3 b3 b4
    have HFIN : Hid (∀ x0 x1 x2 x3, Fr [] w ((((w4.setCell ⟨w.heap.size, 0, none⟩ x0).setCell ⟨w.heap.size, 1, none⟩ x1).setCell ⟨w.heap.size, 2, none⟩ x2).setCell ⟨w.heap.size, 3, none⟩ x3) ∧ Fr [w.heap.size] w4 ((((w4.setCell ⟨w.heap.size, 0, none⟩ x0).setCell ⟨w.heap.size, 1, none⟩ x1).setCell ⟨w.heap.size, 2, none⟩ x2).setCell ⟨w.heap.size, 3, none⟩ x3) ∧ ((((w4.setCell ⟨w.heap.size, 0, none⟩ x0).setCell ⟨w.heap.size, 1, none⟩ x1).setCell ⟨w.heap.size, 2, none⟩ x2).setCell ⟨w.heap.size, 3, none⟩ x3).heap[w.heap.size]? = some (.cells #[x0, x1, x2, x3] 28 (0, 0))) := fun x0 x1 x2 x3 => by
      have f9 : Fr [w.heap.size] w4 ((((w4.setCell ⟨w.heap.size, 0, none⟩ x0).setCell ⟨w.heap.size, 1, none⟩ x1).setCell ⟨w.heap.size, 2, none⟩ x2).setCell ⟨w.heap.size, 3, none⟩ x3) := ((((Fr.refl _ _).setCell (.inl (by simp)) _).setCell (.inl (by simp)) _).setCell (.inl (by simp)) _).setCell (.inl (by simp)) _
      exact ⟨F5.over f9 (by simp), f9, set4_3 (set4_2 (set4_1 (set4_0 r4)))⟩
    have HMB : Hid (∀ W, Fr [w.heap.size] w4 W → DM W w.heap.size DL (.slice sa SS.length sc) (.slice fa FF.length fc) (.slice ma DL.merges.length mc) SS FF) := fun W f => by
      have y8 := M4.out.fr f (fun k hk => by simp at hk; subst hk; exact M4.out.off r4 (by intro c t z e; cases e; decide))
      exact ⟨own_base HF2s.out y8.so, own_base HF2s.out y8.fo, own_base HF2s.out y8.mo, fun s hs => own_base HF2s.out (y8.ss s hs), fun g hg => own_base HF2s.out (y8.ff g hg), y8.es, y8.ef, y8.ap⟩
    have HR4 := hidC r4
    cases hj : judgeE L DL with
    | error pe =>
      obtain ⟨pp, ee⟩ := pe
      have hee := HJO.out pp ee hj
      have h0' : ((ee : Int) != 0) = true := by simp; omega
      rw [hj] at HP
      simp only [jEnd]
      clear hj
      go_wp2
      obtain ⟨t1, t2, t3⟩ := HFIN.out (.slice none 0 0) (.slice none 0 0) (.int .i64 0) (.slice none 0 0)
      generalize (((w4.setCell ⟨w.heap.size, 0, none⟩ (.slice none 0 0)).setCell ⟨w.heap.size, 1, none⟩ (.slice none 0 0)).setCell ⟨w.heap.size, 2, none⟩ (.int .i64 0)).setCell ⟨w.heap.size, 3, none⟩ (.slice none 0 0) = W9 at *
      have k0 := at_cells t3 0 rfl
      have k1 := at_cells t3 1 rfl
      have k2 := at_cells t3 2 rfl
      have k3 := at_cells t3 3 rfl
      refine bodyPost_ret (v := .tuple #[.agg #[.slice none 0 0, .slice none 0 0, .int .i64 0, .slice none 0 0], .int .i64 pp, .int .i64 ee]) (by simp [results, Tryz.results19, go_sem, k0, k1, k2, k3]) rfl ⟨POut.err HP.out, t1⟩
    | ok u =>
      rw [hj] at HP
      simp only [jEnd]
      clear hj
      go_wp2
      obtain ⟨t1, t2, t3⟩ := HFIN.out (.slice sa SS.length sc) (.slice fa FF.length fc) (.int .i64 (DL.main : Nat)) (.slice ma DL.merges.length mc)
      generalize (((w4.setCell ⟨w.heap.size, 0, none⟩ (.slice sa SS.length sc)).setCell ⟨w.heap.size, 1, none⟩ (.slice fa FF.length fc)).setCell ⟨w.heap.size, 2, none⟩ (.int .i64 (DL.main : Nat))).setCell ⟨w.heap.size, 3, none⟩ (.slice ma DL.merges.length mc) = W9 at *
      have k0 := at_cells t3 0 rfl
      have k1 := at_cells t3 1 rfl
      have k2 := at_cells t3 2 rfl
      have k3 := at_cells t3 3 rfl
      refine bodyPost_ret (v := .tuple #[.agg #[.slice sa SS.length sc, .slice fa FF.length fc, .int .i64 (DL.main : Nat), .slice ma DL.merges.length mc], .int .i64 0, .int .i64 0]) (by simp [results, Tryz.results19, go_sem, k0, k1, k2, k3]) rfl ⟨POut.ok HP.out ⟨_, _, _, SS, FF, rfl, HMB.out _ t2⟩, t1⟩
  · have h0' : ((er : Int) != 0) = true := by simp; omega
    rw [if_pos h0] at HP
    have C37 := place_any cap HLN.out (HL.out.fr F1 (by simp)) hm p er (by have := HLN.out; omega)
    generalize (if er = 2 ∨ er = 51 ∨ L.length ≤ p then (0 : Int) else max (plN L p) 0) = pl at *
    have z1 : ∀ i, w1.frozen? ⟨w.heap.size, i, none⟩ = false := fun i => by simp [World.frozen?, r1]
    have c0 := at_cells r1 0 rfl
    have c1 := at_cells r1 1 rfl
    have c2 := at_cells r1 2 rfl
    have c3 := at_cells r1 3 rfl
    have HFIN : Hid (∀ x0 x1 x2 x3, Fr [] w ((((w1.setCell ⟨w.heap.size, 0, none⟩ x0).setCell ⟨w.heap.size, 1, none⟩ x1).setCell ⟨w.heap.size, 2, none⟩ x2).setCell ⟨w.heap.size, 3, none⟩ x3) ∧ True ∧ ((((w1.setCell ⟨w.heap.size, 0, none⟩ x0).setCell ⟨w.heap.size, 1, none⟩ x1).setCell ⟨w.heap.size, 2, none⟩ x2).setCell ⟨w.heap.size, 3, none⟩ x3).heap[w.heap.size]? = some (.cells #[x0, x1, x2, x3] 28 (0, 0))) := fun x0 x1 x2 x3 => by
      have f9 : Fr [w.heap.size] w1 ((((w1.setCell ⟨w.heap.size, 0, none⟩ x0).setCell ⟨w.heap.size, 1, none⟩ x1).setCell ⟨w.heap.size, 2, none⟩ x2).setCell ⟨w.heap.size, 3, none⟩ x3) := ((((Fr.refl _ _).setCell (.inl (by simp)) _).setCell (.inl (by simp)) _).setCell (.inl (by simp)) _).setCell (.inl (by simp)) _
      exact ⟨F1.over f9 (by simp), trivial, set4_3 (set4_2 (set4_1 (set4_0 r1)))⟩
    go_wp2_with (go_at_call 37; with_reducible (refine C37.mono ?_); rintro ex wz ⟨rfl, hwz⟩; have hwz' := hwz.symm; subst hwz')
    obtain ⟨t1, t2, t3⟩ := HFIN.out (.slice none 0 0) (.slice none 0 0) (.int .i64 0) (.slice none 0 0)
    generalize (((w1.setCell ⟨w.heap.size, 0, none⟩ (.slice none 0 0)).setCell ⟨w.heap.size, 1, none⟩ (.slice none 0 0)).setCell ⟨w.heap.size, 2, none⟩ (.int .i64 0)).setCell ⟨w.heap.size, 3, none⟩ (.slice none 0 0) = W9 at *
    have k0 := at_cells t3 0 rfl
    have k1 := at_cells t3 1 rfl
    have k2 := at_cells t3 2 rfl
    have k3 := at_cells t3 3 rfl
    refine bodyPost_ret (v := .tuple #[.agg #[.slice none 0 0, .slice none 0 0, .int .i64 0, .slice none 0 0], .int .i64 pl, .int .i64 er]) (by simp [results, Tryz.results19, go_sem, k0, k1, k2, k3]) rfl ⟨POut.err HP.out, t1⟩
end Go.Proofs.YtnmfcaahdeddnaaGreatDoor.T5
