/-
  Texts of the proof, in their order: CkX, BarA, BarB, BarC, BarD, BarE, BarF, BarG; conditions: as each says.
-/
import Derived.Test.YtnmfcaahdeddnaaGreatDoorMgFOEL
import Derived.Test.YtnmfcaahdeddnaaGreatDoorMgJLIC
import Derived.Test.YtnmfcaahdeddnaaGreatDoorMgNAHF
namespace Go.Proofs.YtnmfcaahdeddnaaGreatDoor.T5
open Go.RowKit Go.Maps
set_option linter.unusedVariables false
set_option linter.unusedSimpArgs false

/-- What every function that is told is like. -/
theorem addVar_mem (v : ByteArray) : ∀ (l : List FnD) (g : FnD), g ∈ addVar v l → ∃ f ∈ l, g.params = f.params ∧ g.node = f.node
  | [], g, h => by simp [addVar] at h
  | [f], g, h => by
    simp [addVar] at h
    subst h
    exact ⟨f, by simp, rfl, rfl⟩
  | f :: f2 :: r, g, h => by
    rw [addVar, List.mem_cons] at h
    rcases h with rfl | h
    · exact ⟨g, by simp, rfl, rfl⟩
    · obtain ⟨x, hx, h1⟩ := addVar_mem v (f2 :: r) g h
      exact ⟨x, by simp [hx], h1⟩
theorem foldD_fns {L : List Nd} (d : List (Nat × Nat)) : ∀ f ∈ (foldD L d).fns, f.params = (kN L f.node).length - 1 ∧ kdN L f.node = 3 := by
  have key : ∀ (r : List (Nat × Nat)), ∀ f ∈ (foldD L r.reverse).fns, f.params = (kN L f.node).length - 1 ∧ kdN L f.node = 3 := by
    intro r
    induction r with
    | nil => intro f hf; simp [foldD] at hf
    | cons t r ih =>
      rw [List.reverse_cons, foldD_snoc]
      generalize foldD L r.reverse = D at *
      unfold stepD
      intro f hf
      split at hf
      · exact ih f hf
      · split at hf
        · rename_i _ h3
          simp only [List.mem_append, List.mem_singleton] at hf
          rcases hf with hf | rfl
          · exact ih f hf
          · exact ⟨rfl, h3⟩
        · split at hf
          · obtain ⟨g, hg, h1, h2⟩ := addVar_mem _ _ f hf
            rw [h1, h2]
            exact ih g hg
          · split at hf
            · exact ih f hf
            · exact ih f hf
  have := key d.reverse
  rwa [List.reverse_reverse] at this

def sliceA : Value → Option Addr
  | .slice a _ _ => a
  | _ => none
def sliceC : Value → Nat
  | .slice _ _ c => c
  | _ => 0
def FnM.c (f : FnM) : FnC := ⟨f.nm, sliceA f.vv, f.vs.length, sliceC f.vv, f.nd⟩
theorem flatFn_at : ∀ {l : List FnM} {i : Nat} {f : FnM}, l[i]? = some f → (flatFn l)[i * 4]? = some (.string f.nm) ∧ (flatFn l)[i * 4 + 1]? = some (.int .i64 (f.pr : Nat)) ∧ (flatFn l)[i * 4 + 2]? = some f.vv ∧ (flatFn l)[i * 4 + 3]? = some (.int .i64 (f.nd : Nat))
  | [], i, f, h => by simp at h
  | g :: r, 0, f, h => by
    simp at h
    subst h
    exact ⟨rfl, rfl, rfl, rfl⟩
  | g :: r, i + 1, f, h => by
    obtain ⟨h1, h2, h3, h4⟩ := flatFn_at (l := r) (i := i) (f := f) (by simpa using h)
    have e : flatFn (g :: r) = fnC g ++ flatFn r := rfl
    have key : ∀ j, (flatFn (g :: r))[(i + 1) * 4 + j]? = (flatFn r)[i * 4 + j]? := fun j => by
      rw [e, List.getElem?_append_right (by simp [fnC]; omega)]
      congr 1
      simp [fnC]
      omega
    exact ⟨by have := key 0; simp only [Nat.add_zero] at this; rw [this]; exact h1, by rw [key 1]; exact h2, by rw [key 2]; exact h3, by rw [key 3]; exact h4⟩
theorem DM.fsAt {X : World} {base : Nat} {d : Ds} {sv fv mv : Value} {SS : List SrM} {FF : List FnM} (h : DM X base d sv fv mv SS FF) {L : List Nd} (hp : ∀ f ∈ d.fns, f.params = (kN L f.node).length - 1 ∧ kdN L f.node = 3) : FsAt L X.heap.size X (sliceA fv) (FF.map FnM.c) := by
  intro i x hx
  rw [List.getElem?_map] at hx
  cases hf : FF[i]? with
  | none => rw [hf] at hx; simp at hx
  | some f =>
    rw [hf] at hx
    simp at hx
    subst hx
    have hlt := (List.getElem?_eq_some_iff.1 hf).1
    obtain ⟨g, c, e, _, _, hb, hc⟩ := own_cell h.fo (by omega)
    have hlt2 := (h.fo.lt g (by rw [e]; rfl)).2
    obtain ⟨q0, q1, q2, q3⟩ := flatFn_at hf
    have hmem : f.d ∈ d.fns := by rw [← h.ef]; exact List.mem_map.2 ⟨f, List.mem_of_getElem? hf, rfl⟩
    have hpr : f.pr = (kN L f.nd).length - 1 := (hp _ hmem).1
    obtain ⟨va, vc, hvv, _⟩ := own_slice (h.ff f (List.mem_of_getElem? hf))
    have hm4 : i * 4 + 4 ≤ FF.length * 4 := by omega
    refine ⟨g, 0, by rw [e]; rfl, hlt2, ⟨?_, ?_, ?_, ?_⟩⟩
    · rw [Nat.zero_add]; exact hc _ _ (by omega) q0
    · rw [Nat.zero_add]
      show X.cell? ⟨g, i * 4 + 1, none⟩ = some (.int .i64 (((kN L f.nd).length - 1 : Nat) : Int))
      rw [← hpr]; exact hc _ _ (by omega) q1
    · rw [Nat.zero_add]
      have : Value.slice (FnM.c f).va (FnM.c f).vn (FnM.c f).vc = f.vv := by rw [hvv]; simp [FnM.c, hvv, sliceA, sliceC]
      rw [this]; exact hc _ _ (by omega) q2
    · rw [Nat.zero_add]; exact hc _ _ (by omega) q3
theorem funs_same {L : List Nd} {E : Env} : ∀ {FF : List FnM}, (∀ f ∈ FF.map FnM.d, f.params = (kN L f.node).length - 1 ∧ kdN L f.node = 3) → funsP L E (FF.map FnM.c) = funsE L E (FF.map FnM.d)
  | [], _ => rfl
  | f :: r, h => by
    have h1 := (h (FnM.d f) (by simp)).1
    have ih := funs_same (L := L) (E := E) (FF := r) (fun g hg => h g (by simp only [List.map_cons, List.mem_cons]; exact .inr hg))
    rw [List.map_cons, List.map_cons, funsP, funsE, ih]
    have : fnE L E (FnM.c f).vn (FnM.c f).nd = funE L E (FnM.d f) := by
      unfold fnE funE
      rw [h1]
      rfl
    rw [this]
    rfl
theorem judge_same {L : List Nd} {d : Ds} {SS : List SrM} {FF : List FnM} (es : SS.map SrM.d = d.sorts) (ef : FF.map FnM.d = d.fns) (hp : ∀ f ∈ d.fns, f.params = (kN L f.node).length - 1 ∧ kdN L f.node = 3) : judgeP L SS.length (FF.map FnM.c) = judgeE L d := by
  unfold judgeP judgeE decP mainP
  have e1 : (FF.map FnM.c).map FnC.nd = d.fns.map FnD.node := by rw [← ef, List.map_map, List.map_map]; rfl
  have e2 : SS.length = d.sorts.length := by rw [← es, List.length_map]
  have e3 : (FF.map FnM.c).length = d.fns.length := by rw [← ef, List.length_map, List.length_map]
  have e4 : ∀ E, funsP L E (FF.map FnM.c) = funsE L E d.fns := fun E => by rw [← ef]; exact funs_same (by rw [ef]; exact hp)
  rw [e1, e2, e3]
  split
  · rfl
  · cases recsE L (kN L (L.length - 1)) NM.nil NM.nil with
    | error e => rfl
    | ok m =>
      obtain ⟨rc, fl⟩ := m
      simp only
      cases decsE L (d.fns.map FnD.node) NM.nil with
      | error e => rfl
      | ok fn =>
        simp only
        cases fn mainB with
        | none => rfl
        | some k => simp only; rw [e4]

set_option maxRecDepth 100000 in
theorem place_any {B : Nat} {L : List Nd} {w : World} {a : Option Addr} {len : Nat} (cap : Nat) (hlen : L.length = len) (hL : NAt B w a L) (hlm : len ≤ 2600000000000) (n e : Nat) (hn : n ≤ 2600000000000) :
    Calls Tryz.prog 37 #[.slice a len cap, .int .i64 n, .int .i64 e] w fun ex w' => ex = .returned (.int .i64 (if e = 2 ∨ e = 51 ∨ L.length ≤ n then 0 else max (plN L n) 0)) ∧ w' = w := by
  have hlI : (len : Int) ≤ 2600000000000 := by omega
  have hnI : (n : Int) ≤ 2600000000000 := by omega
  by_cases h : e = 2 ∨ e = 51 ∨ L.length ≤ n
  · rw [if_pos h]
    by_cases h2 : e = 2
    · have j2 : ((e : Int) == 2) = true := by simp; omega
      go_enter Tryz.func37, Tryz.ntmps37
      go_wp2
      go_ret
      exact ⟨rfl, rfl⟩
    · have j2 : ((e : Int) == 2) = false := by simp; omega
      by_cases h3 : e = 51
      · have j3 : ((e : Int) == 51) = true := by simp; omega
        go_enter Tryz.func37, Tryz.ntmps37
        go_wp2
        go_ret
        exact ⟨rfl, rfl⟩
      · have j3 : ((e : Int) == 51) = false := by simp; omega
        have j4 : (len : Int) ≤ n := by omega
        go_enter Tryz.func37, Tryz.ntmps37
        go_wp2
        go_ret
        exact ⟨rfl, rfl⟩
  · rw [if_neg h]
    have j2 : ((e : Int) == 2) = false := by simp; omega
    have j3 : ((e : Int) == 51) = false := by simp; omega
    have j4 : ¬ (len : Int) ≤ n := by omega
    have hx : L[n]? = some (L[n]'(by omega)) := List.getElem?_eq_getElem _
    generalize L[n]'(by omega) = x at hx
    obtain ⟨b, o, rfl, hb, hc⟩ := hL n x hx
    have c3 := hc.c3
    have e1 : plN L n = x.pl := by unfold plN; rw [hx]
    rw [e1]
    generalize x.pl = pl at *
    clear hc hL e1 hx h
    go_enter Tryz.func37, Tryz.ntmps37
    go_wp2
    go_ret
    exact ⟨rfl, rfl⟩
def zeroD : Value := .agg #[.slice none 0 0, .slice none 0 0, .int .i64 0, .slice none 0 0]
/-- What Program answers. -/
def POut (L : List Nd) (w w' : World) (e : Ending) : Prop := match progE L with
  | .error (p, c) => e = .returned (.tuple #[.agg #[.slice none 0 0, .slice none 0 0, .int .i64 0, .slice none 0 0], .int .i64 p, .int .i64 (c : Nat)])
  | .ok d => ∃ sv fv mv SS FF, e = .returned (.tuple #[.agg #[sv, fv, .int .i64 (d.main : Nat), mv], .int .i64 0, .int .i64 0]) ∧ DM w' w.heap.size d sv fv mv SS FF
theorem POut.err {L : List Nd} {w w' : World} {p : Int} {c : Nat} (h : progE L = .error (p, c)) : POut L w w' (.returned (.tuple #[.agg #[.slice none 0 0, .slice none 0 0, .int .i64 0, .slice none 0 0], .int .i64 p, .int .i64 (c : Nat)])) := by unfold POut; rw [h]
theorem POut.ok {L : List Nd} {w w' : World} {d : Ds} {e : Ending} (h : progE L = .ok d) (k : ∃ sv fv mv SS FF, e = .returned (.tuple #[.agg #[sv, fv, .int .i64 (d.main : Nat), mv], .int .i64 0, .int .i64 0]) ∧ DM w' w.heap.size d sv fv mv SS FF) : POut L w w' e := by unfold POut; rw [h]; exact k
theorem check_le {L : List Nd} : (checkL L).1 ≤ L.length := by
  unfold checkL
  split
  · simp
  · split
    · rename_i e he
      have : ∀ n e, nodesL L n = .error e → e.1 < n := by
        intro n
        induction n with
        | zero => intro e h; simp [nodesL] at h
        | succ n ih =>
          intro e h
          unfold nodesL at h
          split at h
          · rename_i e0 h0
            cases h
            have := ih _ h0
            omega
          · split at h
            · cases h
            · split at h
              · cases h; simp
              · cases h
      have := this _ _ he
      omega
    · split
      · simp
      · split
        · simp
        · split <;> simp

set_option maxRecDepth 100000 in
set_option maxHeartbeats 4000000 in
theorem prog8_any {L : List Nd} {w : World} {a : Option Addr} {len cap : Nat} (hlen : L.length = len) (hL : NAt w.heap.size w a L) (hm : len ≤ 2600000000000) (TT : Tabs w) :
    Calls Tryz.prog 19 #[.slice a len cap] w fun e w' => POut L w w' e ∧ Fr [] w w' := by
  have HLN := hidC hlen
  have F0 : Fr [] w (w.alloc (.cells #[.slice none 0 0, .slice none 0 0, .int .i64 0, .slice none 0 0] 28)) := (Fr.refl _ _).alloc _
  have r0 := heap_alloc_new w (.cells #[.slice none 0 0, .slice none 0 0, .int .i64 0, .slice none 0 0] 28)
  have C := check_any w.heap.size L _ a len cap hlen (hL.fr F0 (by simp)) hm F0.size (TT.fr F0 (by simp))
  have hle := check_le (L := L)
  unfold cOut at C
  have HL := hidC hL
  have HTT := hidC TT
  have HP : Hid (progE L = if (checkL L).2 ≠ 0 then .error (if (checkL L).2 = 2 ∨ (checkL L).2 = 51 ∨ L.length ≤ (checkL L).1 then 0 else max (plN L (checkL L).1) 0, (checkL L).2) else match judgeE L (descL L) with | .error e => .error e | .ok _ => .ok (descL L)) := rfl
  have HCK : Hid (∀ p, checkL L = (p, 0) → Ahead L ∧ 0 < L.length ∧ L.length ≤ 50000 ∧ Shp L ∧ (∀ n, (kN L n).length ≤ 50000)) := fun p h => by
    obtain ⟨hA, hp, h5, _, _⟩ := tree_once h
    obtain ⟨T, hn, _⟩ := check_zero h
    refine ⟨hA, hp, h5, shp_of hn, fun n => ?_⟩
    cases hx : L[n]? with
    | none => unfold kN; rw [hx]; simp
    | some x =>
      rw [kN_some hx, List.length_map]
      have := kids_few hn hx
      have := (List.getElem?_eq_some_iff.1 hx).1
      omega
  generalize hck : checkL L = ck at *
  obtain ⟨p, er⟩ := ck
  simp only at *
  have HCP := hidC hck
  clear hL TT hck hlen
  go_enter Tryz.func19, Tryz.ntmps19
  go_wp2_with fail
  refine C.mono ?_
  rintro e w1 ⟨rfl, f1⟩
  have r1 := (f1.block _ (Array.getElem?_eq_some_iff.1 r0).1 (by simp)).trans r0
  have F1 := F0.trans f1
  clear C f1 r0 F0
  by_cases h0 : er = 0
  · subst h0
    rw [if_neg (by simp)] at HP
    obtain ⟨hA, hp0, h5, hS, hkf⟩ := HCK.out p rfl
    have C38 := described_any L w1 a len cap HLN.out ((HL.out.fr F1 (by simp)).mono F1.size) (HTT.out.fr F1 (by simp)) HCP.out hS hkf
    have hfns : ∀ f ∈ (descL L).fns, f.params = (kN L f.node).length - 1 ∧ kdN L f.node = 3 := foldD_fns (treeW L)
    have hbd : DB L (descL L) 50000 := by
      have h1 := foldD_bound hkf (treeW L)
      have h2 : (treeW L).length ≤ 50000 := by unfold treeW; rw [HCP.out]; have := (tree_once HCP.out).2.2.2.2; simp only [if_true]; omega
      have e : descL L = foldD L (treeW L) := rfl
      rw [e]
      exact ⟨by have := h1.s; omega, by have := h1.f; omega, by have := h1.m; omega, fun f hf => by have := h1.v f hf; omega, by have := h1.mn; omega⟩
    have HJO := hidC (judgeE_ok L (descL L))
    generalize descL L = DL at *
    go_wp2_with fail
    refine C38.mono ?_
    rintro e w2 ⟨sv, fv, mv, SS, FF, rfl, hDM, f2⟩
    have F2 := F1.trans f2
    have r2 := (f2.block _ (Array.getElem?_eq_some_iff.1 r1).1 (by simp)).trans r1
    obtain ⟨sa, sc, rfl, _⟩ := own_slice hDM.so
    obtain ⟨fa, fc, rfl, _⟩ := own_slice hDM.fo
    obtain ⟨ma, mc, rfl, _⟩ := own_slice hDM.mo
    have F3 : Fr [] w2 (w2.alloc (.cells #[.slice sa SS.length sc, .slice fa FF.length fc, .int .i64 (DL.main : Nat), .slice ma DL.merges.length mc] 28)) := (Fr.refl _ _).alloc _
    have b3 := heap_alloc_new w2 (.cells #[.slice sa SS.length sc, .slice fa FF.length fc, .int .i64 (DL.main : Nat), .slice ma DL.merges.length mc] 28)
    have r3 := keep_alloc (u := .cells #[.slice sa SS.length sc, .slice fa FF.length fc, .int .i64 (DL.main : Nat), .slice ma DL.merges.length mc] 28) r2
    have M3 := hDM.fr F3 (by simp)
    have hJS := judge_same (L := L) M3.es M3.ef hfns
    have hss : SS.length ≤ 50000 := by have h1 := hbd.s; rw [← M3.es, List.length_map] at h1; exact h1
    have hff : FF.length ≤ 50000 := by have h1 := hbd.f; rw [← M3.ef, List.length_map] at h1; exact h1
    have C39 := judged_any (cap := cap) hA hS.shOk ((HL.out.fr (F2.trans F3) (by simp)).mono (F2.trans F3).size) HLN.out (by have := HLN.out; omega) (fun n x hx => by have := hkf n; rw [kN_some hx, List.length_map] at this; exact this) (by have := HLN.out; omega) (F := FF.map FnM.c) (sa := sa) (sc := sc) hss (fa := fa) (fn := FF.length) (fc := fc) (by simp) hff (M3.fsAt hfns) (fun x hx => by
      obtain ⟨f, hf, rfl⟩ := List.mem_map.1 hx
      have hmem : f.d ∈ DL.fns := by rw [← M3.ef]; exact List.mem_map.2 ⟨f, hf, rfl⟩
      have h1 := hS.fnPos (hfns _ hmem).2
      have h2 := hbd.v _ hmem
      refine ⟨h1.1, h1.2, ?_⟩
      show f.vs.length ≤ 1000000
      simp [FnM.d] at h2
      omega) (DL.main : Nat) (.slice ma DL.merges.length mc) rfl
    rw [hJS] at C39
    have F4 := F2.trans F3
    have HM3 := hidC M3
    have HF2s : Hid (w.heap.size ≤ w1.heap.size) := F1.size
    clear hDM f2 F1 F2 F3 r1 r2 hJS hfns hbd hss hff hS hkf hA M3 C38
    have g0 := at_cells b3 0 rfl
    have g1 := at_cells b3 1 rfl
    have g2 := at_cells b3 2 rfl
    have g3 := at_cells b3 3 rfl
    go_wp2_with fail
    refine C39.mono ?_
    rintro e w4 ⟨rfl, f4⟩
    have r4 := (f4.block _ (Array.getElem?_eq_some_iff.1 r3).1 (by simp)).trans r3
    have b4 := (f4.block _ (Array.getElem?_eq_some_iff.1 b3).1 (by simp)).trans b3
    have F5 := F4.trans f4
    have M4 := hidC (HM3.out.fr f4 (by simp))
    have c0 := at_cells r4 0 rfl
    have c1 := at_cells r4 1 rfl
    have c2 := at_cells r4 2 rfl
    have c3 := at_cells r4 3 rfl
    have z1 : ∀ i, w4.frozen? ⟨w.heap.size, i, none⟩ = false := fun i => by simp [World.frozen?, r4]
    have b40 := at_cells b4 0 rfl
    have b41 := at_cells b4 1 rfl
    have b42 := at_cells b4 2 rfl
    have b43 := at_cells b4 3 rfl
    clear C39 f4 F4 HM3 g0 g1 g2 g3 r3 b3 b4
    have HFIN : Hid (∀ x0 x1 x2 x3, Fr [] w ((((w4.setCell ⟨w.heap.size, 0, none⟩ x0).setCell ⟨w.heap.size, 1, none⟩ x1).setCell ⟨w.heap.size, 2, none⟩ x2).setCell ⟨w.heap.size, 3, none⟩ x3) ∧ Fr [w.heap.size] w4 ((((w4.setCell ⟨w.heap.size, 0, none⟩ x0).setCell ⟨w.heap.size, 1, none⟩ x1).setCell ⟨w.heap.size, 2, none⟩ x2).setCell ⟨w.heap.size, 3, none⟩ x3) ∧ ((((w4.setCell ⟨w.heap.size, 0, none⟩ x0).setCell ⟨w.heap.size, 1, none⟩ x1).setCell ⟨w.heap.size, 2, none⟩ x2).setCell ⟨w.heap.size, 3, none⟩ x3).heap[w.heap.size]? = some (.cells #[x0, x1, x2, x3] 28 (0, 0))) := fun x0 x1 x2 x3 => by
      have f9 : Fr [w.heap.size] w4 ((((w4.setCell ⟨w.heap.size, 0, none⟩ x0).setCell ⟨w.heap.size, 1, none⟩ x1).setCell ⟨w.heap.size, 2, none⟩ x2).setCell ⟨w.heap.size, 3, none⟩ x3) := ((((Fr.refl _ _).setCell (.inl (by simp)) _).setCell (.inl (by simp)) _).setCell (.inl (by simp)) _).setCell (.inl (by simp)) _
      exact ⟨F5.over f9 (by simp), f9, set4_3 (set4_2 (set4_1 (set4_0 r4)))⟩
    have HMB : Hid (∀ W, Fr [w.heap.size] w4 W → DM W w.heap.size DL (.slice sa SS.length sc) (.slice fa FF.length fc) (.slice ma DL.merges.length mc) SS FF) := fun W f => by
      have y8 := M4.out.fr f (fun k hk => by simp at hk; subst hk; exact M4.out.off r4 (by intro c t z e; cases e; decide))
      exact ⟨own_base HF2s.out y8.so, own_base HF2s.out y8.fo, own_base HF2s.out y8.mo, fun s hs => own_base HF2s.out (y8.ss s hs), fun g hg => own_base HF2s.out (y8.ff g hg), y8.es, y8.ef, y8.ap⟩
    have HR4 := hidC r4
    cases hj : judgeE L DL with
    | error pe =>
      obtain ⟨pp, ee⟩ := pe
      have hee := HJO.out pp ee hj
      have h0' : ((ee : Int) != 0) = true := by simp; omega
      rw [hj] at HP
      simp only [jEnd]
      clear hj
      go_wp2
      obtain ⟨t1, t2, t3⟩ := HFIN.out (.slice none 0 0) (.slice none 0 0) (.int .i64 0) (.slice none 0 0)
      generalize (((w4.setCell ⟨w.heap.size, 0, none⟩ (.slice none 0 0)).setCell ⟨w.heap.size, 1, none⟩ (.slice none 0 0)).setCell ⟨w.heap.size, 2, none⟩ (.int .i64 0)).setCell ⟨w.heap.size, 3, none⟩ (.slice none 0 0) = W9 at *
      have k0 := at_cells t3 0 rfl
      have k1 := at_cells t3 1 rfl
      have k2 := at_cells t3 2 rfl
      have k3 := at_cells t3 3 rfl
      refine bodyPost_ret (v := .tuple #[.agg #[.slice none 0 0, .slice none 0 0, .int .i64 0, .slice none 0 0], .int .i64 pp, .int .i64 ee]) (by simp [results, Tryz.results19, go_sem, k0, k1, k2, k3]) rfl ⟨POut.err HP.out, t1⟩
    | ok u =>
      rw [hj] at HP
      simp only [jEnd]
      clear hj
      go_wp2
      obtain ⟨t1, t2, t3⟩ := HFIN.out (.slice sa SS.length sc) (.slice fa FF.length fc) (.int .i64 (DL.main : Nat)) (.slice ma DL.merges.length mc)
      generalize (((w4.setCell ⟨w.heap.size, 0, none⟩ (.slice sa SS.length sc)).setCell ⟨w.heap.size, 1, none⟩ (.slice fa FF.length fc)).setCell ⟨w.heap.size, 2, none⟩ (.int .i64 (DL.main : Nat))).setCell ⟨w.heap.size, 3, none⟩ (.slice ma DL.merges.length mc) = W9 at *
      have k0 := at_cells t3 0 rfl
      have k1 := at_cells t3 1 rfl
      have k2 := at_cells t3 2 rfl
      have k3 := at_cells t3 3 rfl
      refine bodyPost_ret (v := .tuple #[.agg #[.slice sa SS.length sc, .slice fa FF.length fc, .int .i64 (DL.main : Nat), .slice ma DL.merges.length mc], .int .i64 0, .int .i64 0]) (by simp [results, Tryz.results19, go_sem, k0, k1, k2, k3]) rfl ⟨POut.ok HP.out ⟨_, _, _, SS, FF, rfl, HMB.out _ t2⟩, t1⟩
  · have h0' : ((er : Int) != 0) = true := by simp; omega
    rw [if_pos h0] at HP
    have C37 := place_any cap HLN.out (HL.out.fr F1 (by simp)) hm p er (by have := HLN.out; omega)
    generalize (if er = 2 ∨ er = 51 ∨ L.length ≤ p then (0 : Int) else max (plN L p) 0) = pl at *
    have z1 : ∀ i, w1.frozen? ⟨w.heap.size, i, none⟩ = false := fun i => by simp [World.frozen?, r1]
    have c0 := at_cells r1 0 rfl
    have c1 := at_cells r1 1 rfl
    have c2 := at_cells r1 2 rfl
    have c3 := at_cells r1 3 rfl
    have HFIN : Hid (∀ x0 x1 x2 x3, Fr [] w ((((w1.setCell ⟨w.heap.size, 0, none⟩ x0).setCell ⟨w.heap.size, 1, none⟩ x1).setCell ⟨w.heap.size, 2, none⟩ x2).setCell ⟨w.heap.size, 3, none⟩ x3) ∧ True ∧ ((((w1.setCell ⟨w.heap.size, 0, none⟩ x0).setCell ⟨w.heap.size, 1, none⟩ x1).setCell ⟨w.heap.size, 2, none⟩ x2).setCell ⟨w.heap.size, 3, none⟩ x3).heap[w.heap.size]? = some (.cells #[x0, x1, x2, x3] 28 (0, 0))) := fun x0 x1 x2 x3 => by
      have f9 : Fr [w.heap.size] w1 ((((w1.setCell ⟨w.heap.size, 0, none⟩ x0).setCell ⟨w.heap.size, 1, none⟩ x1).setCell ⟨w.heap.size, 2, none⟩ x2).setCell ⟨w.heap.size, 3, none⟩ x3) := ((((Fr.refl _ _).setCell (.inl (by simp)) _).setCell (.inl (by simp)) _).setCell (.inl (by simp)) _).setCell (.inl (by simp)) _
      exact ⟨F1.over f9 (by simp), trivial, set4_3 (set4_2 (set4_1 (set4_0 r1)))⟩
    go_wp2_with (go_at_call 37; with_reducible (refine C37.mono ?_); rintro ex wz ⟨rfl, hwz⟩; have hwz' := hwz.symm; subst hwz')
    obtain ⟨t1, t2, t3⟩ := HFIN.out (.slice none 0 0) (.slice none 0 0) (.int .i64 0) (.slice none 0 0)
    generalize (((w1.setCell ⟨w.heap.size, 0, none⟩ (.slice none 0 0)).setCell ⟨w.heap.size, 1, none⟩ (.slice none 0 0)).setCell ⟨w.heap.size, 2, none⟩ (.int .i64 0)).setCell ⟨w.heap.size, 3, none⟩ (.slice none 0 0) = W9 at *
    have k0 := at_cells t3 0 rfl
    have k1 := at_cells t3 1 rfl
    have k2 := at_cells t3 2 rfl
    have k3 := at_cells t3 3 rfl
    refine bodyPost_ret (v := .tuple #[.agg #[.slice none 0 0, .slice none 0 0, .int .i64 0, .slice none 0 0], .int .i64 pl, .int .i64 er]) (by simp [results, Tryz.results19, go_sem, k0, k1, k2, k3]) rfl ⟨POut.err HP.out, t1⟩
end Go.Proofs.YtnmfcaahdeddnaaGreatDoor.T5
namespace Go.Proofs.YtnmfcaahdeddnaaGreatDoor.T5
open Go.RowKit Go.Maps
set_option linter.unusedVariables false
set_option linter.unusedSimpArgs false

def setAll (T : List Bool) : List Nat → List Bool
  | [] => T
  | k :: r => setAll (T.set k true) r
theorem setAll_len (T : List Bool) : ∀ l, (setAll T l).length = T.length
  | [] => rfl
  | k :: r => by rw [setAll, setAll_len _ r, List.length_set]
termination_by l => l.length
def markL (L : List Nd) : Nat → List Bool
  | 0 => List.replicate L.length false
  | p + 1 => if kdN L p = 13 then setAll ((markL L p).set p true) (kN L p) else markL L p
theorem markL_len (L : List Nd) : ∀ p, (markL L p).length = L.length
  | 0 => by simp [markL]
  | p + 1 => by
    unfold markL
    split
    · rw [setAll_len, List.length_set, markL_len L p]
    · exact markL_len L p
theorem setAll_snoc : ∀ (l : List Nat) (T : List Bool) (k : Nat), setAll T (l ++ [k]) = (setAll T l).set k true
  | [], T, k => rfl
  | j :: r, T, k => by rw [List.cons_append, setAll, setAll, setAll_snoc r]

set_option maxRecDepth 100000 in
set_option maxHeartbeats 4000000 in
theorem ofm_any {B : Nat} {L : List Nd} {w : World} {a : Option Addr} {len cap : Nat} (hlen : L.length = len) (hL : NAt B w a L) (hlm : len ≤ 50000) (hA : Ahead L) (hB : B ≤ w.heap.size) (hkf : ∀ n, (kN L n).length ≤ 50000) :
    Calls Tryz.prog 24 #[.slice a len cap] w fun e w' => e = .returned (.slice (some ⟨w.heap.size, 0, none⟩) len len) ∧ TB w' w.heap.size (markL L len) ∧ Fr [] w w' := by
  have hlI : (len : Int) ≤ 50000 := by omega
  have hmk := make_bools w len (by omega)
  have I0 : TB (w.alloc (.cells ((List.replicate len false).map Value.bool).toArray 4)) w.heap.size (markL L 0) := by
    have := heap_alloc_new w (.cells ((List.replicate len false).map Value.bool).toArray 4)
    unfold TB markL
    rw [hlen]
    exact this
  have F0 : Fr [] w (w.alloc (.cells ((List.replicate len false).map Value.bool).toArray 4)) := (Fr.refl _ _).alloc _
  have HLN := hidC hlen
  have HL := hidC (hL.fr F0 (by simp))
  have HA := hidC hA
  have HKF := hidC hkf
  have HB := hidC hB
  have HF0 := hidC F0
  clear hlen hL hA hkf hB F0
  generalize w.alloc (.cells ((List.replicate len false).map Value.bool).toArray 4) = W at *
  have HI0 := hidC I0
  clear I0
  go_enter Tryz.func24, Tryz.ntmps24
  go_wp2
  clear hmk
  go_loopw [4, 5, 7, 13, 27] (fun _ _ _ ix _ wr => ∃ p : Nat, p ≤ len ∧ ix = .int .i64 p ∧ Fr [w.heap.size] W wr ∧ TB wr w.heap.size (markL L p)) (fun _ _ _ ix _ _ => len - (intOf ix).toNat)
  case atStart => exact ⟨0, Nat.zero_le _, rfl, Fr.refl _ _, HI0.out⟩
  case round =>
    clear HI0
    obtain ⟨p, hp, rfl, fw, hT⟩ := hrel
    by_cases hlt : p < len
    · have hpI : (p : Int) < len := by omega
      have hpl : p < L.length := by rw [HLN.out]; exact hlt
      have hx : L[p]? = some L[p] := List.getElem?_eq_getElem hpl
      generalize L[p] = x at hx
      have HML : Hid ((markL L p).length = len) := by unfold Hid; rw [markL_len]; exact HLN.out
      have eK : kdN L p = x.kind := kdN_of hx
      have eN : kN L p = x.ks.map Int.toNat := kN_some hx
      have HMS : Hid (markL L (p + 1) = if x.kind = 13 then setAll ((markL L p).set p true) (x.ks.map Int.toNat) else markL L p) := by unfold Hid; rw [markL, eK, eN]
      have hkm : x.ks.length ≤ 50000 := by have := HKF.out p; rw [eN, List.length_map] at this; exact this
      have HKS : Hid (∀ k ∈ x.ks, 0 ≤ k ∧ k < len) := fun k hk => by obtain ⟨q0, q1⟩ := HA.out p x hx k hk; exact ⟨q0, by omega⟩
      obtain ⟨b, o, rfl, hb, hc⟩ := (HL.out.fr fw (by have := HB.out; simp; omega)) p x hx
      have F5 : Fr [] wr (wr.alloc (.cells #[.int .i64 x.kind, .string x.text, .slice x.a x.ks.length x.c, .int .i64 x.pl] 55)) := (Fr.refl _ _).alloc _
      have bx := heap_alloc_new wr (.cells #[.int .i64 x.kind, .string x.text, .slice x.a x.ks.length x.c, .int .i64 x.pl] 55)
      have HT5 := hidC (hT.fr F5 (by simp))
      have HFW := hidC (fw.trans (F5.sub (by simp)))
      have ng : b ≠ wr.heap.size := by have := World.block_lt_of_cell? wr _ hc.c0; simp only at this; omega
      have HK5 := hidC (hc.k.fr F5 (by simp))
      have HG : Hid (w.heap.size ≠ wr.heap.size) := by have := hT.lt; unfold Hid; omega
      obtain ⟨c0, c1, c2, c3, _, _, _, _, _⟩ := hc
      obtain ⟨wA, hwA⟩ : ∃ x : World, x = wr := ⟨_, rfl⟩
      subst hwA
      have kI : (x.ks.length : Int) ≤ 50000 := by omega
      obtain ⟨xk, xt, xa, xc, xks, xpl⟩ := x
      simp only at *
      clear hx hpl hT eK eN fw F5
      by_cases h13 : xk = 13
      · subst h13
        rw [if_pos rfl] at HMS
        have e0 := at_cells bx 0 rfl
        have e2 := at_cells bx 2 rfl
        have t0 := HT5.out.cell (i := p) (by rw [HML.out]; exact hlt)
        have tz := HT5.out.fz p
        have HT6 := hidC (HT5.out.set p true)
        have hG := HG.out
        have HF6 := hidC (HFW.out.setCell (p := ⟨w.heap.size, p, none⟩) (.inl (by simp)) (.bool true))
        have HK6 := hidC (HK5.out.fr ((Fr.refl [w.heap.size] _).setCell (p := ⟨w.heap.size, p, none⟩) (.inl (by simp)) (.bool true)) (by have := HB.out; simp; omega))
        go_wp2
        generalize (wA.alloc (.cells #[.int .i64 13, .string xt, .slice xa xks.length xc, .int .i64 xpl] 55)).setCell ⟨w.heap.size, p, none⟩ (.bool true) = W6 at *
        clear e0 e2 t0 tz bx c0 c1 c2 c3 ng HT5 HK5 HFW
        go_loopw [7, 27] (fun _ ix wr => ∃ q : Nat, q ≤ xks.length ∧ ix = .int .i64 q ∧ Fr [w.heap.size] W wr ∧ Fr [w.heap.size] W6 wr ∧ TB wr w.heap.size (setAll ((markL L p).set p true) ((xks.take q).map Int.toNat))) (fun _ ix _ => xks.length - (intOf ix).toNat)
        case atStart => exact ⟨0, Nat.zero_le _, rfl, HF6.out, Fr.refl _ _, HT6.out⟩
        case round =>
          obtain ⟨q, hq, rfl, fq, fq6, hTq⟩ := hrel
          by_cases hlt2 : q < xks.length
          · have hqI : (q : Int) < xks.length := by omega
            have hy : xks[q]? = some xks[q] := List.getElem?_eq_getElem hlt2
            obtain ⟨z0, z1⟩ := HKS.out xks[q] (List.getElem_mem _)
            obtain ⟨b2, o2, e2, hb2, hc2⟩ := (HK6.out.fr fq6 (by have := HB.out; simp; omega)) q _ hy
            have HSN : Hid (setAll ((markL L p).set p true) ((xks.take (q + 1)).map Int.toNat) = (setAll ((markL L p).set p true) ((xks.take q).map Int.toNat)).set (xks[q]).toNat true) := by
              unfold Hid
              rw [List.take_add_one, hy]
              simp only [Option.toList_some, List.map_append, List.map_cons, List.map_nil]
              rw [setAll_snoc]
            generalize xks[q] = z at *
            obtain ⟨y, rfl⟩ := Int.eq_ofNat_of_zero_le z0
            rw [Int.toNat_natCast] at HSN
            have hyl : y < (setAll ((markL L p).set p true) ((xks.take q).map Int.toNat)).length := by rw [setAll_len, List.length_set, HML.out]; omega
            have t0 := hTq.cell hyl
            have tz := hTq.fz y
            have hT7 := hTq.set y true
            rw [← HSN.out] at hT7
            have HT7 := hidC hT7
            have HF7 := hidC (fq.setCell (p := ⟨w.heap.size, y, none⟩) (.inl (by simp)) (.bool true))
            have HF8 := hidC (fq6.setCell (p := ⟨w.heap.size, y, none⟩) (.inl (by simp)) (.bool true))
            subst e2
            clear hy hyl hT7 hTq fq fq6 HSN
            go_wp2
            go_roundw
            case rel => exact ⟨q + 1, hlt2, by go_num, HF7.out, HF8.out, HT7.out⟩
            case measure => simp [intOf]; omega
          · have hqI : ¬ (q : Int) < xks.length := by omega
            rw [List.take_of_length_le (by omega), ← HMS.out] at hTq
            have HTQ := hidC hTq
            clear hTq
            go_wp2
            go_roundw
            case rel => exact ⟨p + 1, hlt, by go_num, fq, HTQ.out⟩
            case measure => simp [intOf]; omega
      · rw [if_neg h13] at HMS
        have j13 : (xk != 13) = true := by simpa using h13
        have HT9 := HT5.out
        rw [← HMS.out] at HT9
        have HT10 := hidC HT9
        clear HT9 HT5 HMS
        go_wp2
        go_roundw
        case rel => exact ⟨p + 1, hlt, by go_num, HFW.out, HT10.out⟩
        case measure => simp [intOf]; omega
    · have hpI : ¬ (p : Int) < len := by omega
      have hpe : p = len := by omega
      subst hpe
      go_wp2
      go_ret
      exact ⟨rfl, hT, HF0.out.over fw (by simp)⟩
end Go.Proofs.YtnmfcaahdeddnaaGreatDoor.T5
namespace Go.Proofs.YtnmfcaahdeddnaaGreatDoor.T5
open Go.RowKit Go.Maps
set_option linter.unusedVariables false
set_option linter.unusedSimpArgs false

def renL (D : List Int) (ks : List Int) : List Int := (ks.filter (fun k => D.getD k.toNat 0 != -1)).map (fun k => D.getD k.toNat 0)
theorem renL_snoc (D ks : List Int) (k : Int) : renL D (ks ++ [k]) = if D.getD k.toNat 0 = -1 then renL D ks else renL D ks ++ [D.getD k.toNat 0] := by
  unfold renL
  rw [List.filter_append, List.map_append]
  split
  · rename_i h
    have : (D.getD k.toNat 0 != -1) = false := by rw [h]; rfl
    simp only [List.filter_cons, this, List.filter_nil]
    simp
  · rename_i h
    have : (D.getD k.toNat 0 != -1) = true := by simpa using h
    simp only [List.filter_cons, this, List.filter_nil]
    simp
theorem renL_len (D ks : List Int) : (renL D ks).length ≤ ks.length := by
  unfold renL
  rw [List.length_map]
  exact List.length_filter_le _ _
def inZ (l : List Int) : List Value := l.map (Value.int .i64)

set_option maxRecDepth 100000 in
set_option maxHeartbeats 4000000 in
theorem ren_any {B : Nat} {w : World} {ka : Option Addr} {kn kc g len gc : Nat} {ks D : List Int} (hk : KAt B w ka ks) (hkn : ks.length = kn) (hkm : kn ≤ 50000) (hD : IB w g D) (hDl : D.length = len) (hlm : len ≤ 50000) (hks : ∀ k ∈ ks, 0 ≤ k ∧ k < len) :
    Calls Tryz.prog 25 #[.slice ka kn kc, .slice (some ⟨g, 0, none⟩) len gc] w fun e w' => ∃ v, e = .returned v ∧ w'.ownsRow w.heap.size 3 1 v (renL D ks).length (inZ (renL D ks)) ∧ Fr [] w w' := by
  obtain ⟨i3, hi3, hz3, hs3, hb3⟩ := info_parts info3c
  have HKN := hidC hkn
  have HK := hidC hk
  have HKS := hidC hks
  have HD := hidC hD
  have HDL := hidC hDl
  have hlI : (len : Int) ≤ 50000 := by omega
  have hkI : (kn : Int) ≤ 50000 := by omega
  clear hkn hk hks hD hDl
  go_enter Tryz.func25, Tryz.ntmps25
  go_wp2
  go_loopw [5, 7, 10] (fun v _ ix wr => ∃ p : Nat, p ≤ kn ∧ ix = .int .i64 p ∧ wr.ownsRow w.heap.size 3 1 v (renL D (ks.take p)).length (inZ (renL D (ks.take p))) ∧ Fr [] w wr) (fun _ _ ix _ => kn - (intOf ix).toNat)
  case atStart => exact ⟨0, Nat.zero_le _, rfl, World.ownsRow_nil _ _ _ _, Fr.refl _ _⟩
  case round =>
    obtain ⟨p, hp, rfl, ho, fw⟩ := hrel
    by_cases hlt : p < kn
    · have hpI : (p : Int) < kn := by omega
      have hpk : p < ks.length := by rw [HKN.out]; exact hlt
      have hx : ks[p]? = some ks[p] := List.getElem?_eq_getElem hpk
      obtain ⟨h0, hz'⟩ := HKS.out ks[p] (List.getElem_mem _)
      have HRL : Hid ((renL D (ks.take p)).length ≤ 50000) := by have := renL_len D (ks.take p); rw [List.length_take] at this; unfold Hid; omega
      have HT : Hid (renL D (ks.take (p + 1)) = if D.getD (ks[p]).toNat 0 = -1 then renL D (ks.take p) else renL D (ks.take p) ++ [D.getD (ks[p]).toNat 0]) := by
        unfold Hid
        rw [← renL_snoc, List.take_add_one, hx]
        rfl
      obtain ⟨b, o, e, hb, hc⟩ := (HK.out.fr fw (by simp)) p _ hx
      subst e
      generalize ks[p] = z at *
      obtain ⟨q, rfl⟩ := Int.eq_ofNat_of_zero_le h0
      rw [Int.toNat_natCast] at HT
      have hql : q < D.length := by rw [HDL.out]; omega
      have hv : D[q]? = some (D.getD q 0) := by simp [List.getD, List.getElem?_eq_getElem hql]
      have dq := (HD.out.fr fw (by simp)).cell hv
      generalize D.getD q 0 = dv at *
      obtain ⟨av, cv, rfl, _⟩ := own_slice ho
      have hsz := fw.size
      have HO := hidC ho
      have HFW := hidC fw
      clear hx h0 ho fw hv
      by_cases hg : dv = -1
      · subst hg
        rw [if_pos rfl] at HT
        have HO2 := HO.out
        rw [← HT.out] at HO2
        have HO3 := hidC HO2
        have HLE : Hid ((renL D (ks.take p)).length = (renL D (ks.take (p + 1))).length) := by unfold Hid; rw [HT.out]
        clear HO2 HT HO
        go_wp2
        go_roundw
        case rel => exact ⟨p + 1, hlt, by go_num, by rw [HLE.out]; exact HO3.out, HFW.out⟩
        case measure => simp [intOf]; omega
      · rw [if_neg hg] at HT
        have hgb : (dv != -1) = true := by simpa using hg
        have f1 : Fr [] wr (wr.alloc (.cells #[.int .i64 dv] 3)) := (Fr.refl _ _).alloc _
        generalize hrl : (renL D (ks.take p)).length = rl at *
        go_wp2_with (at_builtin; refine wpList_append_own_at _ rfl _ _ 26 rfl w.heap.size 3 i3 (.int .i64 0) 1 8 under26c hi3 hz3 hs3 hb3 rfl (by decide) (.slice av rl cv) rl _ rfl (HO.out.alloc _) ⟨wr.heap.size, 0, none⟩ 1 1 [.int .i64 dv] rfl rfl (new_one wr _ _) (by simp [Value.oneCell']) (by have := HRL.out; unfold maxLen; omega) (by have := HRL.out; omega) (by simp; omega) ?_)
        intro v1 w1 hown1 hgrow hnil hloc
        have HF1 : Hid (Fr [] w w1) := (HFW.out.trans f1).over ((Fr.ofGrown hgrow).sub (fun k hk => .inl hk)) (fun k hk => by simp only [Option.mem_toList] at hk; exact (HO.out.lt k hk).1)
        have HO1 : Hid (w1.ownsRow w.heap.size 3 1 v1 (renL D (ks.take (p + 1))).length (inZ (renL D (ks.take (p + 1))))) := by
          unfold Hid
          rw [HT.out, inZ, List.map_append, List.length_append, hrl]
          exact hown1
        obtain ⟨a1, c1, hv1, _⟩ := own_slice hown1
        subst hv1
        have HLE : Hid (rl + 1 = (renL D (ks.take (p + 1))).length) := by unfold Hid; rw [HT.out, List.length_append, hrl]; rfl
        clear hown1 hgrow hnil hloc f1 HT hrl HO
        go_wp2
        go_roundw
        case rel => exact ⟨p + 1, hlt, by go_num, HO1.out, HF1.out⟩
        case measure => simp [intOf]; omega
    · have hpI : ¬ (p : Int) < kn := by omega
      have hpe : p = kn := by omega
      subst hpe
      rw [List.take_of_length_le (by rw [HKN.out]; exact Nat.le_refl _)] at ho
      obtain ⟨av, cv, rfl, _⟩ := own_slice ho
      have HO := hidC ho
      clear ho
      go_wp2
      go_ret
      exact ⟨_, rfl, HO.out, fw⟩
end Go.Proofs.YtnmfcaahdeddnaaGreatDoor.T5
namespace Go.Proofs.YtnmfcaahdeddnaaGreatDoor.T5
open Go.RowKit Go.Maps
set_option linter.unusedVariables false
set_option linter.unusedSimpArgs false

def cellsO (x : Nd) : List Value := [.int .i64 x.kind, .string x.text, .slice x.a x.ks.length x.c, .int .i64 x.pl]
def flatO (l : List Nd) : List Value := l.flatMap cellsO
theorem flatO_snoc (l : List Nd) (x : Nd) : flatO (l ++ [x]) = flatO l ++ cellsO x := by simp [flatO]
theorem flatO_at : ∀ {l : List Nd} {i j : Nat} {x : Nd}, l[i]? = some x → j < 4 → (flatO l)[i * 4 + j]? = (cellsO x)[j]?
  | [], i, j, x, h, _ => by simp at h
  | y :: r, 0, j, x, h, hj => by
    simp at h
    subst h
    have e : flatO (y :: r) = cellsO y ++ flatO r := rfl
    rw [e, List.getElem?_append_left (by simp [cellsO]; omega)]
    simp
  | y :: r, i + 1, j, x, h, hj => by
    have ih := flatO_at (l := r) (i := i) (j := j) (x := x) (by simpa using h) hj
    have e : flatO (y :: r) = cellsO y ++ flatO r := rfl
    rw [e, List.getElem?_append_right (by simp [cellsO]; omega), ← ih]
    congr 1
    simp [cellsO]
    omega
/-- A node without where its kids lie. -/
def nb (x : Nd) : Nd := ⟨x.kind, x.text, none, 0, x.ks, x.pl⟩
/-- New numbers, and the nodes that are left. -/
def bareS (L : List Nd) (M : List Bool) (p : Nat) (s : List Int × List Nd) : List Int × List Nd := match L[p]? with
  | none => s
  | some x => if M.getD p false then (s.1.set p (-1), s.2)
    else if x.kind = 29 then (s.1.set p (s.1.getD (x.ks.headD 0).toNat 0), s.2)
    else (s.1.set p s.2.length, s.2 ++ [⟨x.kind, x.text, none, 0, renL (s.1.set p s.2.length) x.ks, x.pl⟩])
def bareP (L : List Nd) : Nat → List Int × List Nd
  | 0 => (List.replicate L.length 0, [])
  | p + 1 => bareS L (markL L L.length) p (bareP L p)
theorem bareS_len (L : List Nd) (M : List Bool) (p : Nat) (s : List Int × List Nd) : (bareS L M p s).1.length = s.1.length ∧ s.2.length ≤ (bareS L M p s).2.length ∧ (bareS L M p s).2.length ≤ s.2.length + 1 := by
  unfold bareS
  split
  · exact ⟨rfl, Nat.le_refl _, by omega⟩
  · split
    · exact ⟨by simp, Nat.le_refl _, by simp⟩
    · split
      · exact ⟨by simp, Nat.le_refl _, by simp⟩
      · exact ⟨by simp, by simp, by simp⟩
theorem bareP_len (L : List Nd) : ∀ p, (bareP L p).1.length = L.length ∧ (bareP L p).2.length ≤ p
  | 0 => by simp [bareP]
  | p + 1 => by
    obtain ⟨h1, h2⟩ := bareP_len L p
    obtain ⟨h3, _, h4⟩ := bareS_len L (markL L L.length) p (bareP L p)
    exact ⟨by rw [bareP, h3, h1], by rw [bareP]; omega⟩
/-- The nodes that are left, in memory. -/
structure BM (X : World) (base : Nat) (bv : Value) (O : List Nd) : Prop where
  row : X.ownsRow base 55 4 bv O.length (flatO O)
  kid : ∀ x ∈ O, X.ownsRow base 3 1 (.slice x.a x.ks.length x.c) x.ks.length (inZ x.ks)
  tx : ∀ x ∈ O, x.text.size ≤ maxLen
theorem BM.fr {X X' : World} {base : Nat} {bv : Value} {O : List Nd} {S : List Nat} (h : BM X base bv O) (f : Fr S X X') (hS : ∀ k ∈ S, k < base) : BM X' base bv O :=
  ⟨own_fr h.row f (fun k hk hm => by have := hS k hm; have := (h.row.lt k hk).1; omega), fun x hx => own_fr (h.kid x hx) f (fun k hk hm => by have := hS k hm; have := ((h.kid x hx).lt k hk).1; omega), h.tx⟩
theorem BM.nil (X : World) (base : Nat) : BM X base (.slice none 0 0) [] := ⟨World.ownsRow_nil _ _ _ _, by simp, by simp⟩
theorem info55o : (Tryz.prog.info? 55).map (fun i => (i.zero, i.size, i.bytes)) = some (some (.agg #[.int .i64 0, .string ⟨#[]⟩, .slice none 0 0, .int .i64 0]), 4, 56) := by kernel_rfl
theorem under23o : Tryz.prog.underlying 23 = some (.slice 55) := by kernel_rfl
theorem BM.nat {X : World} {base : Nat} {a : Option Addr} {n c : Nat} {O : List Nd} (h : BM X base (.slice a n c) O) : NAt X.heap.size X a O := by
  intro i x hx
  have hlt := (List.getElem?_eq_some_iff.1 hx).1
  obtain ⟨g, cc, e, _, _, hb, hc⟩ := own_cell h.row (by omega)
  cases e
  have hg := (h.row.lt g rfl).2
  have q : ∀ j, j < 4 → ∀ u, (cellsO x)[j]? = some u → X.cell? ⟨g, i * 4 + j, none⟩ = some u := fun j hj u hu => hc _ _ (by omega) (by rw [flatO_at hx hj]; exact hu)
  have hmem := List.mem_of_getElem? hx
  have hk := h.kid x hmem
  obtain ⟨_, h0 | ⟨kg, kc, cur, hv, hkb, hko, hkl, hkm, _⟩⟩ := id hk
  · injection h0.1 with e1 e2 e3
    refine ⟨g, 0, rfl, hg, ⟨by simpa using q 0 (by omega) _ rfl, by simpa using q 1 (by omega) _ rfl, by simpa using q 2 (by omega) _ rfl, by simpa using q 3 (by omega) _ rfl, ?_, h.tx x hmem, by omega, by omega, fun _ => e3⟩⟩
    intro j k hj
    have := (List.getElem?_eq_some_iff.1 hj).1
    omega
  · injection hv with e1 e2 e3
    refine ⟨g, 0, rfl, hg, ⟨by simpa using q 0 (by omega) _ rfl, by simpa using q 1 (by omega) _ rfl, by simpa using q 2 (by omega) _ rfl, by simpa using q 3 (by omega) _ rfl, ?_, h.tx x hmem, by omega, by omega, fun h => by rw [e1] at h; cases h⟩⟩
    intro j k hj
    refine ⟨kg, 0, e1, (hk.lt kg (by rw [e1]; rfl)).2, ?_⟩
    have hjl := (List.getElem?_eq_some_iff.1 hj).1
    have := hk.cells (g := kg) (by rw [e1]; rfl) j (.int .i64 k) (by simp [inZ, hj])
    rw [Addr.add_lit] at this
    exact this

/-- What Bare answers. -/
def BOut (L : List Nd) (w w' : World) (e : Ending) : Prop :=
  if (checkL L).2 ≠ 0 then e = .returned (.tuple #[.slice none 0 0, .int .i64 ((checkL L).2 : Nat)])
  else ∃ (a : Option Addr) (c : Nat) (O : List Nd), e = .returned (.tuple #[.slice a O.length c, .int .i64 0]) ∧ O.map nb = (bareP L L.length).2 ∧ BM w' w.heap.size (.slice a O.length c) O

set_option maxRecDepth 100000 in
set_option maxHeartbeats 8000000 in
theorem bare13_any {L : List Nd} {w : World} {a : Option Addr} {len cap : Nat} (hlen : L.length = len) (hL : NAt w.heap.size w a L) (hm : len ≤ 2600000000000) (TT : Tabs w) :
    Calls Tryz.prog 13 #[.slice a len cap] w fun e w' => BOut L w w' e ∧ Fr [] w w' := by
  have C := check_any w.heap.size L w a len cap hlen hL hm (Nat.le_refl _) TT
  unfold cOut at C
  have HLN := hidC hlen
  have HL := hidC hL
  have HCK : Hid (∀ p, checkL L = (p, 0) → Ahead L ∧ 0 < L.length ∧ L.length ≤ 50000 ∧ Shp L ∧ (∀ n, (kN L n).length ≤ 50000)) := fun p h => by
    obtain ⟨hA, hp, h5, _, _⟩ := tree_once h
    obtain ⟨T, hn, _⟩ := check_zero h
    refine ⟨hA, hp, h5, shp_of hn, fun n => ?_⟩
    cases hx : L[n]? with
    | none => unfold kN; rw [hx]; simp
    | some x =>
      rw [kN_some hx, List.length_map]
      have := kids_few hn hx
      have := (List.getElem?_eq_some_iff.1 hx).1
      omega
  have HO : Hid (∀ w' e, BOut L w w' e ↔ if (checkL L).2 ≠ 0 then e = .returned (.tuple #[.slice none 0 0, .int .i64 ((checkL L).2 : Nat)]) else ∃ (a : Option Addr) (c : Nat) (O : List Nd), e = .returned (.tuple #[.slice a O.length c, .int .i64 0]) ∧ O.map nb = (bareP L L.length).2 ∧ BM w' w.heap.size (.slice a O.length c) O) := fun w' e => Iff.rfl
  generalize hck : checkL L = ck at *
  obtain ⟨pc, er⟩ := ck
  simp only at *
  clear hL TT hlen hck
  go_enter Tryz.func13, Tryz.ntmps13
  go_wp2_with fail
  refine C.mono ?_
  rintro e w1 ⟨rfl, f1⟩
  clear C
  by_cases h0 : er = 0
  · subst h0
    obtain ⟨hA, hp0, h5, hS, hkf⟩ := HCK.out pc rfl
    have hlm : len ≤ 50000 := by have := HLN.out; omega
    have hlI : (len : Int) ≤ 50000 := by omega
    have HL1 := hidC (HL.out.fr f1 (by simp))
    have hmk := make_ints w1 len (by omega)
    have I2 : IB (w1.alloc (.cells ((List.replicate len (0 : Int)).map (Value.int .i64)).toArray 3)) w1.heap.size (List.replicate len 0) := heap_alloc_new w1 _
    have f2 : Fr [] w1 (w1.alloc (.cells ((List.replicate len (0 : Int)).map (Value.int .i64)).toArray 3)) := (Fr.refl _ _).alloc _
    generalize w1.alloc (.cells ((List.replicate len (0 : Int)).map (Value.int .i64)).toArray 3) = w2 at *
    have F2 := f1.trans f2
    have C24 := ofm_any (cap := cap) HLN.out (HL1.out.fr f2 (by simp)) hlm hA F2.size hkf
    have HI2 := hidC I2
    have HA := hidC hA
    have HSH := hidC hS
    have HKF := hidC hkf
    have HG1 : Hid (w1.heap.size < w2.heap.size ∧ w.heap.size ≤ w1.heap.size) := ⟨I2.lt, f1.size⟩
    clear I2 hA hS hkf h5 hp0
    go_wp2_with fail
    refine C24.mono ?_
    rintro e w3 ⟨rfl, hT3, f3⟩
    have HI3 := hidC (HI2.out.fr f3 (by simp))
    have HT3 := hidC hT3
    have F3 := F2.trans f3
    have HL3 := hidC ((HL1.out.fr f2 (by simp)).fr f3 (by simp))
    have HF3 := hidC F3
    have HG2 : Hid (w2.heap.size < w3.heap.size) := hT3.lt
    clear C24 hT3 f3 F2 f2 f1 HI2 HL1 hmk HCK F3
    generalize hgn : w1.heap.size = gn at *
    generalize hgm : w2.heap.size = gm at *
    clear hgn hgm
    obtain ⟨i55, hi55, hz55, hs55, hb55⟩ := info_parts info55o
    have HMK : Hid ((markL L len).length = len) := by unfold Hid; rw [markL_len]; exact HLN.out
    have HST : Hid (∀ p, bareP L (p + 1) = bareS L (markL L len) p (bareP L p)) := fun p => by rw [bareP, HLN.out]
    generalize markL L len = MK at *
    go_wp2
    go_loopw [6, 9, 10, 26] (fun bv _ _ ix wr => ∃ p : Nat, p ≤ len ∧ ix = .int .i64 p ∧ Fr [gn] w3 wr ∧ ∃ D O, IB wr gn D ∧ TB wr gm MK ∧ BM wr w3.heap.size bv O ∧ Hid ((D, O.map nb) = bareP L p)) (fun _ _ _ ix _ => len - (intOf ix).toNat)
    case atStart => exact ⟨0, Nat.zero_le _, rfl, Fr.refl _ _, _, [], HI3.out, HT3.out, BM.nil _ _, by unfold Hid; rw [bareP, HLN.out]; rfl⟩
    case round =>
      clear HI3 HT3
      obtain ⟨p, hp, rfl, fw, D, O, hD, hT, hO, he⟩ := hrel
      obtain ⟨ba, bc, rfl, _⟩ := own_slice hO.row
      have hDl : D.length = len := by have := (bareP_len L p).1; rw [← he.out] at this; rw [← HLN.out]; exact this
      have hOl : O.length ≤ p := by have := (bareP_len L p).2; rw [← he.out] at this; simpa using this
      have HDL := hidC hDl
      have HOL := hidC hOl
      have hOI : (O.length : Int) ≤ 50000 := by omega
      have hg1 := HG1.out
      have hg2 := HG2.out
      by_cases hlt : p < len
      · have hpI : (p : Int) < len := by omega
        have hpl : p < L.length := by rw [HLN.out]; exact hlt
        have hx : L[p]? = some L[p] := List.getElem?_eq_getElem hpl
        generalize L[p] = x at hx
        have HS : Hid (bareP L (p + 1) = if MK.getD p false then (D.set p (-1), O.map nb) else if x.kind = 29 then (D.set p (D.getD (x.ks.headD 0).toNat 0), O.map nb) else (D.set p O.length, O.map nb ++ [⟨x.kind, x.text, none, 0, renL (D.set p O.length) x.ks, x.pl⟩])) := by
          unfold Hid
          rw [HST.out, ← he.out, bareS, hx]
          simp only [List.length_map]
        have hkm : x.ks.length ≤ 50000 := by have := HKF.out p; rw [kN_some hx, List.length_map] at this; exact this
        have HKS : Hid (∀ k ∈ x.ks, 0 ≤ k ∧ k < len) := fun k hk => by obtain ⟨q0, q1⟩ := HA.out p x hx k hk; exact ⟨q0, by omega⟩
        have H29 : Hid (x.kind = 29 → ∃ z, x.ks = [z]) := fun h => by obtain ⟨z, hz, _⟩ := HSH.out.one hx (by omega); exact ⟨z, hz⟩
        obtain ⟨b, o, rfl, hb, hc⟩ := (HL3.out.fr fw (by simp; omega)) p x hx
        have F5 : Fr [] wr (wr.alloc (.cells #[.int .i64 x.kind, .string x.text, .slice x.a x.ks.length x.c, .int .i64 x.pl] 55)) := (Fr.refl _ _).alloc _
        have bx := heap_alloc_new wr (.cells #[.int .i64 x.kind, .string x.text, .slice x.a x.ks.length x.c, .int .i64 x.pl] 55)
        have HT5 := hidC (hT.fr F5 (by simp))
        have HD5 := hidC (hD.fr F5 (by simp))
        have HO5 := hidC (hO.fr F5 (by simp))
        have HFW := hidC (fw.trans (F5.sub (by simp)))
        have ng : b ≠ wr.heap.size := by have := World.block_lt_of_cell? wr _ hc.c0; simp only at this; omega
        have HK5 := hidC (hc.k.fr F5 (by simp))
        have HTX := hidC hc.t
        have HOB : Hid ((∀ k, (Value.slice ba O.length bc).ownBlock = some k → k < wr.heap.size) ∧ ∀ y ∈ O, ∀ k, (Value.slice y.a y.ks.length y.c).ownBlock = some k → k < wr.heap.size) := ⟨fun k hk => (hO.row.lt k hk).2, fun y hy k hk => ((hO.kid y hy).lt k hk).2⟩
        have HNG : Hid (gn ≠ wr.heap.size ∧ gm ≠ wr.heap.size ∧ w3.heap.size ≤ wr.heap.size) := ⟨by have := hD.lt; omega, by have := hT.lt; omega, fw.size⟩
        obtain ⟨c0, c1, c2, c3, _, _, _, _, _⟩ := hc
        have kI : (x.ks.length : Int) ≤ 50000 := by omega
        have t0 := HT5.out.cell (i := p) (by rw [HMK.out]; exact hlt)
        have e0 := at_cells bx 0 rfl
        have e2 := at_cells bx 2 rfl
        have hdp : D[p]? = some (D.getD p 0) := by simp [List.getD, List.getElem?_eq_getElem (show p < D.length by omega)]
        have dp := HD5.out.cell hdp
        have dz := HD5.out.fz p
        obtain ⟨n1, n2, n3⟩ := HNG.out
        obtain ⟨xk, xt, xa, xc, xks, xpl⟩ := x
        simp only at *
        clear hx hpl hT hD hO fw F5 he hDl hOl hdp
        cases hmk : MK.getD p false with
        | true =>
          rw [hmk] at t0 HS
          have HS2 : Hid (bareP L (p + 1) = (D.set p (-1), O.map nb)) := HS.out
          have fS : Fr [gn] (wr.alloc (.cells #[.int .i64 xk, .string xt, .slice xa xks.length xc, .int .i64 xpl] 55)) ((wr.alloc (.cells #[.int .i64 xk, .string xt, .slice xa xks.length xc, .int .i64 xpl] 55)).setCell ⟨gn, p, none⟩ (.int .i64 (-1))) := (Fr.refl _ _).setCell (.inl (by simp)) _
          have HD6 := hidC (HD5.out.set p (-1))
          have HT6 := hidC (HT5.out.fr fS (by simp; omega))
          have HO6 := hidC (HO5.out.fr fS (by simp; omega))
          have HF6 := hidC (HFW.out.trans fS)
          clear fS HS hmk
          go_wp2
          go_roundw
          case rel => exact ⟨p + 1, hlt, by go_num, HF6.out, _, O, HD6.out, HT6.out, HO6.out, HS2.out.symm⟩
          case measure => simp [intOf]; omega
        | false =>
          rw [hmk] at t0 HS
          clear hmk
          by_cases h29 : xk = 29
          · subst h29
            obtain ⟨z, rfl⟩ := H29.out rfl
            have HS2 : Hid (bareP L (p + 1) = (D.set p (D.getD z.toNat 0), O.map nb)) := HS.out
            simp only [List.length_cons, List.length_nil, Nat.zero_add] at *
            obtain ⟨z0, z1⟩ := HKS.out z (by simp)
            obtain ⟨b2, o2, ea, hb2, hc2⟩ := HK5.out 0 z rfl
            subst ea
            rw [Nat.add_zero] at hc2
            obtain ⟨q, rfl⟩ := Int.eq_ofNat_of_zero_le z0
            rw [Int.toNat_natCast] at HS2
            have hdq : D[q]? = some (D.getD q 0) := by simp [List.getD, List.getElem?_eq_getElem (show q < D.length by have := HDL.out; omega)]
            have dq := HD5.out.cell hdq
            generalize D.getD q 0 = dv at *
            have fS : Fr [gn] (wr.alloc (.cells #[.int .i64 29, .string xt, .slice (some ⟨b2, o2, none⟩) 1 xc, .int .i64 xpl] 55)) ((wr.alloc (.cells #[.int .i64 29, .string xt, .slice (some ⟨b2, o2, none⟩) 1 xc, .int .i64 xpl] 55)).setCell ⟨gn, p, none⟩ (.int .i64 dv)) := (Fr.refl _ _).setCell (.inl (by simp)) _
            have HD6 := hidC (HD5.out.set p dv)
            have HT6 := hidC (HT5.out.fr fS (by simp; omega))
            have HO6 := hidC (HO5.out.fr fS (by simp; omega))
            have HF6 := hidC (HFW.out.trans fS)
            have qI : (q : Int) < len := by omega
            clear fS HS hdq
            go_wp2
            go_roundw
            case rel => exact ⟨p + 1, hlt, by go_num, HF6.out, _, O, HD6.out, HT6.out, HO6.out, HS2.out.symm⟩
            case measure => simp [intOf]; omega
          · have j29 : (xk == 29) = false := by simpa using h29
            rw [if_neg (by simp), if_neg h29] at HS
            have fS : Fr [gn] (wr.alloc (.cells #[.int .i64 xk, .string xt, .slice xa xks.length xc, .int .i64 xpl] 55)) ((wr.alloc (.cells #[.int .i64 xk, .string xt, .slice xa xks.length xc, .int .i64 xpl] 55)).setCell ⟨gn, p, none⟩ (.int .i64 (O.length : Nat))) := (Fr.refl _ _).setCell (.inl (by simp)) _
            have HD6 := hidC (HD5.out.set p (O.length : Nat))
            have HT6 := hidC (HT5.out.fr fS (by simp; omega))
            have HO6 := hidC (HO5.out.fr fS (by simp; omega))
            have HF6 := hidC (HFW.out.trans fS)
            have bx6 := (fS.block _ (Array.getElem?_eq_some_iff.1 bx).1 (by simp; omega)).trans bx
            have f20 := at_cells bx6 0 rfl
            have f21 := at_cells bx6 1 rfl
            have f22 := at_cells bx6 2 rfl
            have f23 := at_cells bx6 3 rfl
            have HK6 := hidC (HK5.out.fr fS (by simp; omega))
            have C25 := ren_any (kc := xc) (gc := len) HK6.out rfl hkm HD6.out (by rw [List.length_set]; exact HDL.out) hlm HKS.out
            have hsz6 : ((wr.alloc (.cells #[.int .i64 xk, .string xt, .slice xa xks.length xc, .int .i64 xpl] 55)).setCell ⟨gn, p, none⟩ (.int .i64 (O.length : Nat))).heap.size = wr.heap.size + 1 := by simp
            have HSZ6 := hidC hsz6
            clear hsz6 fS HT5 HD5 HO5 HFW HK5 bx
            go_wp2_with fail
            generalize (wr.alloc (.cells #[.int .i64 xk, .string xt, .slice xa xks.length xc, .int .i64 xpl] 55)).setCell ⟨gn, p, none⟩ (.int .i64 (O.length : Nat)) = W6 at *
            refine C25.mono ?_
            rintro e w7 ⟨nv, rfl, hn, f7⟩
            obtain ⟨na, nc, rfl, _⟩ := own_slice hn
            have bx7 := (f7.block _ (Array.getElem?_eq_some_iff.1 bx6).1 (by simp)).trans bx6
            have g0 := at_cells bx7 0 rfl
            have g1 := at_cells bx7 1 rfl
            have g2 := at_cells bx7 2 rfl
            have g3 := at_cells bx7 3 rfl
            have gz : ∀ i, w7.frozen? ⟨wr.heap.size, i, none⟩ = false := fun i => by simp [World.frozen?, bx7]
            generalize hrl : (renL (D.set p (O.length : Nat)) xks).length = rl at *
            have HRL : Hid (rl ≤ 50000) := by have := renL_len (D.set p (O.length : Nat)) xks; rw [hrl] at this; unfold Hid; omega
            have fS7 : Fr [wr.heap.size] w7 (w7.setCell ⟨wr.heap.size, 2, none⟩ (.slice na rl nc)) := (Fr.refl _ _).setCell (.inl (by simp)) _
            have bx8 := set4_2 (v := .slice na rl nc) bx7
            have h80 := at_cells bx8 0 rfl
            have h81 := at_cells bx8 1 rfl
            have h82 := at_cells bx8 2 rfl
            have h83 := at_cells bx8 3 rfl
            have HD8 := hidC ((HD6.out.fr f7 (by simp)).fr fS7 (by simp; omega))
            have HT8 := hidC ((HT6.out.fr f7 (by simp)).fr fS7 (by simp; omega))
            have HO7 := HO6.out.fr f7 (by simp)
            have HO8 : Hid (BM (w7.setCell ⟨wr.heap.size, 2, none⟩ (.slice na rl nc)) w3.heap.size (.slice ba O.length bc) O) := ⟨own_fr HO7.row fS7 (fun k hk => by have := HOB.out.1 k hk; simp; omega), fun y hy => own_fr (HO7.kid y hy) fS7 (fun k hk => by have := HOB.out.2 y hy k hk; simp; omega), HO7.tx⟩
            have HN8 := hidC (own_fr hn fS7 (fun k hk => by have := (hn.lt k hk).1; have := HSZ6.out; simp; omega))
            have HF8 := hidC ((HF6.out.trans (f7.sub (by simp))).over' fS7 (by simp; omega))
            have HS8 : Hid (w3.heap.size ≤ (w7.setCell ⟨wr.heap.size, 2, none⟩ (.slice na rl nc)).heap.size ∧ (w7.setCell ⟨wr.heap.size, 2, none⟩ (.slice na rl nc)).heap.size = w7.heap.size ∧ wr.heap.size + 1 ≤ w7.heap.size) := by
              have h1 := f7.size
              have h2 := HSZ6.out
              unfold Hid
              refine ⟨by simp; omega, by simp, by omega⟩
            have hnew : ∀ j u, [Value.int .i64 xk, .string xt, .slice na rl nc, .int .i64 xpl][j]? = some u → ((w7.setCell ⟨wr.heap.size, 2, none⟩ (.slice na rl nc)).alloc (.cells #[.int .i64 xk, .string xt, .slice na rl nc, .int .i64 xpl] 55)).cell? ((⟨w7.heap.size, 0, none⟩ : Addr).add j) = some u := by
              have := new_four (w7.setCell ⟨wr.heap.size, 2, none⟩ (.slice na rl nc)) (.int .i64 xk) (.string xt) (.slice na rl nc) (.int .i64 xpl) 55
              rw [HS8.out.2.1] at this
              exact this
            have HRLE := hidC hrl
            clear hrl hn f7 bx6 bx7 bx8 fS7 HO7 HO6 HD6 HT6 HF6 C25 f20 f21 f22 f23 HK6 e0 e2 c0 c1 c2 c3 t0 dp dz
            go_wp2_with (at_builtin; refine wpList_append_own_at _ rfl _ _ 23 rfl w3.heap.size 55 i55 _ 4 56 under23o hi55 hz55 hs55 hb55 rfl (by decide) (.slice ba O.length bc) O.length (flatO O) rfl (HO8.out.row.alloc _) ⟨w7.heap.size, 0, none⟩ 1 1 [.int .i64 xk, .string xt, .slice na rl nc, .int .i64 xpl] rfl rfl hnew (by simp [Value.oneCell']) (by have := HOL.out; unfold maxLen; omega) (by have := HOL.out; omega) (by have := HS8.out; simp at this ⊢; omega) ?_)
            intro v9 w9 hown9 hgrow hnil hloc
            have f9 : Fr (Value.slice ba O.length bc).ownBlock.toList (w7.setCell ⟨wr.heap.size, 2, none⟩ (.slice na rl nc)) w9 := ((Fr.refl _ _).alloc _).trans ((Fr.ofGrown hgrow).sub (fun k hk => .inl hk))
            have HROW : Hid (BM w9 w3.heap.size v9 (O ++ [⟨xk, xt, na, nc, renL (D.set p (O.length : Nat)) xks, xpl⟩])) := by
              refine ⟨?_, fun y hy => ?_, fun y hy => ?_⟩
              · rw [List.length_append, flatO_snoc]
                have e : cellsO ⟨xk, xt, na, nc, renL (D.set p (O.length : Nat)) xks, xpl⟩ = [.int .i64 xk, .string xt, .slice na rl nc, .int .i64 xpl] := by simp only [cellsO, HRLE.out]
                rw [e]
                exact hown9
              · rw [List.mem_append, List.mem_singleton] at hy
                rcases hy with hy | rfl
                · exact own_fr (HO8.out.kid y hy) f9 (fun k hk hm => by simp only [Option.mem_toList] at hm; exact own_apart (HO8.out.kid y hy) HO8.out.row (by decide) k hk hm)
                · have h1 := own_fr HN8.out f9 (fun k hk hm => by simp only [Option.mem_toList] at hm; exact own_apart HN8.out HO8.out.row (by decide) k hk hm)
                  simp only
                  rw [HRLE.out]
                  exact own_base (by have := HSZ6.out; omega) h1
              · rw [List.mem_append, List.mem_singleton] at hy
                rcases hy with hy | rfl
                · exact HO8.out.tx y hy
                · exact HTX.out
            have HD9 := hidC (HD8.out.fr f9 (fun hm => by simp only [Option.mem_toList] at hm; have := (HO8.out.row.lt gn hm).1; omega))
            have HT9 := hidC (HT8.out.fr f9 (fun hm => by simp only [Option.mem_toList] at hm; have := (HO8.out.row.lt gm hm).1; omega))
            have HF9 := hidC (HF8.out.over' f9 (fun k hk => by simp only [Option.mem_toList] at hk; exact (HO8.out.row.lt k hk).1))
            obtain ⟨va, vc, rfl, _⟩ := own_slice hown9
            clear hown9 hgrow hnil hloc f9 hnew HO8 HN8 HD8 HT8 HF8 h80 h81 h82 h83 g0 g1 g2 g3 gz
            go_wp2
            go_roundw
            case rel => exact ⟨p + 1, hlt, by go_num, HF9.out, _, _, HD9.out, HT9.out, HROW.out, by unfold Hid; rw [HS.out, List.map_append]; rfl⟩
            case measure => simp [intOf]; omega
      · have hpI : ¬ (p : Int) < len := by omega
        have hpe : p = len := by omega
        subst hpe
        have HB : Hid (BM wr w.heap.size (.slice ba O.length bc) O) := ⟨own_base (by have := HF3.out.size; omega) hO.row, fun x hx => own_base (by have := HF3.out.size; omega) (hO.kid x hx), hO.tx⟩
        have HE : Hid (O.map nb = (bareP L L.length).2) := by unfold Hid; rw [HLN.out, ← he.out]
        have HFF := hidC (HF3.out.over fw (by simp; omega))
        clear he hO hD hT fw
        go_wp2
        exact bodyPost_ret (v := .tuple #[.slice ba O.length bc, .int .i64 0]) (by simp [results, Tryz.results13]) rfl ⟨(HO.out _ _).2 (by rw [if_neg (by simp)]; exact ⟨ba, bc, O, rfl, HE.out, HB.out⟩), HFF.out⟩
  · have h0' : ((er : Int) != 0) = true := by simp; omega
    go_wp2
    exact bodyPost_ret (v := .tuple #[.slice none 0 0, .int .i64 er]) (by simp [results, Tryz.results13]) rfl ⟨(HO.out _ _).2 (by rw [if_pos h0]), f1⟩
end Go.Proofs.YtnmfcaahdeddnaaGreatDoor.T5
namespace Go.Proofs.YtnmfcaahdeddnaaGreatDoor.T5
open Go.RowKit Go.Maps
set_option linter.unusedVariables false
set_option linter.unusedSimpArgs false

set_option maxRecDepth 100000 in
theorem from_any {L : List Nd} {w : World} {a : Option Addr} {len cap : Nat} (hA : Ahead L) (hlen : L.length = len) (hL : NAt w.heap.size w a L) (n : Nat) (hn : n < len) (hw : (wk L n 0).length ≤ 50000) (hm : n ≤ 50000) :
    Calls Tryz.prog 27 #[.slice a len cap, .int .i64 (n : Nat)] w fun e w' => ∃ v, e = .returned v ∧ w'.ownsRow w.heap.size 3 1 v (wk L n 0).length ((wk L n 0).map (fun t => Value.int .i64 (t.1 : Nat))) ∧ Fr [] w w' := by
  have C := refwalk w.heap.size w.heap.size L hA a len cap hlen (Nat.le_refl _) n 0 w (.slice none 0 0) (.slice none 0 0) [] hn hL (Nat.le_refl _) (Two.nil _ _) (by simpa using hw) (by omega)
  rw [List.nil_append] at C
  unfold rwOut at C
  clear hw hL hA
  go_enter Tryz.func27, Tryz.ntmps27
  go_wp2_with fail
  refine C.mono ?_
  rintro e w1 ⟨v1, v2, rfl, hT, f1, _⟩
  have HO := T5.hidC hT.o1
  obtain ⟨a1, c1, rfl, _⟩ := own_slice hT.o1
  have F1 : Fr [] w w1 := f1.sub (fun k hk => by simp [twoB, Value.ownBlock] at hk)
  clear hT C f1
  go_wp2
  go_ret
  exact ⟨_, rfl, HO.out, F1⟩

def goneL (L : List Nd) : Nat → List Bool
  | 0 => List.replicate L.length false
  | p + 1 => let T := if kdN L p = 13 then setAll (goneL L p) (wn L p 0) else goneL L p
    T.set p (T.getD p false || decide (kdN L p = 29))
theorem goneL_len (L : List Nd) : ∀ p, (goneL L p).length = L.length
  | 0 => by simp [goneL]
  | p + 1 => by
    unfold goneL
    simp only [List.length_set]
    split
    · rw [setAll_len, goneL_len L p]
    · exact goneL_len L p
/-- New numbers, and the nodes that are left, by the document. -/
def rbareS (L : List Nd) (G : List Bool) (p : Nat) (s : List Int × List Nd) : List Int × List Nd := match L[p]? with
  | none => s
  | some x => if x.kind = 29 then (s.1.set p (s.1.getD (x.ks.headD 0).toNat 0), s.2)
    else if G.getD p false then s
    else (s.1.set p s.2.length, s.2 ++ [⟨x.kind, x.text, none, 0, (x.ks.filter (fun k => kdN L k.toNat != 13)).map (fun k => s.1.getD k.toNat 0), x.pl⟩])
def rbareP (L : List Nd) : Nat → List Int × List Nd
  | 0 => (List.replicate L.length 0, [])
  | p + 1 => rbareS L (goneL L L.length) p (rbareP L p)
theorem rbareP_len (L : List Nd) : ∀ p, (rbareP L p).1.length = L.length ∧ (rbareP L p).2.length ≤ p
  | 0 => by simp [rbareP]
  | p + 1 => by
    obtain ⟨h1, h2⟩ := rbareP_len L p
    rw [rbareP]
    unfold rbareS
    split
    · exact ⟨h1, by omega⟩
    · split
      · exact ⟨by simp [h1], by simp; omega⟩
      · split
        · exact ⟨h1, by omega⟩
        · exact ⟨by simp [h1], by simp; omega⟩

/-! Both are the same, of a tree. -/
theorem setAll_get (T : List Bool) (i : Nat) : ∀ l, (setAll T l).getD i false = (T.getD i false || (decide (i < T.length) && l.contains i))
  | [] => by simp [setAll]
  | k :: r => by
    rw [setAll, setAll_get _ i r, List.length_set]
    by_cases hik : i = k
    · subst hik
      by_cases hl : i < T.length
      · simp [List.getD, List.getElem?_set_self hl, hl]
      · simp [List.getD, hl, List.getElem?_eq_none (show T.length ≤ i by omega)]
    · have : (T.set k true).getD i false = T.getD i false := by simp [List.getD, List.getElem?_set_ne (fun e => hik e.symm)]
      rw [this]
      have : (k :: r).contains i = r.contains i := by simp [hik]
      rw [this]
termination_by l => l.length
theorem set_getD {α : Type} {l : List α} {p i : Nat} {v d : α} : (l.set p v).getD i d = if p = i ∧ i < l.length then v else l.getD i d := by
  by_cases h : p = i
  · subst h
    by_cases hl : p < l.length
    · simp [List.getD, List.getElem?_set_self hl, hl]
    · simp [List.getD, hl, List.getElem?_eq_none (show l.length ≤ p by omega)]
  · simp [List.getD, List.getElem?_set_ne h, h]
/-- Marked: a merge, or a name within one. -/
theorem mark_get (L : List Nd) (i : Nat) (hi : i < L.length) : ∀ p, (markL L p).getD i false = decide (∃ m, m < p ∧ kdN L m = 13 ∧ (i = m ∨ i ∈ kN L m))
  | 0 => by simp [markL, List.getD, hi]
  | p + 1 => by
    have ih := mark_get L i hi p
    unfold markL
    split
    · rename_i h13
      rw [setAll_get, List.length_set, markL_len, set_getD, markL_len]
      rw [ih]
      rw [Bool.eq_iff_iff]
      simp only [Bool.or_eq_true, Bool.and_eq_true, decide_eq_true_eq, List.contains_iff_mem, hi, true_and, and_true]
      constructor
      · rintro (h | h)
        · split at h
          · rename_i e; exact ⟨p, by omega, h13, .inl e.symm⟩
          · obtain ⟨m, h1, h2⟩ := of_decide_eq_true h; exact ⟨m, by omega, h2⟩
        · exact ⟨p, by omega, h13, .inr h⟩
      · rintro ⟨m, hm, h2, h3⟩
        by_cases e : m = p
        · subst e
          rcases h3 with rfl | h3
          · left; simp
          · right; exact h3
        · left
          split
          · rfl
          · exact decide_eq_true ⟨m, by omega, h2, h3⟩
    · rename_i h13
      rw [ih, Bool.eq_iff_iff]
      simp only [decide_eq_true_eq]
      constructor
      · rintro ⟨m, h1, h2⟩; exact ⟨m, by omega, h2⟩
      · rintro ⟨m, h1, h2, h3⟩
        exact ⟨m, by rcases Nat.lt_succ_iff_lt_or_eq.1 h1 with h | rfl; exact h; exact absurd h2 h13, h2, h3⟩
end Go.Proofs.YtnmfcaahdeddnaaGreatDoor.T5
namespace Go.Proofs.YtnmfcaahdeddnaaGreatDoor.T5
open Go.RowKit Go.Maps
set_option linter.unusedVariables false
set_option linter.unusedSimpArgs false

theorem sumN_ge {f : Nat → Nat} : ∀ {n a : Nat}, a < n → f a ≤ sumN n f
  | 0, a, h => by omega
  | n + 1, a, h => by
    simp only [sumN]
    by_cases e : a = n
    · subst e; omega
    · have := sumN_ge (f := f) (n := n) (a := a) (by omega); omega
theorem sumN_two {f : Nat → Nat} : ∀ {n a b : Nat}, a < b → b < n → f a + f b ≤ sumN n f
  | 0, a, b, h, hb => by omega
  | n + 1, a, b, h, hb => by
    simp only [sumN]
    by_cases e : b = n
    · subst e
      have := sumN_ge (f := f) h
      omega
    · have := sumN_two (f := f) (n := n) h (by omega)
      omega
/-- A node is the kid of one node alone. -/
theorem one_parent {L : List Nd} {T : List Bool} (h : nodesL L L.length = .ok T) {m n k : Nat} (hm : k ∈ kN L m) (hn : k ∈ kN L n) : m = n := by
  have hl : ∀ {m}, k ∈ kN L m → m < L.length := fun {m} h => by
    obtain ⟨x, q, hx, _⟩ := mem_kN h
    exact (List.getElem?_eq_some_iff.1 hx).1
  have hb : ∀ b, b2n b ≤ 1 := by intro b; cases b <;> decide
  have hs := nodes_count _ _ h (Nat.le_refl _) k
  have h1 := hb (T.getD k false)
  have c1 := List.count_pos_iff.2 hm
  have c2 := List.count_pos_iff.2 hn
  rcases Nat.lt_trichotomy m n with e | e | e
  · have := sumN_two (f := fun i => (kN L i).count k) e (hl hn)
    omega
  · exact e
  · have := sumN_two (f := fun i => (kN L i).count k) e (hl hm)
    omega
theorem flat_single {α : Type} : ∀ (l : List Nat) (g : Nat → List α) (f : Nat → α), (∀ k ∈ l, g k = [f k]) → l.flatMap g = l.map f
  | [], g, f, _ => rfl
  | k :: r, g, f, h => by
    rw [List.flatMap_cons, h k (by simp), flat_single r g f (fun j hj => h j (by simp [hj]))]
    rfl
theorem wn_merge {L : List Nd} (hA : Ahead L) (S : Shp L) {m : Nat} (h : kdN L m = 13) : wn L m 0 = m :: kN L m := by
  obtain ⟨x, hx, hk⟩ := kdN_some h (by decide)
  rw [wn_eq hA, flat_single (kN L m) _ (fun k => k) (fun k hk' => ?_)]
  · simp
  · obtain ⟨y, q, hy, hq, rfl⟩ := mem_kN hk'
    rw [hx] at hy
    cases hy
    have h17 := S.rec_ hx (.inr hk) q hq
    rw [kd_kdN] at h17
    unfold wn
    rw [wk_names hA S h17]
    rfl
theorem gone_get {L : List Nd} (hA : Ahead L) (S : Shp L) (i : Nat) (hi : i < L.length) : ∀ p, p ≤ L.length → (goneL L p).getD i false = (decide (∃ m, m < p ∧ kdN L m = 13 ∧ (i = m ∨ i ∈ kN L m)) || decide (i < p ∧ kdN L i = 29))
  | 0, _ => by simp [goneL, List.getD, hi]
  | p + 1, hp => by
    have ih := gone_get hA S i hi p (by omega)
    have hT : (if kdN L p = 13 then setAll (goneL L p) (wn L p 0) else goneL L p).getD i false = (decide (∃ m, m < p + 1 ∧ kdN L m = 13 ∧ (i = m ∨ i ∈ kN L m)) || decide (i < p ∧ kdN L i = 29)) := by
      split
      · rename_i h13
        rw [setAll_get, ih, goneL_len, wn_merge hA S h13, Bool.eq_iff_iff]
        simp only [Bool.or_eq_true, Bool.and_eq_true, decide_eq_true_eq, List.contains_iff_mem, List.mem_cons, hi, true_and]
        constructor
        · rintro ((⟨m, h1, h2⟩ | h) | h)
          · exact .inl ⟨m, by omega, h2⟩
          · exact .inr h
          · exact .inl ⟨p, by omega, h13, h⟩
        · rintro (⟨m, h1, h2, h3⟩ | h)
          · by_cases e : m = p
            · subst e; exact .inr h3
            · exact .inl (.inl ⟨m, by omega, h2, h3⟩)
          · exact .inl (.inr h)
      · rename_i h13
        rw [ih, Bool.eq_iff_iff]
        simp only [Bool.or_eq_true, decide_eq_true_eq]
        constructor
        · rintro (⟨m, h1, h2⟩ | h)
          · exact .inl ⟨m, by omega, h2⟩
          · exact .inr h
        · rintro (⟨m, h1, h2, h3⟩ | h)
          · by_cases e : m = p
            · subst e; exact absurd h2 h13
            · exact .inl ⟨m, by omega, h2, h3⟩
          · exact .inr h
    have hTl : (if kdN L p = 13 then setAll (goneL L p) (wn L p 0) else goneL L p).length = L.length := by
      split
      · rw [setAll_len, goneL_len]
      · exact goneL_len L p
    unfold goneL
    simp only
    generalize (if kdN L p = 13 then setAll (goneL L p) (wn L p 0) else goneL L p) = T1 at *
    rw [set_getD]
    split
    · rename_i e
      obtain ⟨rfl, _⟩ := e
      rw [hT, Bool.eq_iff_iff]
      simp only [Bool.or_eq_true, decide_eq_true_eq]
      constructor
      · rintro ((h | ⟨h, _⟩) | h)
        · exact .inl h
        · omega
        · exact .inr ⟨by omega, h⟩
      · rintro (h | ⟨_, h⟩)
        · exact .inl (.inl h)
        · exact .inr h
    · rename_i e
      rw [hT, Bool.eq_iff_iff]
      simp only [Bool.or_eq_true, decide_eq_true_eq]
      rw [hTl] at e
      constructor
      · rintro (h | ⟨h, h2⟩)
        · exact .inl h
        · exact .inr ⟨by omega, h2⟩
      · rintro (h | ⟨h, h2⟩)
        · exact .inl h
        · exact .inr ⟨by omega, h2⟩

/-- What is marked in the end. -/
abbrev Mk (L : List Nd) (i : Nat) : Prop := ∃ m, m < L.length ∧ kdN L m = 13 ∧ (i = m ∨ i ∈ kN L m)
theorem mk_kid {L : List Nd} {T : List Bool} (hn : nodesL L L.length = .ok T) {n k : Nat} (hk : k ∈ kN L n) (h : Mk L k) : kdN L k = 13 ∨ kdN L n = 13 := by
  obtain ⟨m, _, h2, rfl | h3⟩ := h
  · exact .inl h2
  · rw [one_parent hn hk h3]; exact .inr h2
theorem both_same {L : List Nd} {T : List Bool} (hn : nodesL L L.length = .ok T) (hA : Ahead L) (S : Shp L) : ∀ p, p ≤ L.length → (bareP L p).2 = (rbareP L p).2 ∧ (∀ i, i < p → Mk L i → (bareP L p).1.getD i 0 = -1) ∧ (∀ i, i < p → ¬ Mk L i → (bareP L p).1.getD i 0 = (rbareP L p).1.getD i 0 ∧ 0 ≤ (bareP L p).1.getD i 0)
  | 0, _ => ⟨rfl, fun i hi => by omega, fun i hi => by omega⟩
  | p + 1, hp => by
    obtain ⟨h1, h2, h3⟩ := both_same hn hA S p (by omega)
    have hpl : p < L.length := by omega
    have hx : L[p]? = some L[p] := List.getElem?_eq_getElem hpl
    generalize L[p] = x at hx
    have hl1 := (bareP_len L p).1
    have hl2 := (rbareP_len L p).1
    have hM : (markL L L.length).getD p false = decide (Mk L p) := mark_get L p hpl _
    have hG : (goneL L L.length).getD p false = (decide (Mk L p) || decide (x.kind = 29)) := by
      rw [gone_get hA S p hpl _ (Nat.le_refl _), Bool.eq_iff_iff]
      simp only [Bool.or_eq_true, decide_eq_true_eq, hpl, true_and, kdN_of hx]
    rw [bareP, rbareP]
    unfold bareS rbareS
    rw [hx]
    simp only [hM, hG]
    have hkid : ∀ q ∈ x.ks, q.toNat ∈ kN L p := fun q hq => by rw [kN_some hx]; exact List.mem_map.2 ⟨q, hq, rfl⟩
    have hlt : ∀ q ∈ x.ks, q.toNat < p := fun q hq => hA.kid (hkid q hq)
    by_cases hm : Mk L p
    · -- marked: a merge or a name
      have h29 : x.kind ≠ 29 := fun h29 => by
        obtain ⟨m, _, hm13, rfl | hmem⟩ := hm
        · rw [kdN_of hx, h29] at hm13; exact absurd hm13 (by decide)
        · obtain ⟨y, hy, hyk⟩ := kdN_some hm13 (by decide)
          obtain ⟨y', q, hy', hq, e⟩ := mem_kN hmem
          rw [hy] at hy'
          cases hy'
          have h17 := S.rec_ hy (.inr hyk) q hq
          rw [kd_kdN, e, kdN_of hx, h29] at h17
          exact absurd h17 (by decide)
      rw [if_pos (decide_eq_true hm), if_neg h29, if_pos (by simp [hm])]
      refine ⟨h1, fun i hi hmi => ?_, fun i hi hmi => ?_⟩
      · rw [set_getD]
        split
        · rfl
        · exact h2 i (by rename_i e; rw [hl1] at e; omega) hmi
      · have hip : i ≠ p := fun e => hmi (e ▸ hm)
        rw [set_getD, if_neg (by omega)]
        exact h3 i (by omega) hmi
    · rw [if_neg (by simp [hm])]
      by_cases h29 : x.kind = 29
      · rw [if_pos h29, if_pos h29]
        obtain ⟨z, hz, hzk⟩ := S.one hx (by omega)
        have hzm : z ∈ x.ks := by rw [hz]; simp
        have hzn : ¬ Mk L z.toNat := fun h => by
          rcases mk_kid hn (hkid z hzm) h with h | h
          · rw [kd_kdN, h] at hzk; exact absurd hzk (by decide)
          · rw [kdN_of hx, h29] at h; exact absurd h (by decide)
        have hzv := h3 z.toNat (hlt z hzm) hzn
        have ehd : x.ks.headD 0 = z := by rw [hz]; rfl
        rw [ehd]
        refine ⟨h1, fun i hi hmi => ?_, fun i hi hmi => ?_⟩
        · have hip : i ≠ p := fun e => hm (e ▸ hmi)
          rw [set_getD, if_neg (by omega)]
          exact h2 i (by omega) hmi
        · rw [set_getD, set_getD, hl1, hl2]
          split
          · exact hzv
          · exact h3 i (by omega) hmi
      · rw [if_neg h29, if_neg h29, if_neg (by simp [hm, h29])]
        have hn13 : kdN L p ≠ 13 := fun h => hm ⟨p, hpl, h, .inl rfl⟩
        have ekid : renL ((bareP L p).1.set p ((bareP L p).2.length : Nat)) x.ks = (x.ks.filter (fun k => kdN L k.toNat != 13)).map (fun k => (rbareP L p).1.getD k.toNat 0) := by
          unfold renL
          have e0 : ∀ k ∈ x.ks, ((bareP L p).1.set p ((bareP L p).2.length : Nat)).getD k.toNat 0 = (bareP L p).1.getD k.toNat 0 := fun k hk => by
            rw [set_getD, if_neg (by have := hlt k hk; omega)]
          have e1 : ∀ k ∈ x.ks, ((((bareP L p).1.set p ((bareP L p).2.length : Nat)).getD k.toNat 0) != -1) = (kdN L k.toNat != 13) := fun k hk => by
            rw [e0 k hk]
            by_cases h13 : kdN L k.toNat = 13
            · have hkl : k.toNat < L.length := by have := hlt k hk; omega
              rw [h2 k.toNat (hlt k hk) ⟨k.toNat, hkl, h13, .inl rfl⟩]
              simp [h13]
            · have hnk : ¬ Mk L k.toNat := fun h => by
                rcases mk_kid hn (hkid k hk) h with h | h
                · exact h13 h
                · exact hn13 h
              have := (h3 k.toNat (hlt k hk) hnk).2
              have e2 : ((bareP L p).1.getD k.toNat 0 != -1) = true := by simp; simp at this; omega
              rw [e2]
              simp [h13]
          rw [List.filter_congr e1]
          refine List.map_congr_left (fun k hk => ?_)
          obtain ⟨hk1, hk2⟩ := List.mem_filter.1 hk
          rw [e0 k hk1]
          have h13 : kdN L k.toNat ≠ 13 := by simpa using hk2
          have hnk : ¬ Mk L k.toNat := fun h => by
            rcases mk_kid hn (hkid k hk1) h with h | h
            · exact h13 h
            · exact hn13 h
          exact (h3 k.toNat (hlt k hk1) hnk).1
        refine ⟨by rw [h1] at ekid ⊢; rw [ekid], fun i hi hmi => ?_, fun i hi hmi => ?_⟩
        · have hip : i ≠ p := fun e => hm (e ▸ hmi)
          rw [set_getD, if_neg (by omega)]
          exact h2 i (by omega) hmi
        · rw [set_getD, set_getD, hl1, hl2, h1]
          split
          · exact ⟨rfl, by omega⟩
          · have := h3 i (by omega) hmi
            exact this
theorem bare_same {L : List Nd} {p : Nat} (hc : checkL L = (p, 0)) : (bareP L L.length).2 = (rbareP L L.length).2 := by
  obtain ⟨hA, _, _, _, _⟩ := tree_once hc
  obtain ⟨T, hn, _⟩ := check_zero hc
  exact (both_same hn hA (shp_of hn) L.length (Nat.le_refl _)).1
end Go.Proofs.YtnmfcaahdeddnaaGreatDoor.T5
namespace Go.Proofs.YtnmfcaahdeddnaaGreatDoor.T5
open Go.RowKit Go.Maps
set_option linter.unusedVariables false
set_option linter.unusedSimpArgs false

set_option maxRecDepth 100000 in
set_option maxHeartbeats 4000000 in
theorem reg29 {X : World} {yb gt len q base : Nat} {y0 y1 y3 : Value} {va : Option Addr} {vn vc : Nat} (hg : X.heap[yb]? = some (.cells #[y0, y1, .slice va vn vc, y3] 55 (0, 0))) {xs : List Value} (hso : X.ownsRow base 3 1 (.slice va vn vc) vn xs) (hsn : vn ≤ 200000) (hbase : base ≤ X.heap.size)
    {D : List Int} {dv : Int} (hD : IB X gt D) (hdv : D[q]? = some dv) (hgt : gt < base) (hql : (q : Int) < len) (hlm : len ≤ 50000) {Q : Exit → Act → World → Prop} {s0 s1 s2 s3 s4 s5 s6 s8 s9 s10 s11 s12 s13 s14 s16 s18 s19 s20 s21 s22 s23 s24 s25 s26 s27 s28 s29 s30 s31 s32 s33 s34 s35 s36 s37 s38 s39 s40 s41 s42 s43 s44 s45 s46 s47 s48 s49 s50 s51 s52 s53 s54 s55 s56 s57 s58 s59 s60 s61 s62 s63 s64 s65 s66 s67 s68 s69 s70 s71 s72 s73 s74 s75 s76 s77 s78 s79 s80 s81 s82 s83 s84 s85 s86 s87 s88 s89 s90 s91 s92 s93 s94 s95 s96 s97 s98 s99 s100 s101 s102 s103 s104 s105 s106 s107 s108 s109 s110 s111 s112 s113 s114 s115 s116 s117 s118 s119 s120 s121 s122 s123 s124 s125 s126 s127 s128 s129 s130 s131 : Value}
    (h : ∀ n111 n112 n113 n114 n115 n116 n117 n118 n119 X1 v', Fr (Value.slice va vn vc).ownBlock.toList X X1 → X1.ownsRow base 3 1 v' (vn + 1) (xs ++ [.int .i64 dv]) → Q .normal { tmps := #[s0, s1, s2, s3, s4, s5, s6, .slice (some ⟨gt, 0, none⟩) len len, s8, s9, s10, s11, s12, s13, s14, .pointer (some ⟨yb, 0, none⟩), s16, .int .i64 (q : Nat), s18, s19, s20, s21, s22, s23, s24, s25, s26, s27, s28, s29, s30, s31, s32, s33, s34, s35, s36, s37, s38, s39, s40, s41, s42, s43, s44, s45, s46, s47, s48, s49, s50, s51, s52, s53, s54, s55, s56, s57, s58, s59, s60, s61, s62, s63, s64, s65, s66, s67, s68, s69, s70, s71, s72, s73, s74, s75, s76, s77, s78, s79, s80, s81, s82, s83, s84, s85, s86, s87, s88, s89, s90, s91, s92, s93, s94, s95, s96, s97, s98, s99, s100, s101, s102, s103, s104, s105, s106, s107, s108, s109, s110, n111, n112, n113, n114, n115, n116, n117, n118, n119, s120, s121, s122, s123, s124, s125, s126, s127, s128, s129, s130, s131], defers := [] } (X1.setCell ⟨yb, 2, none⟩ v')) :
    (Code.region 29 #[{ dst := some 111, op := Op.fieldAddr 55 (Operand.tmp 15) 2, type := 0, pos := "ref.go:300", after := #[], guard := none }, { dst := some 112, op := Op.load 26 (Operand.tmp 111), type := 26, pos := "ref.go:300", after := #[{ on := 0, ground := Ground.data }], guard := none }, { dst := some 113, op := Op.move (Operand.tmp 7), type := 26, pos := "ref.go:300", after := #[], guard := none }, { dst := some 114, op := Op.move (Operand.tmp 17), type := 3, pos := "ref.go:300", after := #[], guard := none }, { dst := some 115, op := Op.indexAddr 26 (Operand.tmp 113) (Operand.tmp 114), type := 0, pos := "ref.go:300", after := #[{ on := 2, ground := Ground.data }, { on := 3, ground := Ground.data }], guard := none }, { dst := some 116, op := Op.load 3 (Operand.tmp 115), type := 3, pos := "ref.go:300", after := #[{ on := 4, ground := Ground.data }], guard := none }, { dst := some 117, op := Op.buildSlice 26 1 #[(0, Operand.tmp 116)], type := 26, pos := "ref.go:300", after := #[{ on := 5, ground := Ground.data }], guard := none }, { dst := some 118, op := Op.call { callee := Callee.builtin Builtin.append, args := #[Operand.tmp 112, Operand.tmp 117], argTypes := #[26, 26] }, type := 26, pos := "ref.go:300", after := #[{ on := 1, ground := Ground.data }, { on := 6, ground := Ground.data }], guard := none }, { dst := some 119, op := Op.fieldAddr 55 (Operand.tmp 15) 2, type := 0, pos := "ref.go:300", after := #[{ on := 0, ground := Ground.phase }, { on := 1, ground := Ground.phase }, { on := 2, ground := Ground.phase }, { on := 3, ground := Ground.phase }, { on := 4, ground := Ground.phase }, { on := 5, ground := Ground.phase }, { on := 6, ground := Ground.phase }, { on := 7, ground := Ground.phase }], guard := none }, { dst := none, op := Op.store 26 (Operand.tmp 119) (Operand.tmp 118), type := 0, pos := "ref.go:300", after := #[{ on := 8, ground := Ground.data }, { on := 7, ground := Ground.data }, { on := 7, ground := Ground.chain }, { on := 0, ground := Ground.phase }, { on := 1, ground := Ground.phase }, { on := 2, ground := Ground.phase }, { on := 3, ground := Ground.phase }, { on := 4, ground := Ground.phase }, { on := 5, ground := Ground.phase }, { on := 6, ground := Ground.phase }, { on := 7, ground := Ground.phase }], guard := none }] true).wp Tryz.prog Q { tmps := #[s0, s1, s2, s3, s4, s5, s6, .slice (some ⟨gt, 0, none⟩) len len, s8, s9, s10, s11, s12, s13, s14, .pointer (some ⟨yb, 0, none⟩), s16, .int .i64 (q : Nat), s18, s19, s20, s21, s22, s23, s24, s25, s26, s27, s28, s29, s30, s31, s32, s33, s34, s35, s36, s37, s38, s39, s40, s41, s42, s43, s44, s45, s46, s47, s48, s49, s50, s51, s52, s53, s54, s55, s56, s57, s58, s59, s60, s61, s62, s63, s64, s65, s66, s67, s68, s69, s70, s71, s72, s73, s74, s75, s76, s77, s78, s79, s80, s81, s82, s83, s84, s85, s86, s87, s88, s89, s90, s91, s92, s93, s94, s95, s96, s97, s98, s99, s100, s101, s102, s103, s104, s105, s106, s107, s108, s109, s110, s111, s112, s113, s114, s115, s116, s117, s118, s119, s120, s121, s122, s123, s124, s125, s126, s127, s128, s129, s130, s131], defers := [] } X := by
  obtain ⟨i3, hi, hz, hs2, hby⟩ := info_parts info3c
  have hqI : (q : Int) < (len : Int) := hql
  have hlI : (len : Int) ≤ 50000 := by omega
  have nS : gt ∉ yb :: (Value.slice va vn vc).ownBlock.toList := by
    intro hm
    rw [List.mem_cons] at hm
    rcases hm with rfl | hm
    · unfold IB at hD; rw [hg] at hD; injection hD with hD; injection hD with _ h3 _; exact absurd h3 (by decide)
    · rw [Option.mem_toList] at hm; have := (hso.lt gt hm).1; omega
  have tq : ∀ w', Fr (yb :: (Value.slice va vn vc).ownBlock.toList) X w' → w'.cell? ⟨gt, q, none⟩ = some (.int .i64 dv) := fun w' f => (hD.fr f nS).cell hdv
  have dc : ∀ w', Fr [] X w' → w'.cell? ⟨yb, 2, none⟩ = some (.slice va vn vc) := fun w' f => f.cell1 (at_cells hg 2 rfl) (by simp)
  clear nS hD
  refine wp_mono (Q := Plain (fun a w => Q .normal a w)) ?_ (fun e a w h => by obtain ⟨rfl, h2⟩ := h; exact h2)
  refine wp_region_held (S := fun w' => Fr (yb :: (Value.slice va vn vc).ownBlock.toList) X w') (by kernel_rfl) ?_
  change wpAnyH _ _ _ _ _ _ _ _ X.drew
  have F1 : Fr [] X X.drew := Fr.drew (Fr.refl _ X)
  have hS : Fr (yb :: (Value.slice va vn vc).ownBlock.toList) X X.drew := Fr.drew (Fr.refl _ X)
  generalize X.drew = Y at *
  refine wpAnyH_take (i := 0) (oi := { dst := some 111, op := Op.fieldAddr 55 (Operand.tmp 15) 2, type := 0, pos := "ref.go:300", after := #[], guard := none }) (v := .pointer (some ⟨yb, 2, none⟩)) rfl (by decide +kernel) (by decide +kernel) (by decide +kernel) (fun _ _ _ h => absurd h.1 (by simp)) (Or.inl ⟨by rfl, fun wq hSq => by first | rfl | go_simp⟩) hS ?_
  simp only [Act.put, List.setIfInBounds_toArray, List.set_cons_zero, List.set_cons_succ]
  refine wpAnyH_take (i := 2) (oi := { dst := some 113, op := Op.move (Operand.tmp 7), type := 26, pos := "ref.go:300", after := #[], guard := none }) (v := .slice (some ⟨gt, 0, none⟩) len len) rfl (by decide +kernel) (by decide +kernel) (by decide +kernel) (fun _ _ _ h => absurd h.1 (by simp)) (Or.inl ⟨by rfl, fun wq hSq => by first | rfl | go_simp⟩) hS ?_
  simp only [Act.put, List.setIfInBounds_toArray, List.set_cons_zero, List.set_cons_succ]
  refine wpAnyH_take (i := 3) (oi := { dst := some 114, op := Op.move (Operand.tmp 17), type := 3, pos := "ref.go:300", after := #[], guard := none }) (v := .int .i64 (q : Nat)) rfl (by decide +kernel) (by decide +kernel) (by decide +kernel) (fun _ _ _ h => absurd h.1 (by simp)) (Or.inl ⟨by rfl, fun wq hSq => by first | rfl | go_simp⟩) hS ?_
  simp only [Act.put, List.setIfInBounds_toArray, List.set_cons_zero, List.set_cons_succ]
  refine wpAnyH_take (i := 4) (oi := { dst := some 115, op := Op.indexAddr 26 (Operand.tmp 113) (Operand.tmp 114), type := 0, pos := "ref.go:300", after := #[{ on := 2, ground := Ground.data }, { on := 3, ground := Ground.data }], guard := none }) (v := .pointer (some ⟨gt, q, none⟩)) rfl (by decide +kernel) (by decide +kernel) (by decide +kernel) (fun _ _ _ h => absurd h.1 (by simp)) (Or.inl ⟨by rfl, fun wq hSq => by first | rfl | go_simp⟩) hS ?_
  simp only [Act.put, List.setIfInBounds_toArray, List.set_cons_zero, List.set_cons_succ]
  refine wpAnyH_take (i := 5) (oi := { dst := some 116, op := Op.load 3 (Operand.tmp 115), type := 3, pos := "ref.go:300", after := #[{ on := 4, ground := Ground.data }], guard := none }) (v := .int .i64 dv) rfl (by decide +kernel) (by decide +kernel) (by decide +kernel) (fun _ _ _ h => absurd h.1 (by simp)) (Or.inl ⟨by rfl, fun wq hSq => by (have q1 := tq wq hSq; go_simp)⟩) hS ?_
  simp only [Act.put, List.setIfInBounds_toArray, List.set_cons_zero, List.set_cons_succ]
  refine wpAnyH_ready (rs := [1, 6]) (by decide +kernel) (by simp) ?_
  refine AllReadyH.cons (o := { dst := some 112, op := Op.load 26 (Operand.tmp 111), type := 26, pos := "ref.go:300", after := #[{ on := 0, ground := Ground.data }], guard := none }) rfl (fun K hK => ?_) ?_
  · skip
    have q1 := dc Y F1
    go_simp
    refine hK.out _ _ hS (fun _ => ?_)
    clear hK K
    try simp only [Act.put, List.setIfInBounds_toArray, List.set_cons_zero, List.set_cons_succ]
    refine wpAnyH_ready (rs := [6]) (by decide +kernel) (by simp) ?_
    refine AllReadyH.cons (o := { dst := some 117, op := Op.buildSlice 26 1 #[(0, Operand.tmp 116)], type := 26, pos := "ref.go:300", after := #[{ on := 5, ground := Ground.data }], guard := none }) rfl (fun K hK => ?_) AllReadyH.nil
    go_simp
    have hS := hS.alloc (.cells #[.int .i64 dv] 3)
    refine hK.out _ _ hS (fun _ => ?_)
    clear hK K
    try simp only [Act.put, List.setIfInBounds_toArray, List.set_cons_zero, List.set_cons_succ]
    refine wpAnyH_ready (rs := [7]) (by decide +kernel) (by simp) ?_
    refine AllReadyH.cons (o := { dst := some 118, op := Op.call { callee := Callee.builtin Builtin.append, args := #[Operand.tmp 112, Operand.tmp 117], argTypes := #[26, 26] }, type := 26, pos := "ref.go:300", after := #[{ on := 1, ground := Ground.data }, { on := 6, ground := Ground.data }], guard := none }) rfl (fun K hK => ?_) AllReadyH.nil
    refine step_own rfl (.tmp 112) (.tmp 117) 26 rfl base 3 i3 _ 1 _ under26c hi hz hs2 hby rfl (by decide) (.slice va vn vc) vn xs rfl ((own_fr hso F1 (by simp)).alloc _) ⟨Y.heap.size, 0, none⟩ 1 1 [.int .i64 dv] rfl rfl (new_one Y _ _) (by simp [Value.oneCell']) (by unfold maxLen; omega) (by omega) (by have := F1.size; simp; omega) ?_
    intro v' X2 ho2 hg2 hl2
    have f2 : Fr (Value.slice va vn vc).ownBlock.toList X X2 := ((F1.sub (by simp)).alloc _).trans ((Fr.ofGrown hg2).sub (fun k hk => .inl hk))
    have hD2 := (f2.block _ (Array.getElem?_eq_some_iff.1 hg).1 (by simp only [Option.mem_toList]; exact own_ne hso hg (by decide))).trans hg
    have hS : Fr (yb :: (Value.slice va vn vc).ownBlock.toList) X X2 := f2.sub (fun k hk => .inl (by simp at hk; simp [hk]))
    obtain ⟨va', vc', rfl, _⟩ := own_slice ho2
    refine hK.out _ _ hS (fun _ => ?_)
    clear hK K
    try simp only [Act.put, List.setIfInBounds_toArray, List.set_cons_zero, List.set_cons_succ]
    refine wpAnyH_take (i := 8) (oi := { dst := some 119, op := Op.fieldAddr 55 (Operand.tmp 15) 2, type := 0, pos := "ref.go:300", after := #[{ on := 0, ground := Ground.phase }, { on := 1, ground := Ground.phase }, { on := 2, ground := Ground.phase }, { on := 3, ground := Ground.phase }, { on := 4, ground := Ground.phase }, { on := 5, ground := Ground.phase }, { on := 6, ground := Ground.phase }, { on := 7, ground := Ground.phase }], guard := none }) (v := .pointer (some ⟨yb, 2, none⟩)) rfl (by decide +kernel) (by decide +kernel) (by decide +kernel) (fun _ _ _ h => absurd h.1 (by simp)) (Or.inl ⟨by rfl, fun wq hSq => by first | rfl | go_simp⟩) hS ?_
    simp only [Act.put, List.setIfInBounds_toArray, List.set_cons_zero, List.set_cons_succ]
    refine wpAnyH_ready (rs := [9]) (by decide +kernel) (by simp) ?_
    refine AllReadyH.cons (o := { dst := none, op := Op.store 26 (Operand.tmp 119) (Operand.tmp 118), type := 0, pos := "ref.go:300", after := #[{ on := 8, ground := Ground.data }, { on := 7, ground := Ground.data }, { on := 7, ground := Ground.chain }, { on := 0, ground := Ground.phase }, { on := 1, ground := Ground.phase }, { on := 2, ground := Ground.phase }, { on := 3, ground := Ground.phase }, { on := 4, ground := Ground.phase }, { on := 5, ground := Ground.phase }, { on := 6, ground := Ground.phase }, { on := 7, ground := Ground.phase }], guard := none }) rfl (fun K hK => ?_) AllReadyH.nil
    have q2 := at_cells hD2 2 rfl
    have z : X2.frozen? ⟨yb, 2, none⟩ = false := by simp [World.frozen?, hD2]
    go_simp
    have hS := hS.setCell (p := ⟨yb, 2, none⟩) (.inl (by simp)) (.slice va' (vn + 1) vc')
    refine hK.out _ _ hS (fun _ => ?_)
    clear hK K
    try simp only [Act.put, List.setIfInBounds_toArray, List.set_cons_zero, List.set_cons_succ]
    refine wpAnyH_done (by decide +kernel) ?_ _
    exact ⟨rfl, h _ _ _ _ _ _ _ _ _ X2 _ f2 ho2⟩
  refine AllReadyH.cons (o := { dst := some 117, op := Op.buildSlice 26 1 #[(0, Operand.tmp 116)], type := 26, pos := "ref.go:300", after := #[{ on := 5, ground := Ground.data }], guard := none }) rfl (fun K hK => ?_) AllReadyH.nil
  go_simp
  have hS := hS.alloc (.cells #[.int .i64 dv] 3)
  refine hK.out _ _ hS (fun _ => ?_)
  clear hK K
  try simp only [Act.put, List.setIfInBounds_toArray, List.set_cons_zero, List.set_cons_succ]
  refine wpAnyH_ready (rs := [1]) (by decide +kernel) (by simp) ?_
  refine AllReadyH.cons (o := { dst := some 112, op := Op.load 26 (Operand.tmp 111), type := 26, pos := "ref.go:300", after := #[{ on := 0, ground := Ground.data }], guard := none }) rfl (fun K hK => ?_) AllReadyH.nil
  have q1 := dc (Y.alloc (.cells #[.int .i64 dv] 3)) (F1.alloc _)
  go_simp
  refine hK.out _ _ hS (fun _ => ?_)
  clear hK K
  try simp only [Act.put, List.setIfInBounds_toArray, List.set_cons_zero, List.set_cons_succ]
  refine wpAnyH_ready (rs := [7]) (by decide +kernel) (by simp) ?_
  refine AllReadyH.cons (o := { dst := some 118, op := Op.call { callee := Callee.builtin Builtin.append, args := #[Operand.tmp 112, Operand.tmp 117], argTypes := #[26, 26] }, type := 26, pos := "ref.go:300", after := #[{ on := 1, ground := Ground.data }, { on := 6, ground := Ground.data }], guard := none }) rfl (fun K hK => ?_) AllReadyH.nil
  refine step_own rfl (.tmp 112) (.tmp 117) 26 rfl base 3 i3 _ 1 _ under26c hi hz hs2 hby rfl (by decide) (.slice va vn vc) vn xs rfl ((own_fr hso F1 (by simp)).alloc _) ⟨Y.heap.size, 0, none⟩ 1 1 [.int .i64 dv] rfl rfl (new_one Y _ _) (by simp [Value.oneCell']) (by unfold maxLen; omega) (by omega) (by have := F1.size; simp; omega) ?_
  intro v' X2 ho2 hg2 hl2
  have f2 : Fr (Value.slice va vn vc).ownBlock.toList X X2 := ((F1.sub (by simp)).alloc _).trans ((Fr.ofGrown hg2).sub (fun k hk => .inl hk))
  have hD2 := (f2.block _ (Array.getElem?_eq_some_iff.1 hg).1 (by simp only [Option.mem_toList]; exact own_ne hso hg (by decide))).trans hg
  have hS : Fr (yb :: (Value.slice va vn vc).ownBlock.toList) X X2 := f2.sub (fun k hk => .inl (by simp at hk; simp [hk]))
  obtain ⟨va', vc', rfl, _⟩ := own_slice ho2
  refine hK.out _ _ hS (fun _ => ?_)
  clear hK K
  try simp only [Act.put, List.setIfInBounds_toArray, List.set_cons_zero, List.set_cons_succ]
  refine wpAnyH_take (i := 8) (oi := { dst := some 119, op := Op.fieldAddr 55 (Operand.tmp 15) 2, type := 0, pos := "ref.go:300", after := #[{ on := 0, ground := Ground.phase }, { on := 1, ground := Ground.phase }, { on := 2, ground := Ground.phase }, { on := 3, ground := Ground.phase }, { on := 4, ground := Ground.phase }, { on := 5, ground := Ground.phase }, { on := 6, ground := Ground.phase }, { on := 7, ground := Ground.phase }], guard := none }) (v := .pointer (some ⟨yb, 2, none⟩)) rfl (by decide +kernel) (by decide +kernel) (by decide +kernel) (fun _ _ _ h => absurd h.1 (by simp)) (Or.inl ⟨by rfl, fun wq hSq => by first | rfl | go_simp⟩) hS ?_
  simp only [Act.put, List.setIfInBounds_toArray, List.set_cons_zero, List.set_cons_succ]
  refine wpAnyH_ready (rs := [9]) (by decide +kernel) (by simp) ?_
  refine AllReadyH.cons (o := { dst := none, op := Op.store 26 (Operand.tmp 119) (Operand.tmp 118), type := 0, pos := "ref.go:300", after := #[{ on := 8, ground := Ground.data }, { on := 7, ground := Ground.data }, { on := 7, ground := Ground.chain }, { on := 0, ground := Ground.phase }, { on := 1, ground := Ground.phase }, { on := 2, ground := Ground.phase }, { on := 3, ground := Ground.phase }, { on := 4, ground := Ground.phase }, { on := 5, ground := Ground.phase }, { on := 6, ground := Ground.phase }, { on := 7, ground := Ground.phase }], guard := none }) rfl (fun K hK => ?_) AllReadyH.nil
  have q2 := at_cells hD2 2 rfl
  have z : X2.frozen? ⟨yb, 2, none⟩ = false := by simp [World.frozen?, hD2]
  go_simp
  have hS := hS.setCell (p := ⟨yb, 2, none⟩) (.inl (by simp)) (.slice va' (vn + 1) vc')
  refine hK.out _ _ hS (fun _ => ?_)
  clear hK K
  try simp only [Act.put, List.setIfInBounds_toArray, List.set_cons_zero, List.set_cons_succ]
  refine wpAnyH_done (by decide +kernel) ?_ _
  exact ⟨rfl, h _ _ _ _ _ _ _ _ _ X2 _ f2 ho2⟩
end Go.Proofs.YtnmfcaahdeddnaaGreatDoor.T5
namespace Go.Proofs.YtnmfcaahdeddnaaGreatDoor.T5
open Go.RowKit Go.Maps
set_option linter.unusedVariables false
set_option linter.unusedSimpArgs false

def fkL (L : List Nd) (D ks : List Int) : List Int := (ks.filter (fun k => kdN L k.toNat != 13)).map (fun k => D.getD k.toNat 0)
theorem fkL_snoc (L : List Nd) (D ks : List Int) (k : Int) : fkL L D (ks ++ [k]) = if kdN L k.toNat = 13 then fkL L D ks else fkL L D ks ++ [D.getD k.toNat 0] := by
  unfold fkL
  rw [List.filter_append, List.map_append]
  split
  · rename_i h
    have : (kdN L k.toNat != 13) = false := by rw [h]; rfl
    simp only [List.filter_cons, this, List.filter_nil]
    simp
  · rename_i h
    have : (kdN L k.toNat != 13) = true := by simpa using h
    simp only [List.filter_cons, this, List.filter_nil]
    simp
theorem fkL_len (L : List Nd) (D ks : List Int) : (fkL L D ks).length ≤ ks.length := by
  unfold fkL
  rw [List.length_map]
  exact List.length_filter_le _ _
/-- What the document's Bare answers. -/
def ROut (L : List Nd) (w w' : World) (e : Ending) : Prop :=
  if (checkL L).2 ≠ 0 then e = .returned (.tuple #[.slice none 0 0, .int .i64 ((checkL L).2 : Nat)])
  else ∃ (a : Option Addr) (c : Nat) (O : List Nd), e = .returned (.tuple #[.slice a O.length c, .int .i64 0]) ∧ O.map nb = (rbareP L L.length).2 ∧ BM w' w.heap.size (.slice a O.length c) O
theorem setAll_take (T : List Bool) (l : List Nat) {q z : Nat} (h : l[q]? = some z) : setAll T (l.take (q + 1)) = (setAll T (l.take q)).set z true := by
  rw [List.take_add_one, h]
  exact setAll_snoc _ _ _

set_option maxRecDepth 100000 in
set_option maxHeartbeats 8000000 in
theorem bare14_any {L : List Nd} {w : World} {a : Option Addr} {len cap : Nat} (hlen : L.length = len) (hL : NAt w.heap.size w a L) (hm : len ≤ 2600000000000) :
    Calls Tryz.prog 14 #[.slice a len cap] w fun e w' => ROut L w w' e ∧ Fr [] w w' := by
  have C := rcheck_any w.heap.size L w a len cap hlen hL hm (Nat.le_refl _)
  unfold cOut at C
  have HLN := hidC hlen
  have HL := hidC hL
  have HCK : Hid (∀ p, checkL L = (p, 0) → Ahead L ∧ 0 < L.length ∧ L.length ≤ 50000 ∧ Shp L ∧ (∀ n, (kN L n).length ≤ 50000) ∧ ∀ m, kdN L m = 13 → (wk L m 0).length ≤ 50000) := fun p h => by
    obtain ⟨hA, hp, h5, _, _⟩ := tree_once h
    obtain ⟨T, hn, _⟩ := check_zero h
    have hS := shp_of hn
    refine ⟨hA, hp, h5, hS, fun n => ?_, fun m hm => ?_⟩
    · cases hx : L[n]? with
      | none => unfold kN; rw [hx]; simp
      | some x =>
        rw [kN_some hx, List.length_map]
        have := kids_few hn hx
        have := (List.getElem?_eq_some_iff.1 hx).1
        omega
    · have e := congrArg List.length (wn_merge hA hS hm)
      obtain ⟨x, hx, _⟩ := kdN_some hm (by decide)
      have h1 := kids_few hn hx
      have h2 := (List.getElem?_eq_some_iff.1 hx).1
      rw [kN_some hx] at e
      unfold wn at e
      simp only [List.length_map, List.length_cons] at e
      omega
  have HO : Hid (∀ w' e, ROut L w w' e ↔ if (checkL L).2 ≠ 0 then e = .returned (.tuple #[.slice none 0 0, .int .i64 ((checkL L).2 : Nat)]) else ∃ (a : Option Addr) (c : Nat) (O : List Nd), e = .returned (.tuple #[.slice a O.length c, .int .i64 0]) ∧ O.map nb = (rbareP L L.length).2 ∧ BM w' w.heap.size (.slice a O.length c) O) := fun w' e => Iff.rfl
  generalize hck : checkL L = ck at *
  obtain ⟨pc, er⟩ := ck
  simp only at *
  clear hL hlen hck
  go_enter Tryz.func14, Tryz.ntmps14
  go_wp2_with fail
  refine C.mono ?_
  rintro e w1 ⟨rfl, f1⟩
  clear C
  by_cases h0 : er = 0
  · subst h0
    obtain ⟨hA, hp0, h5, hS, hkf, hwk⟩ := HCK.out pc rfl
    have hlm : len ≤ 50000 := by have := HLN.out; omega
    have hlI : (len : Int) ≤ 50000 := by omega
    have hmkb := make_bools w1 len (by omega)
    have T2 : TB (w1.alloc (.cells ((List.replicate len false).map Value.bool).toArray 4)) w1.heap.size (goneL L 0) := by
      have := heap_alloc_new w1 (.cells ((List.replicate len false).map Value.bool).toArray 4)
      unfold TB goneL
      rw [HLN.out]
      exact this
    have f2 : Fr [] w1 (w1.alloc (.cells ((List.replicate len false).map Value.bool).toArray 4)) := (Fr.refl _ _).alloc _
    generalize w1.alloc (.cells ((List.replicate len false).map Value.bool).toArray 4) = w2 at *
    have hmki := make_ints w2 len (by omega)
    have I3 : IB (w2.alloc (.cells ((List.replicate len (0 : Int)).map (Value.int .i64)).toArray 3)) w2.heap.size (List.replicate len 0) := heap_alloc_new w2 _
    have f3 : Fr [] w2 (w2.alloc (.cells ((List.replicate len (0 : Int)).map (Value.int .i64)).toArray 3)) := (Fr.refl _ _).alloc _
    generalize w2.alloc (.cells ((List.replicate len (0 : Int)).map (Value.int .i64)).toArray 3) = w3 at *
    have F3 := (f1.trans f2).trans f3
    have HT3 := hidC (T2.fr f3 (by simp))
    have HI3 := hidC I3
    have HL3 := hidC (HL.out.fr F3 (by simp))
    have HF3 := hidC F3
    have HA := hidC hA
    have HSH := hidC hS
    have HKF := hidC hkf
    have HWK := hidC hwk
    have HG : Hid (w.heap.size ≤ w1.heap.size ∧ w1.heap.size < w2.heap.size ∧ w2.heap.size < w3.heap.size) := ⟨f1.size, T2.lt, I3.lt⟩
    clear T2 I3 f1 f2 f3 F3 hA hS hkf hwk h5 hp0 HCK
    go_wp2
    clear hmkb hmki
    generalize w1.heap.size = gg at *
    generalize w2.heap.size = gt at *
    obtain ⟨i55, hi55, hz55, hs55, hb55⟩ := info_parts info55o
    go_loopw [8, 9, 11, 34, 46] (fun _ _ _ ix _ wr => ∃ p : Nat, p ≤ len ∧ ix = .int .i64 p ∧ Fr [gg] w3 wr ∧ TB wr gg (goneL L p)) (fun _ _ _ ix _ _ => len - (intOf ix).toNat)
    case atStart => exact ⟨0, Nat.zero_le _, rfl, Fr.refl _ _, HT3.out⟩
    case round =>
      clear HT3
      obtain ⟨p, hp, rfl, fw, hT⟩ := hrel
      have hg := HG.out
      by_cases hlt : p < len
      · have hpI : (p : Int) < len := by omega
        have hpl : p < L.length := by rw [HLN.out]; exact hlt
        have hx : L[p]? = some L[p] := List.getElem?_eq_getElem hpl
        generalize L[p] = x at hx
        have eK : kdN L p = x.kind := kdN_of hx
        have HGL : Hid ((goneL L p).length = len) := by unfold Hid; rw [goneL_len]; exact HLN.out
        have HST : Hid (goneL L (p + 1) = (if x.kind = 13 then setAll (goneL L p) (wn L p 0) else goneL L p).set p ((if x.kind = 13 then setAll (goneL L p) (wn L p 0) else goneL L p).getD p false || decide (x.kind = 29))) := by unfold Hid; rw [goneL, eK]
        obtain ⟨b, o, rfl, hb, hc⟩ := (HL3.out.fr fw (by simp; omega)) p x hx
        have F5 : Fr [] wr (wr.alloc (.cells #[.int .i64 x.kind, .string x.text, .slice x.a x.ks.length x.c, .int .i64 x.pl] 55)) := (Fr.refl _ _).alloc _
        have bx := heap_alloc_new wr (.cells #[.int .i64 x.kind, .string x.text, .slice x.a x.ks.length x.c, .int .i64 x.pl] 55)
        have HT5 := hidC (hT.fr F5 (by simp))
        have HFW := hidC (fw.trans (F5.sub (by simp)))
        have hsz5 := (fw.trans (F5.sub (T := [gg]) (by simp))).size
        have hwl3 : w.heap.size ≤ w3.heap.size := by omega
        have HN5 := hidC ((HL3.out.fr (fw.trans (F5.sub (T := [gg]) (by simp))) (by simp; omega)).mono (Nat.le_trans hwl3 hsz5))
        have ng : b ≠ wr.heap.size := by have := World.block_lt_of_cell? wr _ hc.c0; simp only at this; omega
        have HNG : Hid (gg ≠ wr.heap.size) := by have := hT.lt; unfold Hid; omega
        obtain ⟨c0, c1, c2, c3, _, _, _, _, _⟩ := hc
        have HWL : Hid (x.kind = 13 → (wk L p 0).length ≤ 50000) := fun h => HWK.out p (by rw [eK]; exact h)
        have HW13 : Hid (x.kind = 13 → wn L p 0 = p :: kN L p) := fun h => wn_merge HA.out HSH.out (by rw [eK]; exact h)
        obtain ⟨wA, hwA⟩ : ∃ x : World, x = wr := ⟨_, rfl⟩
        subst hwA
        obtain ⟨xk, xt, xa, xc, xks, xpl⟩ := x
        simp only at *
        have e0 : ∀ S w', Fr S (wA.alloc (.cells #[.int .i64 xk, .string xt, .slice xa xks.length xc, .int .i64 xpl] 55)) w' → wA.heap.size ∉ S → w'.cell? ⟨wA.heap.size, 0, none⟩ = some (.int .i64 xk) := fun S w' f hS => f.cell1 (at_cells bx 0 rfl) hS
        have HE0 := hidC e0
        clear hx hpl hT eK fw F5 e0
        by_cases h13 : xk = 13
        · subst h13
          rw [if_pos rfl] at HST
          have C27 := from_any (cap := cap) HA.out HLN.out HN5.out p hlt (HWL.out rfl) (by omega)
          have HLT : Hid (∀ k ∈ wn L p 0, k < len) := fun k hk => by
            rw [HW13.out rfl, List.mem_cons] at hk
            rcases hk with rfl | hk
            · exact hlt
            · have := HA.out.kid hk; omega
          have HWN : Hid (wn L p 0 = (wk L p 0).map Prod.fst) := rfl
          have hwl := HWL.out rfl
          have hwI : ((wk L p 0).length : Int) ≤ 50000 := by omega
          have z0 := HE0.out [] _ (Fr.refl _ _) (by simp)
          go_wp2_with fail
          refine C27.mono ?_
          rintro e w6 ⟨fv, rfl, ho6, f6⟩
          obtain ⟨fa, fc, rfl, _⟩ := own_slice ho6
          have HO6 := hidC ho6
          have HT6 := hidC (HT5.out.fr f6 (by simp))
          have HF6 := hidC (HFW.out.trans (f6.sub (by simp)))
          have HE6 : Hid (∀ S w', Fr S w6 w' → wA.heap.size ∉ S → w'.cell? ⟨wA.heap.size, 0, none⟩ = some (.int .i64 13)) := fun S w' f hS => HE0.out S w' ((f6.sub (by simp)).trans f) hS
          have HOL : Hid (∀ k, (Value.slice fa (wk L p 0).length fc).ownBlock = some k → gg < k) := fun k hk => by
            have h1 := (ho6.lt k hk).1
            have h2 := HT5.out.lt
            omega
          clear ho6 C27 z0 HE0 HT5 HN5 bx c0 c1 c2 c3 f6 HFW
          generalize hwll : (wk L p 0).length = wl at *
          have HWLL := hidC hwll
          clear hwll
          go_wp2
          go_loopw [11, 46] (fun _ ix wr => ∃ q : Nat, q ≤ wl ∧ ix = .int .i64 q ∧ Fr [gg] w3 wr ∧ Fr [gg] w6 wr ∧ TB wr gg (setAll (goneL L p) ((wn L p 0).take q))) (fun _ ix _ => wl - (intOf ix).toNat)
          case atStart => exact ⟨0, Nat.zero_le _, rfl, HF6.out, Fr.refl _ _, HT6.out⟩
          case round =>
            obtain ⟨q, hq, rfl, fq, fq6, hTq⟩ := hrel
            have hwnl : (wn L p 0).length = wl := by rw [HWN.out, List.length_map, HWLL.out]
            by_cases hlt2 : q < wl
            · have hqI : (q : Int) < wl := by omega
              obtain ⟨z, hz⟩ : ∃ z, (wn L p 0)[q]? = some z := ⟨_, List.getElem?_eq_getElem (by omega)⟩
              have hSN := setAll_take (goneL L p) (wn L p 0) hz
              have hzl := HLT.out z (List.mem_of_getElem? hz)
              have hget : ((wk L p 0).map (fun t => Value.int .i64 ((t : Nat × Nat).1 : Nat)))[q]? = some (.int .i64 ((z : Nat) : Int)) := by
                have h1 := hz
                rw [HWN.out, List.getElem?_map] at h1
                rw [List.getElem?_map]
                cases hk : (wk L p 0)[q]? with
                | none => rw [hk] at h1; simp at h1
                | some t => rw [hk] at h1; simp at h1; simp [h1]
              obtain ⟨g2, c2, e2, _, _, _, hcell⟩ := own_cell HO6.out (by omega)
              injection e2 with e2 _ _
              subst e2
              have cq := fq6.cell1 (hcell q _ (by omega) hget) (by have := HOL.out g2 rfl; simp; omega)
              have hyl : z < (setAll (goneL L p) ((wn L p 0).take q)).length := by rw [setAll_len, HGL.out]; exact hzl
              have t0 := hTq.cell hyl
              have tz := hTq.fz z
              have hT7 := hTq.set z true
              rw [← hSN] at hT7
              have HT7 := hidC hT7
              have HF7 := hidC (fq.setCell (p := ⟨gg, z, none⟩) (.inl (by simp)) (.bool true))
              have HF8 := hidC (fq6.setCell (p := ⟨gg, z, none⟩) (.inl (by simp)) (.bool true))
              have zI : (z : Int) < len := by omega
              clear hyl hT7 hTq fq fq6 hSN hget hcell hwnl hz
              go_wp2
              go_roundw
              case rel => exact ⟨q + 1, hlt2, by go_num, HF7.out, HF8.out, HT7.out⟩
              case measure => simp [intOf]; omega
            · have hqI : ¬ (q : Int) < wl := by omega
              rw [List.take_of_length_le (by omega)] at hTq
              have hpl2 : p < (setAll (goneL L p) (wn L p 0)).length := by rw [setAll_len, HGL.out]; exact hlt
              have t0 := hTq.cell hpl2
              have tz := hTq.fz p
              have z0 := HE6.out _ _ fq6 (by have := HNG.out; simp; omega)
              have hd29 : decide ((13 : Int) = 29) = false := by decide
              rw [hd29, Bool.or_false] at HST
              have hT7 := hTq.set p ((setAll (goneL L p) (wn L p 0)).getD p false)
              rw [← HST.out] at hT7
              have HT7 := hidC hT7
              have HF7 := hidC (fq.setCell (p := ⟨gg, p, none⟩) (.inl (by simp)) (.bool ((setAll (goneL L p) (wn L p 0)).getD p false)))
              generalize (setAll (goneL L p) (wn L p 0)).getD p false = bv at *
              clear hTq hT7 fq fq6 hwnl hpl2 HST
              cases bv with
              | true =>
                go_wp2
                go_roundw
                case rel => exact ⟨p + 1, hlt, by go_num, HF7.out, HT7.out⟩
                case measure => simp [intOf]; omega
              | false =>
                go_wp2
                go_roundw
                case rel => exact ⟨p + 1, hlt, by go_num, HF7.out, HT7.out⟩
                case measure => simp [intOf]; omega
        · rw [if_neg h13] at HST
          have j13 : (xk == 13) = false := by simpa using h13
          have hpl2 : p < (goneL L p).length := by rw [HGL.out]; exact hlt
          have t0 := HT5.out.cell hpl2
          have tz := HT5.out.fz p
          have z0 := HE0.out [] _ (Fr.refl _ _) (by simp)
          have nG := HNG.out
          have hT7 := HT5.out.set p ((goneL L p).getD p false || decide (xk = 29))
          rw [← HST.out] at hT7
          have HT7 := hidC hT7
          have HF7 := hidC (HFW.out.setCell (p := ⟨gg, p, none⟩) (.inl (by simp)) (.bool ((goneL L p).getD p false || decide (xk = 29))))
          generalize (goneL L p).getD p false = bv at *
          clear hT7 hpl2 HST HT5 HFW HE0 HN5 bx
          cases bv with
          | true =>
            simp only [Bool.true_or] at HT7 HF7
            go_wp2
            go_roundw
            case rel => exact ⟨p + 1, hlt, by go_num, HF7.out, HT7.out⟩
            case measure => simp [intOf]; omega
          | false =>
            simp only [Bool.false_or] at HT7 HF7
            by_cases h29 : xk = 29
            · subst h29
              go_wp2
              go_roundw
              case rel => exact ⟨p + 1, hlt, by go_num, HF7.out, HT7.out⟩
              case measure => simp [intOf]; omega
            · have j29 : (xk == 29) = false := by simpa using h29
              rw [decide_eq_false h29] at HT7 HF7
              go_wp2
              go_roundw
              case rel => exact ⟨p + 1, hlt, by go_num, HF7.out, HT7.out⟩
              case measure => simp [intOf]; omega
      · have hpI : ¬ (p : Int) < len := by omega
        have hpe : p = len := by omega
        subst hpe
        obtain ⟨WB, hWB⟩ : ∃ x : World, x = wr := ⟨_, rfl⟩
        subst hWB
        have HTB := hidC hT
        have HIB := hidC (HI3.out.fr fw (by simp; omega))
        have HLB := hidC (HL3.out.fr fw (by simp; omega))
        have HFB := hidC (HF3.out.over fw (by simp; omega))
        have HGB : Hid (w3.heap.size ≤ WB.heap.size) := fw.size
        have HGL : Hid ((goneL L p).length = p) := by unfold Hid; rw [goneL_len]; exact HLN.out
        have HST : Hid (∀ q, rbareP L (q + 1) = rbareS L (goneL L p) q (rbareP L q)) := fun q => by rw [rbareP, HLN.out]
        generalize goneL L p = GN at *
        clear hT fw HI3 HL3 HF3 hlt hpI
        go_wp2
        go_loopw [12, 13, 14, 15, 17, 69, 101] (fun ov _ _ _ _ ix _ wr => ∃ n : Nat, n ≤ p ∧ ix = .int .i64 n ∧ Fr [gt] WB wr ∧ ∃ D O, IB wr gt D ∧ TB wr gg GN ∧ BM wr WB.heap.size ov O ∧ Hid ((D, O.map nb) = rbareP L n)) (fun _ _ _ _ _ ix _ _ => p - (intOf ix).toNat)
        case atStart => exact ⟨0, Nat.zero_le _, rfl, Fr.refl _ _, _, [], HIB.out, HTB.out, BM.nil _ _, by unfold Hid; rw [rbareP, HLN.out]; rfl⟩
        case round =>
          clear HIB HTB
          obtain ⟨n, hn, rfl, fw, D, O, hD, hT, hO, he⟩ := hrel
          obtain ⟨ba, bc, rfl, _⟩ := own_slice hO.row
          have hDl : D.length = p := by have := (rbareP_len L n).1; rw [← he.out] at this; rw [← HLN.out]; exact this
          have hOl : O.length ≤ n := by have := (rbareP_len L n).2; rw [← he.out] at this; simpa using this
          have HDL := hidC hDl
          have HOL := hidC hOl
          have hOI : (O.length : Int) ≤ 50000 := by omega
          have hgb := HGB.out
          by_cases hlt : n < p
          · have hpI : (n : Int) < p := by omega
            have hpl : n < L.length := by rw [HLN.out]; exact hlt
            have hx : L[n]? = some L[n] := List.getElem?_eq_getElem hpl
            generalize L[n] = x at hx
            have HS : Hid (rbareP L (n + 1) = if x.kind = 29 then (D.set n (D.getD (x.ks.headD 0).toNat 0), O.map nb) else if GN.getD n false then (D, O.map nb) else (D.set n O.length, O.map nb ++ [⟨x.kind, x.text, none, 0, fkL L D x.ks, x.pl⟩])) := by
              unfold Hid
              rw [HST.out, ← he.out, rbareS, hx]
              simp only [List.length_map, fkL]
            have hkm : x.ks.length ≤ 50000 := by have := HKF.out n; rw [kN_some hx, List.length_map] at this; exact this
            have HKS : Hid (∀ k ∈ x.ks, 0 ≤ k ∧ k < p) := fun k hk => by obtain ⟨q0, q1⟩ := HA.out n x hx k hk; exact ⟨q0, by omega⟩
            have H29 : Hid (x.kind = 29 → ∃ z, x.ks = [z]) := fun h => by obtain ⟨z, hz, _⟩ := HSH.out.one hx (by omega); exact ⟨z, hz⟩
            obtain ⟨b, o, rfl, hb, hc⟩ := (HLB.out.fr fw (by simp; omega)) n x hx
            have F5 : Fr [] wr (wr.alloc (.cells #[.int .i64 x.kind, .string x.text, .slice x.a x.ks.length x.c, .int .i64 x.pl] 55)) := (Fr.refl _ _).alloc _
            have bx := heap_alloc_new wr (.cells #[.int .i64 x.kind, .string x.text, .slice x.a x.ks.length x.c, .int .i64 x.pl] 55)
            have HT5 := hidC (hT.fr F5 (by simp))
            have HD5 := hidC (hD.fr F5 (by simp))
            have HO5 := hidC (hO.fr F5 (by simp))
            have HFW := hidC (fw.trans (F5.sub (by simp)))
            have ng : b ≠ wr.heap.size := by have := World.block_lt_of_cell? wr _ hc.c0; simp only at this; omega
            have HK5 := hidC (hc.k.fr F5 (by simp))
            have HTX := hidC hc.t
            have HOB : Hid ((∀ k, (Value.slice ba O.length bc).ownBlock = some k → k < wr.heap.size) ∧ ∀ y ∈ O, ∀ k, (Value.slice y.a y.ks.length y.c).ownBlock = some k → k < wr.heap.size) := ⟨fun k hk => (hO.row.lt k hk).2, fun y hy k hk => ((hO.kid y hy).lt k hk).2⟩
            have HNG : Hid (gg ≠ wr.heap.size ∧ gt ≠ wr.heap.size ∧ WB.heap.size ≤ wr.heap.size) := ⟨by have := hT.lt; omega, by have := hD.lt; omega, fw.size⟩
            obtain ⟨c0, c1, c2, c3, _, _, _, _, _⟩ := hc
            have kI : (x.ks.length : Int) ≤ 50000 := by omega
            have t0 := HT5.out.cell (i := n) (by rw [HGL.out]; exact hlt)
            have e0 := at_cells bx 0 rfl
            have e1 := at_cells bx 1 rfl
            have e2 := at_cells bx 2 rfl
            have e3 := at_cells bx 3 rfl
            have hdp : D[n]? = some (D.getD n 0) := by simp [List.getD, List.getElem?_eq_getElem (show n < D.length by omega)]
            have dp := HD5.out.cell hdp
            have dz := HD5.out.fz n
            obtain ⟨n1, n2, n3⟩ := HNG.out
            obtain ⟨xk, xt, xa, xc, xks, xpl⟩ := x
            simp only at *
            clear hx hpl hT hD hO fw F5 he hDl hOl hdp
            by_cases h29 : xk = 29
            · subst h29
              rw [if_pos rfl] at HS
              obtain ⟨z, rfl⟩ := H29.out rfl
              have HS2 : Hid (rbareP L (n + 1) = (D.set n (D.getD z.toNat 0), O.map nb)) := HS.out
              simp only [List.length_cons, List.length_nil, Nat.zero_add] at *
              obtain ⟨z0, z1⟩ := HKS.out z (by simp)
              obtain ⟨b2, o2, ea, hb2, hc2⟩ := HK5.out 0 z rfl
              subst ea
              rw [Nat.add_zero] at hc2
              obtain ⟨q, rfl⟩ := Int.eq_ofNat_of_zero_le z0
              rw [Int.toNat_natCast] at HS2
              have hdq : D[q]? = some (D.getD q 0) := by simp [List.getD, List.getElem?_eq_getElem (show q < D.length by have := HDL.out; omega)]
              have dq := HD5.out.cell hdq
              generalize D.getD q 0 = dv at *
              have fS : Fr [gt] (wr.alloc (.cells #[.int .i64 29, .string xt, .slice (some ⟨b2, o2, none⟩) 1 xc, .int .i64 xpl] 55)) ((wr.alloc (.cells #[.int .i64 29, .string xt, .slice (some ⟨b2, o2, none⟩) 1 xc, .int .i64 xpl] 55)).setCell ⟨gt, n, none⟩ (.int .i64 dv)) := (Fr.refl _ _).setCell (.inl (by simp)) _
              have HD6 := hidC (HD5.out.set n dv)
              have HT6 := hidC (HT5.out.fr fS (by simp; omega))
              have HO6 := hidC (HO5.out.fr fS (by simp; omega))
              have HF6 := hidC (HFW.out.trans fS)
              have qI : (q : Int) < p := by omega
              clear fS HS hdq
              go_wp2
              go_roundw
              case rel => exact ⟨n + 1, hlt, by go_num, HF6.out, _, O, HD6.out, HT6.out, HO6.out, HS2.out.symm⟩
              case measure => simp [intOf]; omega
            · rw [if_neg h29] at HS
              have j29 : (xk == 29) = false := by simpa using h29
              cases hgn : GN.getD n false with
              | true =>
                rw [hgn] at t0 HS
                have HS2 : Hid (rbareP L (n + 1) = (D, O.map nb)) := HS.out
                clear HS hgn
                go_wp2
                go_roundw
                case rel => exact ⟨n + 1, hlt, by go_num, HFW.out, D, O, HD5.out, HT5.out, HO5.out, HS2.out.symm⟩
                case measure => simp [intOf]; omega
              | false =>
                rw [hgn] at t0 HS
                rw [if_neg (by simp)] at HS
                clear hgn
                have F7 : Fr [] (wr.alloc (.cells #[.int .i64 xk, .string xt, .slice xa xks.length xc, .int .i64 xpl] 55)) ((wr.alloc (.cells #[.int .i64 xk, .string xt, .slice xa xks.length xc, .int .i64 xpl] 55)).alloc (.cells #[.int .i64 xk, .string xt, .slice none 0 0, .int .i64 xpl] 55)) := (Fr.refl _ _).alloc _
                have by7 : ((wr.alloc (.cells #[.int .i64 xk, .string xt, .slice xa xks.length xc, .int .i64 xpl] 55)).alloc (.cells #[.int .i64 xk, .string xt, .slice none 0 0, .int .i64 xpl] 55)).heap[wr.heap.size + 1]? = some (.cells #[.int .i64 xk, .string xt, .slice none 0 0, .int .i64 xpl] 55 (0, 0)) := new_alloc _ (by simp)
                have e27 : ((wr.alloc (.cells #[.int .i64 xk, .string xt, .slice xa xks.length xc, .int .i64 xpl] 55)).alloc (.cells #[.int .i64 xk, .string xt, .slice none 0 0, .int .i64 xpl] 55)).cell? ⟨wr.heap.size, 2, none⟩ = some (.slice xa xks.length xc) := F7.cell1 e2 (by simp)
                have HT7 := hidC (HT5.out.fr F7 (by simp))
                have HD7 := hidC (HD5.out.fr F7 (by simp))
                have HO7 := hidC (HO5.out.fr F7 (by simp))
                have HF7 := hidC (HFW.out.trans (F7.sub (by simp)))
                have HK7 := hidC (HK5.out.fr F7 (by simp))
                have HL7 := hidC (HLB.out.fr (HFW.out.trans (F7.sub (by simp))) (by simp; omega))
                have HBY := hidC by7
                have HSZ7 : Hid (((wr.alloc (.cells #[.int .i64 xk, .string xt, .slice xa xks.length xc, .int .i64 xpl] 55)).alloc (.cells #[.int .i64 xk, .string xt, .slice none 0 0, .int .i64 xpl] 55)).heap.size = wr.heap.size + 2) := by unfold Hid; simp
                clear F7 by7 HT5 HD5 HO5 HFW HK5 bx
                go_wp2
                generalize (wr.alloc (.cells #[.int .i64 xk, .string xt, .slice xa xks.length xc, .int .i64 xpl] 55)).alloc (.cells #[.int .i64 xk, .string xt, .slice none 0 0, .int .i64 xpl] 55) = W7 at *
                clear e0 e1 e2 e3 e27 t0 dp dz c0 c1 c2 c3 ng
                generalize wr.heap.size = sz at *
                go_loopw [17, 101] (fun _ ix wr => ∃ q : Nat, q ≤ xks.length ∧ ix = .int .i64 q ∧ Fr [sz + 1] W7 wr ∧ ∃ v, wr.heap[sz + 1]? = some (.cells #[.int .i64 xk, .string xt, v, .int .i64 xpl] 55 (0, 0)) ∧ wr.ownsRow W7.heap.size 3 1 v (fkL L D (xks.take q)).length (inZ (fkL L D (xks.take q)))) (fun _ ix _ => xks.length - (intOf ix).toNat)
                case atStart => exact ⟨0, Nat.zero_le _, rfl, Fr.refl _ _, _, HBY.out, World.ownsRow_nil _ _ _ _⟩
                case round =>
                  clear HBY
                  obtain ⟨q, hq, rfl, fq, v, hy, hoq⟩ := hrel
                  obtain ⟨va, vc, rfl, _⟩ := own_slice hoq
                  have HS7 := HSZ7.out
                  by_cases hlt2 : q < xks.length
                  · have hqI : (q : Int) < xks.length := by omega
                    have hz : xks[q]? = some xks[q] := List.getElem?_eq_getElem hlt2
                    obtain ⟨z0, z1⟩ := HKS.out xks[q] (List.getElem_mem _)
                    have HFK : Hid (fkL L D (xks.take (q + 1)) = if kdN L (xks[q]).toNat = 13 then fkL L D (xks.take q) else fkL L D (xks.take q) ++ [D.getD (xks[q]).toNat 0]) := by
                      unfold Hid
                      rw [← fkL_snoc, List.take_add_one, hz]
                      rfl
                    obtain ⟨b2, o2, ea, hb2, hc2⟩ := (HK7.out.fr fq (by simp; omega)) q _ hz
                    subst ea
                    generalize xks[q] = z at *
                    obtain ⟨k, rfl⟩ := Int.eq_ofNat_of_zero_le z0
                    rw [Int.toNat_natCast] at HFK
                    have hkl : k < L.length := by rw [HLN.out]; omega
                    have hyk : L[k]? = some L[k] := List.getElem?_eq_getElem hkl
                    generalize L[k] = y at hyk
                    rw [kdN_of hyk] at HFK
                    obtain ⟨b4, o4, ea4, hb4, hc4⟩ := (HL7.out.fr fq (by simp; omega)) k y hyk
                    cases ea4
                    have y0 := hc4.c0
                    have kI2 : (k : Int) < p := by omega
                    have hfl := fkL_len L D (xks.take q)
                    rw [List.length_take] at hfl
                    have hdk : D[k]? = some (D.getD k 0) := by simp [List.getD, List.getElem?_eq_getElem (show k < D.length by have := HDL.out; omega)]
                    have HDQ := hidC (HD7.out.fr fq (by simp; omega))
                    have HYB := hidC hy
                    have HOQ := hidC hoq
                    have HFQ := hidC fq
                    have HHDK := hidC hdk
                    generalize y.kind = yk at *
                    clear hz hyk hc4 hy hoq fq hkl hdk
                    by_cases h13 : yk = 13
                    · subst h13
                      rw [if_pos rfl] at HFK
                      have HQ3 : Hid (wr.ownsRow W7.heap.size 3 1 (.slice va (fkL L D (xks.take q)).length vc) (fkL L D (xks.take (q + 1))).length (inZ (fkL L D (xks.take (q + 1))))) := by
                        unfold Hid
                        rw [HFK.out]
                        exact HOQ.out
                      clear HOQ HFK
                      go_wp2
                      go_roundw
                      case rel => exact ⟨q + 1, hlt2, by go_num, HFQ.out, _, HYB.out, HQ3.out⟩
                      case measure => simp [intOf]; omega
                    · rw [if_neg h13] at HFK
                      have j13 : (yk != 13) = true := by simpa using h13
                      have hfl2 : (fkL L D (xks.take q)).length ≤ 200000 := by omega
                      generalize hfq : (fkL L D (xks.take q)).length = fn at *
                      have HFN := hidC hfq
                      clear hfq
                      go_upto_region 29 with fail
                      refine reg29 (base := W7.heap.size) HYB.out HOQ.out hfl2 HFQ.out.size HDQ.out HHDK.out (by omega) kI2 (by omega) ?_
                      intro n111 n112 n113 n114 n115 n116 n117 n118 n119 X1 v' q1 ho1
                      have hyX := (q1.block _ (Array.getElem?_eq_some_iff.1 HYB.out).1 (by simp only [Option.mem_toList]; exact own_ne HOQ.out HYB.out (by decide))).trans HYB.out
                      have hY9 := set4_2 (v := v') hyX
                      have fS : Fr [sz + 1] X1 (X1.setCell ⟨sz + 1, 2, none⟩ v') := (Fr.refl _ _).setCell (.inl (by simp)) _
                      have hO9 := own_fr ho1 fS (fun k hk => by have := (ho1.lt k hk).1; simp; omega)
                      have HF9 := hidC ((HFQ.out.over' q1 (fun k hk => by simp only [Option.mem_toList] at hk; exact (HOQ.out.lt k hk).1)).trans fS)
                      have HQ9 : Hid ((X1.setCell ⟨sz + 1, 2, none⟩ v').ownsRow W7.heap.size 3 1 v' (fkL L D (xks.take (q + 1))).length (inZ (fkL L D (xks.take (q + 1))))) := by
                        unfold Hid
                        rw [HFK.out, inZ, List.map_append, List.length_append, HFN.out]
                        exact hO9
                      have HY9 := hidC hY9
                      clear hyX hY9 fS hO9 ho1 q1 HFK HOQ HYB HDQ
                      go_wp2
                      go_roundw
                      case rel => exact ⟨q + 1, hlt2, by go_num, HF9.out, _, HY9.out, HQ9.out⟩
                      case measure => simp [intOf]; omega
                  · have hqI : ¬ (q : Int) < xks.length := by omega
                    have hqe : q = xks.length := by omega
                    subst hqe
                    rw [List.take_length] at hoq hy
                    have hdn : D[n]? = some (D.getD n 0) := by simp [List.getD, List.getElem?_eq_getElem (show n < D.length by have := HDL.out; omega)]
                    have HDQ := hidC (HD7.out.fr fq (by simp; omega))
                    have d0 := HDQ.out.cell hdn
                    have dz := HDQ.out.fz n
                    have HRL : Hid ((fkL L D xks).length ≤ 50000) := by have := fkL_len L D xks; unfold Hid; omega
                    generalize hrl : (fkL L D xks).length = rl at *
                    have HRLE := hidC hrl
                    clear hrl
                    have ngy : gt ≠ sz + 1 := by omega
                    have fS8 : Fr [gt] wr (wr.setCell ⟨gt, n, none⟩ (.int .i64 (O.length : Nat))) := (Fr.refl _ _).setCell (.inl (by simp)) _
                    have y8 := set_off (v := .int .i64 (O.length : Nat)) (i := n) (Ne.symm ngy) hy
                    have h80 := at_cells y8 0 rfl
                    have h81 := at_cells y8 1 rfl
                    have h82 := at_cells y8 2 rfl
                    have h83 := at_cells y8 3 rfl
                    have HD8 := hidC (HDQ.out.set n (O.length : Nat))
                    have HT8 := hidC ((HT7.out.fr fq (by simp; omega)).fr fS8 (by simp; omega))
                    have HOq : BM wr WB.heap.size (.slice ba O.length bc) O := ⟨own_fr HO7.out.row fq (fun k hk => by have := HOB.out.1 k hk; simp; omega), fun y hy => own_fr (HO7.out.kid y hy) fq (fun k hk => by have := HOB.out.2 y hy k hk; simp; omega), HO7.out.tx⟩
                    have HO8 := hidC (HOq.fr fS8 (by simp; omega))
                    have HN8 := hidC (own_fr hoq fS8 (fun k hk => by have := (hoq.lt k hk).1; simp; omega))
                    have HF8 := hidC ((HF7.out.over' fq (by simp; omega)).trans fS8)
                    have HS8 : Hid (WB.heap.size ≤ (wr.setCell ⟨gt, n, none⟩ (.int .i64 (O.length : Nat))).heap.size ∧ (wr.setCell ⟨gt, n, none⟩ (.int .i64 (O.length : Nat))).heap.size = wr.heap.size) := by
                      have h1 := fq.size
                      have h2 := HF7.out.size
                      unfold Hid
                      refine ⟨by simp; omega, by simp⟩
                    have hnew : ∀ j u, [Value.int .i64 xk, .string xt, .slice va rl vc, .int .i64 xpl][j]? = some u → ((wr.setCell ⟨gt, n, none⟩ (.int .i64 (O.length : Nat))).alloc (.cells #[.int .i64 xk, .string xt, .slice va rl vc, .int .i64 xpl] 55)).cell? ((⟨wr.heap.size, 0, none⟩ : Addr).add j) = some u := by
                      have := new_four (wr.setCell ⟨gt, n, none⟩ (.int .i64 (O.length : Nat))) (.int .i64 xk) (.string xt) (.slice va rl vc) (.int .i64 xpl) 55
                      rw [HS8.out.2] at this
                      exact this
                    have HB7 : Hid (WB.heap.size ≤ W7.heap.size) := by have := HF7.out.size; unfold Hid; omega
                    clear hy hoq fq HOq fS8 HDQ HO7 HT7 HD7 HK7 HL7 HF7 hdn y8
                    go_wp2_with (at_builtin; refine wpList_append_own_at _ rfl _ _ 23 rfl WB.heap.size 55 i55 _ 4 56 under23o hi55 hz55 hs55 hb55 rfl (by decide) (.slice ba O.length bc) O.length (flatO O) rfl (HO8.out.row.alloc _) ⟨wr.heap.size, 0, none⟩ 1 1 [.int .i64 xk, .string xt, .slice va rl vc, .int .i64 xpl] rfl rfl hnew (by simp [Value.oneCell']) (by have := HOL.out; unfold maxLen; omega) (by have := HOL.out; omega) (by have := HS8.out; simp at this ⊢; omega) ?_)
                    intro v9 w9 hown9 hgrow hnil hloc
                    have f9 : Fr (Value.slice ba O.length bc).ownBlock.toList (wr.setCell ⟨gt, n, none⟩ (.int .i64 (O.length : Nat))) w9 := ((Fr.refl _ _).alloc _).trans ((Fr.ofGrown hgrow).sub (fun k hk => .inl hk))
                    have HROW : Hid (BM w9 WB.heap.size v9 (O ++ [⟨xk, xt, va, vc, fkL L D xks, xpl⟩])) := by
                      refine ⟨?_, fun y hy => ?_, fun y hy => ?_⟩
                      · rw [List.length_append, flatO_snoc]
                        have e : cellsO ⟨xk, xt, va, vc, fkL L D xks, xpl⟩ = [.int .i64 xk, .string xt, .slice va rl vc, .int .i64 xpl] := by simp only [cellsO, HRLE.out]
                        rw [e]
                        exact hown9
                      · rw [List.mem_append, List.mem_singleton] at hy
                        rcases hy with hy | rfl
                        · exact own_fr (HO8.out.kid y hy) f9 (fun k hk hm => by simp only [Option.mem_toList] at hm; exact own_apart (HO8.out.kid y hy) HO8.out.row (by decide) k hk hm)
                        · have h1 := own_fr HN8.out f9 (fun k hk hm => by simp only [Option.mem_toList] at hm; exact own_apart HN8.out HO8.out.row (by decide) k hk hm)
                          simp only
                          rw [HRLE.out]
                          exact own_base HB7.out h1
                      · rw [List.mem_append, List.mem_singleton] at hy
                        rcases hy with hy | rfl
                        · exact HO8.out.tx y hy
                        · exact HTX.out
                    have HD9 := hidC (HD8.out.fr f9 (fun hm => by simp only [Option.mem_toList] at hm; have := (HO8.out.row.lt gt hm).1; omega))
                    have HT9 := hidC (HT8.out.fr f9 (fun hm => by simp only [Option.mem_toList] at hm; have := (HO8.out.row.lt gg hm).1; omega))
                    have HF9 := hidC (HF8.out.over' f9 (fun k hk => by simp only [Option.mem_toList] at hk; exact (HO8.out.row.lt k hk).1))
                    obtain ⟨v9a, v9c, rfl, _⟩ := own_slice hown9
                    clear hown9 hgrow hnil hloc f9 hnew HO8 HN8 HD8 HT8 HF8 h80 h81 h82 h83 d0 dz
                    go_wp2
                    go_roundw
                    case rel => exact ⟨n + 1, hlt, by go_num, HF9.out, _, _, HD9.out, HT9.out, HROW.out, by unfold Hid; rw [HS.out, List.map_append]; rfl⟩
                    case measure => simp [intOf]; omega
          · have hpI : ¬ (n : Int) < p := by omega
            have hpe : n = p := by omega
            subst hpe
            have HB : Hid (BM wr w.heap.size (.slice ba O.length bc) O) := ⟨own_base (by have := HFB.out.size; omega) hO.row, fun x hx => own_base (by have := HFB.out.size; omega) (hO.kid x hx), hO.tx⟩
            have HE : Hid (O.map nb = (rbareP L L.length).2) := by unfold Hid; rw [HLN.out, ← he.out]
            have HFF := hidC (HFB.out.over fw (by simp; omega))
            clear he hO hD hT fw
            go_wp2
            exact bodyPost_ret (v := .tuple #[.slice ba O.length bc, .int .i64 0]) (by simp [results, Tryz.results14]) rfl ⟨(HO.out _ _).2 (by rw [if_neg (by simp)]; exact ⟨ba, bc, O, rfl, HE.out, HB.out⟩), HFF.out⟩
  · have h0' : ((er : Int) != 0) = true := by simp; omega
    go_wp2
    exact bodyPost_ret (v := .tuple #[.slice none 0 0, .int .i64 er]) (by simp [results, Tryz.results14]) rfl ⟨(HO.out _ _).2 (by rw [if_pos h0]), f1⟩
end Go.Proofs.YtnmfcaahdeddnaaGreatDoor.T5
