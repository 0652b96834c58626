/-
  Texts of the proof, in their order: CkY, CkZ, CkAw, FldW, FldX, LspA, LspB, LspC, BakS, BarH, BarI; conditions: as each says.
-/
import Derived.Test.YtnmfcaahdeddnaaGreatDoorMgDKMO
import Derived.Test.YtnmfcaahdeddnaaGreatDoorMgEAAP
import Derived.Test.YtnmfcaahdeddnaaGreatDoorMgEEPO
import Derived.Test.YtnmfcaahdeddnaaGreatDoorMgGPHI
import Derived.Test.YtnmfcaahdeddnaaGreatDoorMgMKPL
namespace Go.Proofs.YtnmfcaahdeddnaaGreatDoor
open Go.RowKit
set_option linter.unusedVariables false
set_option linter.unusedSimpArgs false

def cI (l : List Nat) : List Int := l.map (fun (n : Nat) => (n : Int))
def nd5 (m : MN) : T5.Nd := ⟨m.x.kind, ⟨m.x.text.toArray⟩, m.a, m.c, cI m.x.kids, m.x.pl⟩
def nx5 (x : PN) : T5.Nd := ⟨x.kind, ⟨x.text.toArray⟩, none, 0, cI x.kids, x.pl⟩
/-- The nodes as they lie, as the checks read them. -/
theorem nodes5 {w : World} {B : Nat} {L : List MN} {a : Option Addr} {c : Nat} {F : List Nat} (ho : w.ownsRow B 55 4 (.slice a L.length c) L.length (flatM L)) (hk : ∀ m ∈ L, KRow w F m) (hF : ∀ j ∈ F, j < w.heap.size) (hT : ∀ m ∈ L, m.x.text.length ≤ 200020) : T5.NAt w.heap.size w a (L.map nd5) := by
  intro i x hx
  rw [List.getElem?_map] at hx
  obtain ⟨m, hm, rfl⟩ := Option.map_eq_some_iff.1 hx
  have hmem := List.mem_of_getElem? hm
  obtain ⟨k1, k2, k3⟩ := hk m hmem
  have ht := hT m hmem
  rcases ho.2 with ⟨e1, e2⟩ | ⟨g, cap, cur, e1, -⟩
  · rw [List.length_eq_zero_iff] at e2
    subst e2
    simp at hm
  · cases e1
    have hb := (ho.lt g rfl)
    have hc : ∀ j, j < 4 → ∀ u, m.cells[j]? = some u → w.cell? ⟨g, i * 4 + j, none⟩ = some u := fun j hj u hu => by
      have := ho.cells (g := g) rfl (i * 4 + j) u (by rw [flatM_get hm j hj]; exact hu)
      rw [Addr.add_lit, Nat.zero_add] at this
      exact this
    refine ⟨g, 0, rfl, hb.2, ?_, ?_, ?_, ?_, ?_, ?_, ?_, ?_, ?_⟩
    · simpa [nd5] using hc 0 (by omega) _ rfl
    · simpa [nd5] using hc 1 (by omega) _ rfl
    · simpa [nd5, cI] using hc 2 (by omega) _ rfl
    · simpa [nd5] using hc 3 (by omega) _ rfl
    · intro j k hj
      simp only [nd5, cI, List.getElem?_map] at hj
      obtain ⟨n, hn, rfl⟩ := Option.map_eq_some_iff.1 hj
      obtain ⟨b, o, cc, z, q1, q2, q3, q4⟩ := k3 j n hn
      exact ⟨b, o, q1, hF b q2, at_cells q3 _ q4⟩
    · simp only [nd5]
      rw [Lib.size_eq]
      simp only
      unfold maxLen
      omega
    · simpa [nd5, cI] using Nat.le_trans k1.1 k1.2
    · simpa [nd5, cI] using k1.1
    · exact k2
/-- A node without where its kids lie. -/
def bare5 (x : T5.Nd) : T5.Nd := ⟨x.kind, x.text, none, 0, x.ks, x.pl⟩
theorem kd_bare (L : List T5.Nd) (k : Int) : T5.kd (L.map bare5) k = T5.kd L k := by
  unfold T5.kd
  rw [List.getElem?_map]
  cases L[k.toNat]? <;> rfl
theorem nodeE_bare (L : List T5.Nd) (n : Nat) (x : T5.Nd) (T : List Bool) : T5.nodeE (L.map bare5) n (bare5 x) T = T5.nodeE L n x T := by
  have e : (bare5 x).ks.map (T5.kd (L.map bare5)) = x.ks.map (T5.kd L) := List.map_congr_left (fun k _ => kd_bare L k)
  unfold T5.nodeE
  rw [e]
  rfl
theorem nodesL_bare (L : List T5.Nd) : ∀ n, T5.nodesL (L.map bare5) n = T5.nodesL L n
  | 0 => by simp [T5.nodesL]
  | n + 1 => by
    simp only [T5.nodesL, nodesL_bare L n, List.getElem?_map]
    cases T5.nodesL L n with
    | error e => rfl
    | ok T =>
      cases hx : L[n]? with
      | none => rfl
      | some x => simp only [Option.map_some, nodeE_bare]
theorem depths_bare (L : List T5.Nd) : ∀ n, T5.depths (L.map bare5) n = T5.depths L n
  | 0 => rfl
  | n + 1 => by
    simp only [T5.depths, depths_bare L n, List.getElem?_map]
    cases L[n]? <;> rfl
theorem checkL_bare (L : List T5.Nd) : T5.checkL (L.map bare5) = T5.checkL L := by
  unfold T5.checkL T5.deepL
  simp only [List.length_map, nodesL_bare, depths_bare, kd_bare]
theorem prg_err_ne {s : ByteArray} {p c : Nat} (h : prgL s = .error (p, c)) : c ≠ 0 := by
  rcases hsc : sc s 0 with ⟨ts, _ | ⟨p', c'⟩⟩
  · rw [prgL_after hsc rfl] at h
    unfold afterL at h
    split at h
    · cases h; decide
    · split at h
      · cases h; decide
      · split at h
        · cases h; decide
        · split at h
          · cases h; decide
          · cases h
  · unfold prgL at h
    rw [hsc] at h
    cases h
    have h1 := scanL_err (s.size + 1) 0 (s.data.toList.drop 0) (p, c) (show (sc s 0).2 = _ by rw [hsc])
    simp only at h1
    omega

namespace T5
/-- Lists that say the same, wherever the kids' rows lie. -/
structure Alk (L M : List Nd) : Prop where
  kd : ∀ n, kdN L n = kdN M n
  tx : ∀ n, txN L n = txN M n
  pl : ∀ n, plN L n = plN M n
  k : ∀ n, kN L n = kN M n
  tb : ∀ n, tbN L n = tbN M n
  len : L.length = M.length
  ck : checkL L = checkL M
theorem alk_bare (L : List Nd) : Alk (L.map bare5) L :=
  ⟨fun n => by unfold kdN; rw [List.getElem?_map]; cases L[n]? <;> rfl, fun n => by unfold txN; rw [List.getElem?_map]; cases L[n]? <;> rfl, fun n => by unfold plN; rw [List.getElem?_map]; cases L[n]? <;> rfl,
   fun n => by unfold kN; rw [List.getElem?_map]; cases L[n]? <;> rfl, fun n => by unfold tbN; rw [List.getElem?_map]; cases L[n]? <;> rfl, by simp, checkL_bare L⟩
section
variable {L M : List Nd} (h : Alk L M)
include h
theorem Alk.dec (n : Nat) (m : NM) : decE L n m = decE M n m := by unfold decE; rw [h.tx, h.pl]
theorem Alk.self (E : Env) (C : List NM) (n : Nat) : selfE L E C n = selfE M E C n := by
  unfold selfE
  rw [h.kd, h.tx, h.pl, h.k]
  simp only [h.k]
theorem Alk.exprF (E : Env) (C : List NM) : ∀ f n, exprF L E C f n = exprF M E C f n
  | 0, n => rfl
  | f + 1, n => by
    unfold T5.exprF
    rw [h.self, h.k, eachE_congr (fun k _ => Alk.exprF E C f k)]
theorem Alk.expr (E : Env) (C : List NM) (n : Nat) : exprE L E C n = exprE M E C n := h.exprF E C _ n
theorem Alk.greens (E : Env) (C : List NM) : ∀ l m, greensE L E C l m = greensE M E C l m
  | [], m => rfl
  | k :: r, m => by
    unfold greensE
    rw [h.expr, h.dec]
    cases exprE M E C k with
    | error e => rfl
    | ok u =>
      cases decE M k m with
      | error e => rfl
      | ok m' => exact Alk.greens E C r m'
theorem Alk.merge (E : Env) (C : List NM) (n : Nat) : mergeE L E C n = mergeE M E C n := by unfold mergeE; rw [h.k, h.pl, h.greens]
theorem Alk.stmtF (E : Env) : ∀ f C n m, stmtF L E f C n m = stmtF M E f C n m
  | 0, C, n, m => rfl
  | f + 1, C, n, m => by
    have hk : ∀ n i, kid L n i = kid M n i := fun n i => by unfold kid; rw [h.k]
    have hS : ∀ C l m, seqE (T5.stmtF L E f C) l m = seqE (T5.stmtF M E f C) l m := fun C l m => seqE_congr (fun k _ m => Alk.stmtF E f C k m) m
    have hE : ∀ C l, eachE (exprE L E C) l = eachE (exprE M E C) l := fun C l => eachE_congr (fun k _ => h.expr E C k)
    unfold T5.stmtF
    simp only [h.kd, h.tx, h.pl, hk, h.k, hS, hE, h.expr, h.merge]
theorem Alk.block (E : Env) (C : List NM) (l : List Nat) : blockE L E C l = blockE M E C l := seqE_congr (fun k _ m => h.stmtF E _ C k m) _
theorem Alk.decs : ∀ l m, decsE L l m = decsE M l m
  | [], m => rfl
  | k :: r, m => by
    unfold decsE
    rw [h.dec]
    cases decE M k m with
    | error e => rfl
    | ok m' => exact Alk.decs r m'
theorem Alk.recs : ∀ l rc fl, recsE L l rc fl = recsE M l rc fl
  | [], rc, fl => rfl
  | k :: r, rc, fl => by
    unfold recsE
    simp only [h.kd, h.dec, h.k, h.pl, h.decs]
    split
    · cases decE M k rc with
      | error e => rfl
      | ok rc' =>
        simp only
        split
        · rfl
        · cases decsE M (kN M k) fl with
          | error e => rfl
          | ok fl' => exact Alk.recs r rc' fl'
    · exact Alk.recs r rc fl
theorem Alk.fun_ (E : Env) (f : FnD) : funE L E f = funE M E f := by
  have hk : ∀ n i, kid L n i = kid M n i := fun n i => by unfold kid; rw [h.k]
  unfold funE
  simp only [h.pl, h.k, h.decs, hk, h.block]
theorem Alk.funs (E : Env) : ∀ l, funsE L E l = funsE M E l
  | [] => rfl
  | f :: r => by
    unfold funsE
    rw [h.fun_]
    cases funE M E f with
    | error e => rfl
    | ok u => exact Alk.funs E r
theorem Alk.judge (d : Ds) : judgeE L d = judgeE M d := by
  unfold judgeE
  simp only [h.k, h.len, h.recs, h.decs, h.funs]
theorem Alk.walkL : ∀ f n d, walkL L f n d = walkL M f n d
  | 0, n, d => rfl
  | f + 1, n, d => by
    unfold T5.walkL
    rw [h.k]
    congr 1
    exact flat_congr (fun k _ => Alk.walkL f k (d + 1))
theorem Alk.treeW : treeW L = treeW M := by
  unfold T5.treeW wk
  rw [h.ck, h.len, h.walkL]
theorem Alk.step (d : Ds) (n : Nat) : stepD L d n = stepD M d n := by
  have hm : ∀ l : List Nat, l.map (tbN L) = l.map (tbN M) := fun l => List.map_congr_left (fun k _ => h.tb k)
  unfold stepD
  simp only [h.kd, h.tb, h.k, h.tx, hm]
theorem Alk.desc : descL L = descL M := by
  unfold descL
  rw [h.treeW]
  congr 1
  funext d t
  exact h.step d t.1
theorem Alk.prog : progE L = progE M := by
  unfold progE
  rw [h.ck, h.desc, h.judge, h.len, h.pl]
end
end T5

open T5 (hidC)
theorem T5.progE_ok (L : List T5.Nd) : T5.JOk (T5.progE L) := by
  unfold T5.progE
  split
  · rename_i h
    exact T5.JOk.err _ h
  · exact T5.JOk.of (T5.judgeE_ok L _) (fun e he => by rw [he]) (fun x hx => by rw [hx]; exact T5.JOk.ok _)
/-- What a text is: its nodes and its description, or a place and an error. -/
def srcL (s : ByteArray) : Except (Int × Nat) (List PN × T5.Ds) := match prgL s with
  | .error (p, c) => .error ((p : Int), c)
  | .ok ms => match T5.progE (ms.map nx5) with
    | .error e => .error e
    | .ok d => .ok (ms, d)
/-- What Source answers. -/
def SOut (s : ByteArray) (w w' : World) (e : Ending) : Prop := match srcL s with
  | .error (p, c) => e = .returned (.tuple #[.slice none 0 0, .agg #[.slice none 0 0, .slice none 0 0, .int .i64 0, .slice none 0 0], .int .i64 p, .int .i64 (c : Nat)])
  | .ok (ms, d) => ∃ (a : Option Addr) (c : Nat) (L : List MN) (sv fv mv : Value) (SS : List T5.SrM) (FF : List T5.FnM), e = .returned (.tuple #[.slice a L.length c, .agg #[sv, fv, .int .i64 (d.main : Nat), mv], .int .i64 0, .int .i64 0]) ∧ L.map MN.x = ms ∧ T5.NAt w'.heap.size w' a (L.map nd5) ∧ T5.DM w' w.heap.size d sv fv mv SS FF
theorem SOut.err {s : ByteArray} {w w' : World} {p : Int} {c : Nat} (h : srcL s = .error (p, c)) : SOut s w w' (.returned (.tuple #[.slice none 0 0, .agg #[.slice none 0 0, .slice none 0 0, .int .i64 0, .slice none 0 0], .int .i64 p, .int .i64 (c : Nat)])) := by unfold SOut; rw [h]
theorem SOut.ok {s : ByteArray} {w w' : World} {ms : List PN} {d : T5.Ds} {e : Ending} (h : srcL s = .ok (ms, d)) (k : ∃ (a : Option Addr) (c : Nat) (L : List MN) (sv fv mv : Value) (SS : List T5.SrM) (FF : List T5.FnM), e = .returned (.tuple #[.slice a L.length c, .agg #[sv, fv, .int .i64 (d.main : Nat), mv], .int .i64 0, .int .i64 0]) ∧ L.map MN.x = ms ∧ T5.NAt w'.heap.size w' a (L.map nd5) ∧ T5.DM w' w.heap.size d sv fv mv SS FF) : SOut s w w' e := by unfold SOut; rw [h]; exact k

end Go.Proofs.YtnmfcaahdeddnaaGreatDoor
namespace Go.Proofs.YtnmfcaahdeddnaaGreatDoor
open Go.RowKit
open T5 (hidC)
set_option linter.unusedVariables false
set_option linter.unusedSimpArgs false

set_option maxRecDepth 100000 in
set_option maxHeartbeats 4000000 in
theorem source_any (s : ByteArray) (w : World) (hs : s.size ≤ 200000) (T : Tabs w) (hT : ∀ ms, prgL s = .ok ms → ms.length ≤ 50000 ∧ ∀ x ∈ ms, x.text.length ≤ 200020) :
    Calls Tryz.prog 8 #[.string s] w fun e w' => SOut s w w' e ∧ Fr [] w w' := by
  have F0 : Fr [] w (w.alloc (.cells #[.slice none 0 0, .slice none 0 0, .int .i64 0, .slice none 0 0] 28)) := (Fr.refl _ _).alloc _
  have r0 := heap_alloc_new w (.cells #[.slice none 0 0, .slice none 0 0, .int .i64 0, .slice none 0 0] 28)
  have C := prog_any s (w.alloc (.cells #[.slice none 0 0, .slice none 0 0, .int .i64 0, .slice none 0 0] 28)) hs (T.fr F0 (by simp))
  have HT := hidC hT
  have HTT := hidC T
  have HZ : Hid (∀ (w4 : World) x0 x1 x2 x3, Fr [] w w4 → w4.heap[w.heap.size]? = some (.cells #[.slice none 0 0, .slice none 0 0, .int .i64 0, .slice none 0 0] 28 (0, 0)) → Fr [] w ((((w4.setCell ⟨w.heap.size, 0, none⟩ x0).setCell ⟨w.heap.size, 1, none⟩ x1).setCell ⟨w.heap.size, 2, none⟩ x2).setCell ⟨w.heap.size, 3, none⟩ x3) ∧ Fr [w.heap.size] w4 ((((w4.setCell ⟨w.heap.size, 0, none⟩ x0).setCell ⟨w.heap.size, 1, none⟩ x1).setCell ⟨w.heap.size, 2, none⟩ x2).setCell ⟨w.heap.size, 3, none⟩ x3) ∧ ((((w4.setCell ⟨w.heap.size, 0, none⟩ x0).setCell ⟨w.heap.size, 1, none⟩ x1).setCell ⟨w.heap.size, 2, none⟩ x2).setCell ⟨w.heap.size, 3, none⟩ x3).heap[w.heap.size]? = some (.cells #[x0, x1, x2, x3] 28 (0, 0))) := fun w4 x0 x1 x2 x3 F5 r4 => by
    have f9 : Fr [w.heap.size] w4 ((((w4.setCell ⟨w.heap.size, 0, none⟩ x0).setCell ⟨w.heap.size, 1, none⟩ x1).setCell ⟨w.heap.size, 2, none⟩ x2).setCell ⟨w.heap.size, 3, none⟩ x3) := ((((Fr.refl _ _).setCell (.inl (by simp)) _).setCell (.inl (by simp)) _).setCell (.inl (by simp)) _).setCell (.inl (by simp)) _
    exact ⟨F5.over f9 (by simp), f9, T5.set4_3 (T5.set4_2 (T5.set4_1 (T5.set4_0 r4)))⟩
  clear T hT
  go_enter Tryz.func8, Tryz.ntmps8
  go_wp2_with fail
  refine C.mono ?_
  rintro e w1 ⟨hO, f1⟩
  have r1 := (f1.block _ (Array.getElem?_eq_some_iff.1 r0).1 (by simp)).trans r0
  have F1 := F0.trans f1
  have HS0 : Hid (w.heap.size ≤ (w.alloc (.cells #[.slice none 0 0, .slice none 0 0, .int .i64 0, .slice none 0 0] 28)).heap.size) := F0.size
  clear C r0 F0
  cases hp : prgL s with
  | error x =>
    obtain ⟨p, c⟩ := x
    have hc0 : ((c : Int) != 0) = true := by have := prg_err_ne hp; simp; omega
    have hsrc : srcL s = .error ((p : Int), c) := by unfold srcL; rw [hp]
    unfold PrgOut at hO
    rw [hp] at hO
    have hO' : e = .returned (.tuple #[.slice none 0 0, .int .i64 (p : Nat), .int .i64 (c : Nat)]) := hO
    subst hO'
    have c0 := at_cells r1 0 rfl
    have c1 := at_cells r1 1 rfl
    have c2 := at_cells r1 2 rfl
    have c3 := at_cells r1 3 rfl
    have z1 : ∀ i, w1.frozen? ⟨w.heap.size, i, none⟩ = false := fun i => by simp [World.frozen?, r1]
    have HX := hidC (HZ.out w1 (.slice none 0 0) (.slice none 0 0) (.int .i64 0) (.slice none 0 0) F1 r1)
    have HSR := hidC hsrc
    clear hO hp f1 hsrc
    go_wp2
    obtain ⟨t1, t2, t3⟩ := HX.out
    have k0 := at_cells t3 0 rfl
    have k1 := at_cells t3 1 rfl
    have k2 := at_cells t3 2 rfl
    have k3 := at_cells t3 3 rfl
    refine bodyPost_ret (v := .tuple #[.slice none 0 0, .agg #[.slice none 0 0, .slice none 0 0, .int .i64 0, .slice none 0 0], .int .i64 p, .int .i64 c]) (by simp [results, Tryz.results8, go_sem, k0, k1, k2, k3]) rfl ⟨SOut.err HSR.out, t1⟩
  | ok ms =>
    unfold PrgOut at hO
    rw [hp] at hO
    obtain ⟨nv, L, F', rfl, hL, hown, hob, hkr, hF⟩ := hO
    obtain ⟨a, c, rfl, -⟩ := own_slice hown
    obtain ⟨hml, hmt⟩ := HT.out ms hp
    have hll : L.length = ms.length := by rw [← hL]; simp
    have hN := nodes5 hown hkr (fun j hj => (hF j hj).2) (fun m hm => hmt m.x (by rw [← hL]; exact List.mem_map_of_mem hm))
    have C19 := T5.prog8_any (len := L.length) (cap := c) (by simp) hN (by omega) (HTT.out.fr F1 (by simp))
    have hsrc : srcL s = match T5.progE (L.map nd5) with | .error e => .error e | .ok d => .ok (ms, d) := by
      unfold srcL
      rw [hp]
      simp only
      have e1 : (L.map nd5).map bare5 = ms.map nx5 := by rw [← hL]; simp [nd5, nx5, bare5, Function.comp_def]
      rw [← e1, (T5.alk_bare (L.map nd5)).prog]
      try (cases T5.progE (L.map nd5) <;> rfl)
    have HSR := hidC hsrc
    have HLL := hidC hL
    have HN := hidC hN
    have HNF : Hid (∀ w', Fr [w.heap.size] w1 w' → T5.NAt w'.heap.size w' a (L.map nd5)) := fun w' f => by
      have hF' : ∀ j ∈ F', w.heap.size + 1 ≤ j ∧ j < w1.heap.size := fun j hj => by have := hF j hj; simpa using this
      refine nodes5 (own_fr hown f (fun k hk hm => ?_)) (fun m hm => (hkr m hm).fr f (fun k hk hm => ?_)) (fun j hj => ?_) (fun m hm => hmt m.x (by rw [← hL]; exact List.mem_map_of_mem hm))
      · have h1 := (hF' k (hob k hk)).1
        simp at hm; omega
      · have h1 := (hF' k hm).1
        simp at hk; omega
      · have h1 := (hF' j hj).2
        have := f.size
        omega
    have hlI : (L.length : Int) ≤ 50000 := by omega
    clear hown hob hkr hF hp hN hsrc f1 hL hll hmt hml
    go_wp2_with fail
    refine C19.mono ?_
    rintro e w2 ⟨hO, f2⟩
    have r2 := (f2.block _ (Array.getElem?_eq_some_iff.1 r1).1 (by simp)).trans r1
    have F2 := F1.trans f2
    have Hf2 := hidC f2
    have HS1 : Hid (w.heap.size ≤ w1.heap.size) := F1.size
    cases hq : T5.progE (L.map nd5) with
    | error pe =>
      obtain ⟨pp, ee⟩ := pe
      unfold T5.POut at hO
      rw [hq] at hO HSR
      have hO' : e = .returned (.tuple #[.agg #[.slice none 0 0, .slice none 0 0, .int .i64 0, .slice none 0 0], .int .i64 pp, .int .i64 (ee : Nat)]) := hO
      subst hO'
      have hc0 : ((ee : Int) != 0) = true := by have := T5.progE_ok _ pp ee hq; simp; omega
      have F3 : Fr [] w2 (w2.alloc (.cells #[.slice none 0 0, .slice none 0 0, .int .i64 0, .slice none 0 0] 28)) := (Fr.refl _ _).alloc _
      have r3 := T5.keep_alloc (u := .cells #[.slice none 0 0, .slice none 0 0, .int .i64 0, .slice none 0 0] 28) r2
      have F4 := F2.trans F3
      have c0 := at_cells r3 0 rfl
      have c1 := at_cells r3 1 rfl
      have c2 := at_cells r3 2 rfl
      have c3 := at_cells r3 3 rfl
      have z1 : ∀ i, (w2.alloc (.cells #[.slice none 0 0, .slice none 0 0, .int .i64 0, .slice none 0 0] 28)).frozen? ⟨w.heap.size, i, none⟩ = false := fun i => by simp [World.frozen?, r3]
      have HX := hidC (HZ.out _ (.slice none 0 0) (.slice none 0 0) (.int .i64 0) (.slice none 0 0) F4 r3)
      clear hO hq f2 C19 HZ F3
      go_wp2
      obtain ⟨t1, t2, t3⟩ := HX.out
      have k0 := at_cells t3 0 rfl
      have k1 := at_cells t3 1 rfl
      have k2 := at_cells t3 2 rfl
      have k3 := at_cells t3 3 rfl
      refine bodyPost_ret (v := .tuple #[.slice none 0 0, .agg #[.slice none 0 0, .slice none 0 0, .int .i64 0, .slice none 0 0], .int .i64 pp, .int .i64 ee]) (by simp [results, Tryz.results8, go_sem, k0, k1, k2, k3]) rfl ⟨SOut.err HSR.out, t1⟩
    | ok d =>
      unfold T5.POut at hO
      rw [hq] at hO HSR
      obtain ⟨sv, fv, mv, SS, FF, rfl, hDM⟩ := hO
      obtain ⟨sa, sc, rfl, _⟩ := own_slice hDM.so
      obtain ⟨fa, fc, rfl, _⟩ := own_slice hDM.fo
      obtain ⟨ma, mc, rfl, _⟩ := own_slice hDM.mo
      have F3 : Fr [] w2 (w2.alloc (.cells #[.slice sa SS.length sc, .slice fa FF.length fc, .int .i64 (d.main : Nat), .slice ma d.merges.length mc] 28)) := (Fr.refl _ _).alloc _
      have r3 := T5.keep_alloc (u := .cells #[.slice sa SS.length sc, .slice fa FF.length fc, .int .i64 (d.main : Nat), .slice ma d.merges.length mc] 28) r2
      have b3 := heap_alloc_new w2 (.cells #[.slice sa SS.length sc, .slice fa FF.length fc, .int .i64 (d.main : Nat), .slice ma d.merges.length mc] 28)
      have HDM := hidC (hDM.fr F3 (by simp))
      have F4 := F2.trans F3
      have HFA := hidC (Hf2.out.trans F3)
      clear hq f2 C19 F3 hDM r2 F2 HN
      go_upto_region 7 with fail
      generalize w2.alloc (.cells #[.slice sa SS.length sc, .slice fa FF.length fc, .int .i64 (d.main : Nat), .slice ma d.merges.length mc] 28) = W3 at *
      generalize w2.heap.size = nb at *
      have c0 := at_cells r3 0 rfl
      have c1 := at_cells r3 1 rfl
      have c2 := at_cells r3 2 rfl
      have c3 := at_cells r3 3 rfl
      have d0 := at_cells b3 0 rfl
      have d1 := at_cells b3 1 rfl
      have d2 := at_cells b3 2 rfl
      have d3 := at_cells b3 3 rfl
      have z1 : ∀ i, W3.frozen? ⟨w.heap.size, i, none⟩ = false := fun i => by simp [World.frozen?, r3]
      have HX := hidC (HZ.out W3 (.slice sa SS.length sc) (.slice fa FF.length fc) (.int .i64 (d.main : Nat)) (.slice ma d.merges.length mc) F4 r3)
      have HMB : Hid (∀ W, Fr [w.heap.size] W3 W → T5.DM W w.heap.size d (.slice sa SS.length sc) (.slice fa FF.length fc) (.slice ma d.merges.length mc) SS FF ∧ T5.NAt W.heap.size W a (L.map nd5)) := fun W f => by
        have y8 := HDM.out.fr f (fun k hk => by simp at hk; subst hk; exact HDM.out.off r3 (by intro c t z e; cases e; decide))
        have hb := HS1.out
        refine ⟨⟨T5.own_base hb y8.so, T5.own_base hb y8.fo, T5.own_base hb y8.mo, fun s hs => T5.own_base hb (y8.ss s hs), fun g hg => T5.own_base hb (y8.ff g hg), y8.es, y8.ef, y8.ap⟩, ?_⟩
        exact HNF.out W ((HFA.out.sub (by simp)).trans f)
      go_region
      all_goals
        obtain ⟨t1, t2, t3⟩ := HX.out
        have k0 := at_cells t3 0 rfl
        have k1 := at_cells t3 1 rfl
        have k2 := at_cells t3 2 rfl
        have k3 := at_cells t3 3 rfl
        go_wp2
        refine bodyPost_ret (v := .tuple #[.slice a L.length c, .agg #[.slice sa SS.length sc, .slice fa FF.length fc, .int .i64 (d.main : Nat), .slice ma d.merges.length mc], .int .i64 0, .int .i64 0]) (by simp [results, Tryz.results8, go_sem, k0, k1, k2, k3]) rfl ⟨?_, t1.drew⟩
        obtain ⟨m1, m2⟩ := HMB.out _ t2.drew
        exact SOut.ok HSR.out ⟨a, c, L, _, _, _, SS, FF, rfl, HLL.out, m2, m1⟩
end Go.Proofs.YtnmfcaahdeddnaaGreatDoor
namespace Go.Proofs.YtnmfcaahdeddnaaGreatDoor
open Go.RowKit
open T5 (hidC)
set_option linter.unusedVariables false
set_option linter.unusedSimpArgs false

def exA : ByteArray := ⟨#[102, 110, 32, 109, 97, 105, 110, 40, 41, 32, 123, 32, 109, 101, 114, 103, 101, 40, 41, 59, 32, 114, 101, 116, 117, 114, 110, 32, 48, 59, 32, 125]⟩
def exB : ByteArray := ⟨([102, 110, 32, 109, 97, 105, 110, 40, 41, 32, 123, 32, 108, 101, 116, 32, 120, 32, 61, 32, 49, 59, 32, 119, 104, 105, 108, 101, 32, 120, 32, 123, 32].append [109, 101, 114, 103, 101, 40, 120, 41, 59, 32, 120, 32, 61, 32, 120, 32, 45, 32, 49, 59, 32, 125, 32, 114, 101, 116, 117, 114, 110, 32, 120, 59, 32, 125]).toArray⟩
def lensB (s : ByteArray) : Bool := match prgL s with
  | .ok ms => decide (ms.length ≤ 50000) && ms.all (fun x => decide (x.text.length ≤ 200020))
  | .error _ => true
def goodA : Bool := match srcL exA with
  | .error (p, c) => p == 12 && c == 82
  | .ok _ => false
def goodB : Bool := match srcL exB with
  | .error _ => false
  | .ok (ms, d) => decide (5 < ms.length) && d.merges.length == 1 && d.fns.length == 1
theorem lensA_ok : lensB exA = true := by kernel_rfl
theorem lensB_ok : lensB exB = true := by kernel_rfl
theorem goodA_ok : goodA = true := by kernel_rfl
theorem goodB_ok : goodB = true := by kernel_rfl
theorem lens_of {s : ByteArray} (h : lensB s = true) : ∀ ms, prgL s = .ok ms → ms.length ≤ 50000 ∧ ∀ x ∈ ms, x.text.length ≤ 200020 := fun ms hp => by
  unfold lensB at h
  rw [hp] at h
  simp at h
  exact h

set_option maxRecDepth 100000 in
set_option maxHeartbeats 4000000 in
theorem awake_any (w : World) (T : Tabs w) : Calls Tryz.prog 7 #[] w fun e w' => e = .returned (.bool true) ∧ Fr [] w w' := by
  have CA := source_any exA w (by decide) T (lens_of lensA_ok)
  have HB : Hid (∀ w', Fr [] w w' → Calls Tryz.prog 8 #[.string exB] w' fun e w'' => SOut exB w' w'' e ∧ Fr [] w' w'') := fun w' f => source_any exB w' (by decide) (T.fr f (by simp)) (lens_of lensB_ok)
  have gA := goodA_ok
  have gB := goodB_ok
  unfold goodA at gA
  unfold goodB at gB
  cases hA : srcL exA with
  | ok x => rw [hA] at gA; simp at gA
  | error pe =>
    obtain ⟨p, c⟩ := pe
    rw [hA] at gA
    simp at gA
    obtain ⟨rfl, rfl⟩ := gA
    cases hB : srcL exB with
    | error pe => rw [hB] at gB; simp at gB
    | ok x =>
      obtain ⟨ms, d⟩ := x
      rw [hB] at gB
      simp at gB
      have HA := hidC hA
      have HBB := hidC hB
      have HG := hidC gB
      clear hA hB gB T
      go_enter Tryz.func7, Tryz.ntmps7
      go_wp2_with fail
      refine CA.mono ?_
      rintro e w1 ⟨hO, f1⟩
      unfold SOut at hO
      rw [HA.out] at hO
      have hO' : e = .returned (.tuple #[.slice none 0 0, .agg #[.slice none 0 0, .slice none 0 0, .int .i64 0, .slice none 0 0], .int .i64 12, .int .i64 82]) := hO
      subst hO'
      have F2 : Fr [] w (w1.alloc (.cells #[.slice none 0 0, .slice none 0 0, .int .i64 0, .slice none 0 0] 28)) := f1.alloc _
      have CB := HB.out _ F2
      clear hO CA HB f1
      go_wp2_with fail
      refine CB.mono ?_
      rintro e w3 ⟨hO, f3⟩
      unfold SOut at hO
      rw [HBB.out] at hO
      obtain ⟨a, c, L, sv, fv, mv, SS, FF, rfl, hL, hN, hDM⟩ := hO
      obtain ⟨sa, sc, rfl, _⟩ := own_slice hDM.so
      obtain ⟨fa, fc, rfl, _⟩ := own_slice hDM.fo
      obtain ⟨ma, mc, rfl, _⟩ := own_slice hDM.mo
      have h1 : (5 : Int) < L.length := by have h := HG.out.1.1; rw [← hL, List.length_map] at h; omega
      have h2 : d.merges.length = 1 := HG.out.1.2
      have h3 : FF.length = 1 := by have h := HG.out.2; rw [← hDM.ef, List.length_map] at h; exact h
      rw [h2, h3]
      have F4 := F2.trans f3
      have HF4 := hidC F4
      clear hL hN hDM h2 h3 CB f3 F2 F4
      go_wp2
      go_ret
      exact ⟨rfl, HF4.out.alloc _⟩
end Go.Proofs.YtnmfcaahdeddnaaGreatDoor
namespace Go.Proofs.YtnmfcaahdeddnaaGreatDoor
open Go.RowKit
open T5 (hidC)
set_option linter.unusedVariables false
set_option linter.unusedSimpArgs false

/-- Texts in a row. -/
def StAt (B : Nat) (w : World) (a : Option Addr) (l : List ByteArray) : Prop := ∀ (j : Nat) (s : ByteArray), l[j]? = some s → ∃ b o, a = some ⟨b, o, none⟩ ∧ b < B ∧ w.cell? ⟨b, o + j, none⟩ = some (.string s)
theorem StAt.fr {B : Nat} {S : List Nat} {w w' : World} {a : Option Addr} {l : List ByteArray} (h : StAt B w a l) (f : Fr S w w') (hS : ∀ k, k ∈ S → B ≤ k) : StAt B w' a l := fun j s hs => by
  obtain ⟨b, o, e, hb, hc⟩ := h j s hs
  exact ⟨b, o, e, hb, f.cell1 hc (fun hm => by have := hS _ hm; simp at this; omega)⟩
/-- A record: its name, its fields. -/
structure SrC where
  nm : ByteArray
  a : Option Addr
  c : Nat
  fs : List ByteArray
structure SCell (B : Nat) (w : World) (b o : Nat) (x : SrC) : Prop where
  c0 : w.cell? ⟨b, o, none⟩ = some (.string x.nm)
  c1 : w.cell? ⟨b, o + 1, none⟩ = some (.slice x.a x.fs.length x.c)
  k : StAt B w x.a x.fs
  l : x.fs.length ≤ 10000000000000
def SsAt (B : Nat) (w : World) (a : Option Addr) (S : List SrC) : Prop := ∀ (i : Nat) (x : SrC), S[i]? = some x → ∃ b o, a = some ⟨b, o, none⟩ ∧ b < B ∧ SCell B w b (o + i * 2) x
theorem SsAt.fr {B : Nat} {T : List Nat} {w w' : World} {a : Option Addr} {S : List SrC} (h : SsAt B w a S) (f : Fr T w w') (hS : ∀ k, k ∈ T → B ≤ k) : SsAt B w' a S := fun i x hx => by
  obtain ⟨b, o, e, hb, hc⟩ := h i x hx
  have hn : b ∉ T := fun hm => by have := hS _ hm; omega
  exact ⟨b, o, e, hb, ⟨f.cell1 hc.c0 hn, f.cell1 hc.c1 hn, hc.k.fr f hS, hc.l⟩⟩

/-- Where a text stands. -/
def ixF (s : ByteArray) (p : Nat) : List ByteArray → Option Nat
  | [] => none
  | x :: r => if x.toList = s.toList then some p else ixF s (p + 1) r
def fldL (s : ByteArray) (p : Nat) : List SrC → Option (Nat × Nat)
  | [] => none
  | x :: r => match ixF s 0 x.fs with | some k => some (p, k) | none => fldL s (p + 1) r
def ixZ : Option Nat → Int
  | some k => k
  | none => -1
def fldE : Option (Nat × Nat) → Ending
  | some (p, k) => .returned (.tuple #[.int .i64 (p : Nat), .int .i64 (k : Nat), .bool true])
  | none => .returned (.tuple #[.int .i64 0, .int .i64 0, .bool false])

set_option maxRecDepth 100000 in
set_option maxHeartbeats 1000000 in
theorem ix_any {B : Nat} {w : World} {a : Option Addr} {n : Nat} (cap : Nat) {l : List ByteArray} (h : StAt B w a l) (hl : l.length = n) (hn : n ≤ 10000000000000) (s : ByteArray) :
    Calls Tryz.prog 30 #[.slice a n cap, .string s] w fun e w' => e = .returned (.int .i64 (ixZ (ixF s 0 l))) ∧ w' = w := by
  have HL := hidC hl
  have hnI : (n : Int) ≤ 10000000000000 := by omega
  clear hl
  go_enter Tryz.func30, Tryz.ntmps30
  go_wp2
  go_loop [5, 8] (fun _ i => ∃ p : Nat, p ≤ n ∧ i = .int .i64 p ∧ Hid (ixF s p (l.drop p) = ixF s 0 l)) (fun _ i => n - (intOf i).toNat)
  case atStart => exact ⟨0, Nat.zero_le _, rfl, by unfold Hid; simp⟩
  case round =>
    obtain ⟨p, hp, rfl, he⟩ := hrel
    by_cases hlt : p < n
    · have hpl : p < l.length := by rw [HL.out]; exact hlt
      have hpI : (p : Int) < n := by omega
      have hx : l[p]? = some l[p] := List.getElem?_eq_getElem hpl
      obtain ⟨b, o, rfl, hb, hc⟩ := h p _ hx
      have HE : Hid ((if (l[p]).toList = s.toList then some p else ixF s (p + 1) (l.drop (p + 1))) = ixF s 0 l) := by
        have h1 := he.out
        rw [List.drop_eq_getElem_cons hpl] at h1
        exact h1
      generalize l[p] = x at *
      clear hx he hpl
      by_cases hq : x.toList = s.toList
      · rw [if_pos hq] at HE
        have hq2 : (s.toList == x.toList) = true := by simp [hq]
        clear hq
        go_wp2
        go_ret
        exact ⟨by rw [← HE.out]; rfl, rfl⟩
      · rw [if_neg hq] at HE
        have hq2 : (s.toList == x.toList) = false := by simpa using fun h => hq h.symm
        clear hq
        go_wp2
        go_round
        case rel => exact ⟨p + 1, hlt, by go_num, HE.out⟩
        case measure => simp [intOf]; omega
    · have hpI : ¬ (p : Int) < n := by omega
      have HE : Hid (none = ixF s 0 l) := by
        have h1 := he.out
        rw [List.drop_of_length_le (by rw [HL.out]; omega)] at h1
        exact h1
      clear he
      go_wp2
      go_ret
      exact ⟨by rw [← HE.out]; rfl, rfl⟩

set_option maxRecDepth 100000 in
set_option maxHeartbeats 2000000 in
theorem field_any {B : Nat} {w : World} {a : Option Addr} {n cap : Nat} {S : List SrC} (h : SsAt B w a S) (hl : S.length = n) (hn : n ≤ 50) (x1 x2 x3 : Value) (s : ByteArray) :
    Calls Tryz.prog 16 #[.agg #[.slice a n cap, x1, x2, x3], .string s] w fun e w' => e = fldE (fldL s 0 S) ∧ Fr [] w w' := by
  have HL := hidC hl
  have hnI : (n : Int) ≤ 50 := by omega
  have F0 : Fr [] w (w.alloc (.cells #[.slice a n cap, x1, x2, x3] 28)) := (Fr.refl _ _).alloc _
  have b0 := heap_alloc_new w (.cells #[.slice a n cap, x1, x2, x3] 28)
  have c0 := at_cells b0 0 rfl
  have HS := hidC (h.fr F0 (by simp))
  have HF0 := hidC F0
  clear hl h F0 b0
  go_enter Tryz.func16, Tryz.ntmps16
  go_wp2
  generalize w.alloc (.cells #[.slice a n cap, x1, x2, x3] 28) = W at *
  clear c0
  go_loopw [7, 8, 9, 13] (fun _ _ _ i wr => ∃ p : Nat, p ≤ n ∧ i = .int .i64 p ∧ Fr [] W wr ∧ Hid (fldL s p (S.drop p) = fldL s 0 S)) (fun _ _ _ i _ => n - (intOf i).toNat)
  case atStart => exact ⟨0, Nat.zero_le _, rfl, Fr.refl _ _, by unfold Hid; simp⟩
  case round =>
    obtain ⟨p, hp, rfl, fw, he⟩ := hrel
    by_cases hlt : p < n
    · have hpl : p < S.length := by rw [HL.out]; exact hlt
      have hpI : (p : Int) < n := by omega
      have hx : S[p]? = some S[p] := List.getElem?_eq_getElem hpl
      obtain ⟨b, o, rfl, hb, hc⟩ := (HS.out.fr fw (by simp)) p _ hx
      have HE : Hid ((match ixF s 0 (S[p]).fs with | some k => some (p, k) | none => fldL s (p + 1) (S.drop (p + 1))) = fldL s 0 S) := by
        have h1 := he.out
        rw [List.drop_eq_getElem_cons hpl] at h1
        exact h1
      generalize S[p] = x at *
      have F5 : Fr [] wr (wr.alloc (.cells #[.string x.nm, .slice x.a x.fs.length x.c] 58)) := (Fr.refl _ _).alloc _
      have bx := heap_alloc_new wr (.cells #[.string x.nm, .slice x.a x.fs.length x.c] 58)
      have C30 := ix_any x.c (hc.k.fr F5 (by simp)) rfl hc.l s
      have ng : b ≠ wr.heap.size := by have := World.block_lt_of_cell? wr _ hc.c0; simp only at this; omega
      have g0 := hc.c0
      have g1 := hc.c1
      have HFW := hidC (fw.trans F5)
      clear hx he hpl hc fw F5
      generalize x.fs.length = fl at *
      cases hk : ixF s 0 x.fs with
      | some k =>
        rw [hk] at C30 HE
        have hk0 : ¬ ((k : Nat) : Int) < 0 := by omega
        have C31 : Calls Tryz.prog 30 #[.slice x.a fl x.c, .string s] (wr.alloc (.cells #[.string x.nm, .slice x.a fl x.c] 58)) fun e w' => e = .returned (.int .i64 (k : Nat)) ∧ w' = (wr.alloc (.cells #[.string x.nm, .slice x.a fl x.c] 58)) := C30
        have hk1 : (0 : Int) ≤ (k : Nat) := by omega
        clear C30 hk
        go_wp2_with (go_at_call 30; with_reducible (refine C31.mono ?_); rintro ex wz ⟨rfl, hwz⟩; have hwz' := hwz.symm; subst hwz')
        exact bodyPost_ret (v := .tuple #[.int .i64 (p : Nat), .int .i64 (k : Nat), .bool true]) (by simp [results, Tryz.results16]) rfl ⟨by rw [← HE.out]; rfl, HF0.out.trans HFW.out⟩
      | none =>
        rw [hk] at C30 HE
        have C31 : Calls Tryz.prog 30 #[.slice x.a fl x.c, .string s] (wr.alloc (.cells #[.string x.nm, .slice x.a fl x.c] 58)) fun e w' => e = .returned (.int .i64 (-1)) ∧ w' = (wr.alloc (.cells #[.string x.nm, .slice x.a fl x.c] 58)) := C30
        clear C30 hk
        go_wp2_with (go_at_call 30; with_reducible (refine C31.mono ?_); rintro ex wz ⟨rfl, hwz⟩; have hwz' := hwz.symm; subst hwz')
        go_roundw
        case rel => exact ⟨p + 1, hlt, by go_num, HFW.out, HE.out⟩
        case measure => simp [intOf]; omega
    · have hpI : ¬ (p : Int) < n := by omega
      have HE : Hid (none = fldL s 0 S) := by
        have h1 := he.out
        rw [List.drop_of_length_le (by rw [HL.out]; omega)] at h1
        exact h1
      clear he
      go_wp2
      exact bodyPost_ret (v := .tuple #[.int .i64 0, .int .i64 0, .bool false]) (by simp [results, Tryz.results16]) rfl ⟨by rw [← HE.out]; rfl, HF0.out.trans fw⟩

set_option maxRecDepth 100000 in
set_option maxHeartbeats 2000000 in
theorem rfield_any {B : Nat} {w : World} {a : Option Addr} {n cap : Nat} {S : List SrC} (h : SsAt B w a S) (hl : S.length = n) (hn : n ≤ 50) (x1 x2 x3 : Value) (s : ByteArray) :
    Calls Tryz.prog 17 #[.agg #[.slice a n cap, x1, x2, x3], .string s] w fun e w' => e = fldE (fldL s 0 S) ∧ Fr [] w w' := by
  have HL := hidC hl
  have hnI : (n : Int) ≤ 50 := by omega
  have F0 : Fr [] w (w.alloc (.cells #[.slice a n cap, x1, x2, x3] 28)) := (Fr.refl _ _).alloc _
  have b0 := heap_alloc_new w (.cells #[.slice a n cap, x1, x2, x3] 28)
  have c0 := at_cells b0 0 rfl
  have HS := hidC (h.fr F0 (by simp))
  have HF0 := hidC F0
  clear hl h F0 b0
  go_enter Tryz.func17, Tryz.ntmps17
  go_wp2
  generalize w.alloc (.cells #[.slice a n cap, x1, x2, x3] 28) = W at *
  clear c0
  go_loopw [7, 8, 9, 10, 14, 22] (fun _ _ _ _ i _ wr => ∃ p : Nat, p ≤ n ∧ i = .int .i64 p ∧ Fr [] W wr ∧ Hid (fldL s p (S.drop p) = fldL s 0 S)) (fun _ _ _ _ i _ _ => n - (intOf i).toNat)
  case atStart => exact ⟨0, Nat.zero_le _, rfl, Fr.refl _ _, by unfold Hid; simp⟩
  case round =>
    obtain ⟨p, hp, rfl, fw, he⟩ := hrel
    by_cases hlt : p < n
    · have hpl : p < S.length := by rw [HL.out]; exact hlt
      have hpI : (p : Int) < n := by omega
      have hx : S[p]? = some S[p] := List.getElem?_eq_getElem hpl
      obtain ⟨b, o, rfl, hb, hc⟩ := (HS.out.fr fw (by simp)) p _ hx
      have HE : Hid ((match ixF s 0 (S[p]).fs with | some k => some (p, k) | none => fldL s (p + 1) (S.drop (p + 1))) = fldL s 0 S) := by
        have h1 := he.out
        rw [List.drop_eq_getElem_cons hpl] at h1
        exact h1
      generalize S[p] = x at *
      have F5 : Fr [] wr (wr.alloc (.cells #[.string x.nm, .slice x.a x.fs.length x.c] 58)) := (Fr.refl _ _).alloc _
      have bx := heap_alloc_new wr (.cells #[.string x.nm, .slice x.a x.fs.length x.c] 58)
      have ng : b ≠ wr.heap.size := by have := World.block_lt_of_cell? wr _ hc.c0; simp only at this; omega
      have g0 := hc.c0
      have g1 := hc.c1
      have HFW := hidC (fw.trans F5)
      have HK := hidC (hc.k.fr F5 (by simp))
      have hfl : x.fs.length ≤ 10000000000000 := hc.l
      have e1 := at_cells bx 1 rfl
      obtain ⟨wA, hwA⟩ : ∃ x : World, x = wr := ⟨_, rfl⟩
      subst hwA
      clear hx he hpl hc fw F5 bx
      generalize x.a = xa at *
      generalize hfn : x.fs.length = fl at *
      have HFN := hidC hfn
      have hflI : (fl : Int) ≤ 10000000000000 := by omega
      clear hfn
      go_wp2
      generalize wA.alloc (.cells #[.string x.nm, .slice xa fl x.c] 58) = W5 at *
      clear e1 g0 g1 ng
      go_loop [9, 10, 22] (fun _ _ i => ∃ q : Nat, q ≤ fl ∧ i = .int .i64 q ∧ Hid (ixF s q (x.fs.drop q) = ixF s 0 x.fs)) (fun _ _ i => fl - (intOf i).toNat)
      case atStart => exact ⟨0, Nat.zero_le _, rfl, by unfold Hid; simp⟩
      case round =>
        obtain ⟨q, hq, rfl, he⟩ := hrel
        by_cases hlt2 : q < fl
        · have hql : q < x.fs.length := by rw [HFN.out]; exact hlt2
          have hqI : (q : Int) < fl := by omega
          have hy : x.fs[q]? = some x.fs[q] := List.getElem?_eq_getElem hql
          obtain ⟨b2, o2, e2, hb2, hc2⟩ := HK.out q _ hy
          subst e2
          have HE2 : Hid ((if (x.fs[q]).toList = s.toList then some q else ixF s (q + 1) (x.fs.drop (q + 1))) = ixF s 0 x.fs) := by
            have h1 := he.out
            rw [List.drop_eq_getElem_cons hql] at h1
            exact h1
          generalize x.fs[q] = y at *
          clear hy he hql
          by_cases hqq : y.toList = s.toList
          · rw [if_pos hqq] at HE2
            have hq2 : (y.toList == s.toList) = true := by simp [hqq]
            have HE3 : Hid (some (p, q) = fldL s 0 S) := by have h1 := HE.out; rw [← HE2.out] at h1; exact h1
            clear hqq
            go_wp2
            exact bodyPost_ret (v := .tuple #[.int .i64 (p : Nat), .int .i64 (q : Nat), .bool true]) (by simp [results, Tryz.results17]) rfl ⟨by rw [← HE3.out]; rfl, HF0.out.trans HFW.out⟩
          · rw [if_neg hqq] at HE2
            have hq2 : (y.toList == s.toList) = false := by simpa using hqq
            clear hqq
            go_wp2
            go_round
            case rel => exact ⟨q + 1, hlt2, by go_num, HE2.out⟩
            case measure => simp [intOf]; omega
        · have hqI : ¬ (q : Int) < fl := by omega
          have HE2 : Hid (none = ixF s 0 x.fs) := by
            have h1 := he.out
            rw [List.drop_of_length_le (by rw [HFN.out]; omega)] at h1
            exact h1
          have HE3 : Hid (fldL s (p + 1) (S.drop (p + 1)) = fldL s 0 S) := by have h1 := HE.out; rw [← HE2.out] at h1; exact h1
          clear he
          go_wp2
          go_roundw
          case rel => exact ⟨p + 1, hlt, by go_num, HFW.out, HE3.out⟩
          case measure => simp [intOf]; omega
    · have hpI : ¬ (p : Int) < n := by omega
      have HE : Hid (none = fldL s 0 S) := by
        have h1 := he.out
        rw [List.drop_of_length_le (by rw [HL.out]; omega)] at h1
        exact h1
      clear he
      go_wp2
      exact bodyPost_ret (v := .tuple #[.int .i64 0, .int .i64 0, .bool false]) (by simp [results, Tryz.results17]) rfl ⟨by rw [← HE.out]; rfl, HF0.out.trans fw⟩
end Go.Proofs.YtnmfcaahdeddnaaGreatDoor
namespace Go.Proofs.YtnmfcaahdeddnaaGreatDoor
open Go.RowKit
open T5 (hidC)
set_option linter.unusedVariables false
set_option linter.unusedSimpArgs false

set_option maxRecDepth 100000 in
set_option maxHeartbeats 2000000 in
theorem checkFields_walk (S : List SrC) (w : World) (a : Option Addr) (n cap : Nat) (hl : S.length = n) (h : SsAt w.heap.size w a S) (hm : n ≤ 10000000000000) (fa : Option Addr) (fn fc : Nat) (mn : Int) (ma : Option Addr) (mc mcap : Nat) (s : ByteArray) (T : Tabs w) :
    Calls Tryz.prog 5 #[.agg #[.slice a n cap, .slice fa fn fc, .int .i64 mn, .slice ma mc mcap], .string s] w fun e w' => e = .returned (.bool true) ∧ Fr [] w w' := by
  have hmI : (n : Int) ≤ 10000000000000 := by omega
  have F0 : Fr [] w (w.alloc (.cells #[.slice a n cap, .slice fa fn fc, .int .i64 mn, .slice ma mc mcap] 28)) := (Fr.refl _ _).alloc _
  have b0 := heap_alloc_new w (.cells #[.slice a n cap, .slice fa fn fc, .int .i64 mn, .slice ma mc mcap] 28)
  have CA := awake_any _ (T.fr F0 (by simp))
  have HL := hidC hl
  have HS := hidC h
  clear hl h T
  go_enter Tryz.func5, Tryz.ntmps5
  go_wp2_with fail
  refine CA.mono ?_
  rintro e w1 ⟨rfl, f1⟩
  have b1 := (f1.block _ (Array.getElem?_eq_some_iff.1 b0).1 (by simp)).trans b0
  have F1 := F0.trans f1
  have c0 := at_cells b1 0 rfl
  have c1 := at_cells b1 1 rfl
  have c2 := at_cells b1 2 rfl
  have c3 := at_cells b1 3 rfl
  clear CA f1 F0 b0
  by_cases h5 : 50 < n
  · have h5I : (50 : Int) < n := by omega
    go_wp2
    go_ret
    exact ⟨rfl, F1⟩
  · have h5I : ¬ (50 : Int) < n := by omega
    have C16 := field_any (cap := cap) (HS.out.fr F1 (by simp)) HL.out (by omega) (.slice fa fn fc) (.int .i64 mn) (.slice ma mc mcap) s
    have HC17 : Hid (∀ w', Fr [] w w' → Calls Tryz.prog 17 #[.agg #[.slice a n cap, .slice fa fn fc, .int .i64 mn, .slice ma mc mcap], .string s] w' fun e w'' => e = fldE (fldL s 0 S) ∧ Fr [] w' w'') := fun w' f => rfield_any (HS.out.fr f (by simp)) HL.out (by omega) _ _ _ s
    go_wp2_with fail
    refine C16.mono ?_
    rintro e w2 ⟨rfl, f2⟩
    have b2 := (f2.block _ (Array.getElem?_eq_some_iff.1 b1).1 (by simp)).trans b1
    have F2 := F1.trans f2
    have d0 := at_cells b2 0 rfl
    have d1 := at_cells b2 1 rfl
    have d2 := at_cells b2 2 rfl
    have d3 := at_cells b2 3 rfl
    have C17 := HC17.out w2 F2
    clear C16 HC17 f2 F1 b1 c0 c1 c2 c3
    rcases hr : fldL s 0 S with _ | ⟨p, k⟩
    · rw [hr] at C17
      simp only [fldE] at C17 ⊢
      go_wp2_with fail
      refine C17.mono ?_
      rintro e w3 ⟨rfl, f3⟩
      go_wp2
      go_ret
      exact ⟨rfl, F2.trans f3⟩
    · rw [hr] at C17
      simp only [fldE] at C17 ⊢
      go_wp2_with fail
      refine C17.mono ?_
      rintro e w3 ⟨rfl, f3⟩
      go_wp2
      go_ret
      exact ⟨rfl, F2.trans f3⟩
end Go.Proofs.YtnmfcaahdeddnaaGreatDoor
namespace Go.Proofs.YtnmfcaahdeddnaaGreatDoor
open Go.RowKit
set_option linter.unusedVariables false
set_option linter.unusedSimpArgs false

/-- What is not marked, together. -/
def pot (len : Nat → Nat) (T : List Bool) : Nat → Nat
  | 0 => 0
  | m + 1 => pot len T m + if T.getD m false = true then 0 else len m
def sumTo (cost : Nat → Nat) : Nat → Nat
  | 0 => 0
  | m + 1 => sumTo cost m + cost m
theorem pot_congr {len : Nat → Nat} {T U : List Bool} : ∀ n, (∀ i, i < n → T.getD i false = U.getD i false) → pot len T n = pot len U n
  | 0, _ => rfl
  | n + 1, h => by
    simp only [pot]
    rw [pot_congr n (fun i hi => h i (by omega)), h n (by omega)]
theorem getD_set {T : List Bool} {k i : Nat} (h : i ≠ k) : (T.set k true).getD i false = T.getD i false := by
  rw [List.getD_eq_getElem?_getD, List.getD_eq_getElem?_getD, List.getElem?_set_ne (fun e => h e.symm)]
theorem set_pot {len : Nat → Nat} {T : List Bool} {k : Nat} (hf : T.getD k false = false) : ∀ n, k < n → n ≤ T.length → pot len (T.set k true) n + len k = pot len T n
  | 0, h, _ => by omega
  | n + 1, h, hl => by
    simp only [pot]
    by_cases e : k = n
    · subst e
      rw [pot_congr (T := T.set k true) (U := T) k (fun i hi => getD_set (by omega)), hf]
      rw [show (T.set k true).getD k false = true by rw [List.getD_eq_getElem?_getD, List.getElem?_set_self (by omega)]; rfl]
      simp
    · have := set_pot (len := len) hf n (by omega) (by omega)
      rw [getD_set (by omega)]
      omega
theorem take_pot {len : Nat → Nat} {n : Nat} : ∀ (ks : List Int) (T T' : List Bool), T5.takeL n ks T = some T' → n ≤ T.length → pot len T' n + (ks.map (fun k => len k.toNat)).sum = pot len T n
  | [], T, T', h, _ => by simp [T5.takeL] at h; simp [h]
  | k :: r, T, T', h, hl => by
    simp only [T5.takeL] at h
    split at h
    · cases h
    · rename_i hn
      have h1 := take_pot (len := len) r _ _ h (by simpa using hl)
      have hk : T.getD k.toNat false = false := by
        cases e : T.getD k.toNat false with
        | false => rfl
        | true => exact absurd (.inr (.inr e)) hn
      have h2 := set_pot (len := len) hk n (by omega) hl
      simp only [List.map_cons, List.sum_cons]
      omega
theorem nodes_marks {L : List T5.Nd} : ∀ (m : Nat) (T : List Bool), T5.nodesL L m = .ok T → ∀ i, T.getD i false = true → i + 1 < m
  | 0, T, h, i, hi => by
    simp [T5.nodesL] at h
    subst h
    rw [List.getD_eq_getElem?_getD] at hi
    by_cases e : i < L.length
    · simp [e] at hi
    · simp [e] at hi
  | m + 1, T, h, i, hi => by
    unfold T5.nodesL at h
    split at h
    · cases h
    · rename_i T0 h0
      have ih := nodes_marks m T0 h0 i
      split at h
      · cases h; have := ih hi; omega
      · rename_i x hx
        split at h
        · cases h
        · rename_i T1 h1
          cases h
          unfold T5.nodeE at h1
          split at h1
          · cases h1
          · split at h1
            · cases h1
            · split at h1
              · cases h1
              · rename_i T2 ht2
                repeat (split at h1 <;> try (cases h1))
                rcases T5.take_true _ _ _ i ht2 hi with e | e
                · have := ih e; omega
                · have := T5.take_in _ _ _ ht2 (i : Int) e
                  omega
theorem nodes_pre {L : List T5.Nd} {m : Nat} {T : List Bool} (h : T5.nodesL L m = .ok T) {n : Nat} (hn : n ≤ m) : ∃ U, T5.nodesL L n = .ok U := by
  cases hu : T5.nodesL L n with
  | ok U => exact ⟨U, rfl⟩
  | error e => rw [T5.nodes_stop hu m hn] at h; cases h
theorem pot_bound {L : List T5.Nd} {len cost : Nat → Nat} (hlen : ∀ i x, L[i]? = some x → len i ≤ cost i + (x.ks.map (fun k => len k.toNat)).sum) : ∀ (m : Nat) (T : List Bool), T5.nodesL L m = .ok T → m ≤ L.length → pot len T m ≤ sumTo cost m
  | 0, T, h, _ => by simp [pot]
  | m + 1, T, h, hm => by
    unfold T5.nodesL at h
    split at h
    · cases h
    · rename_i T0 h0
      have ih := pot_bound hlen m T0 h0 (by omega)
      have hl := T5.nodes_length m T0 h0
      split at h
      · rename_i hx
        rw [List.getElem?_eq_getElem (by omega)] at hx
        cases hx
      · rename_i x hx
        split at h
        · cases h
        · rename_i T1 h1
          cases h
          unfold T5.nodeE at h1
          split at h1
          · cases h1
          · split at h1
            · cases h1
            · split at h1
              · cases h1
              · rename_i T2 ht2
                repeat (split at h1 <;> try (cases h1))
                have e1 := take_pot (len := len) _ _ _ ht2 (by omega)
                have e2 := hlen m x hx
                simp only [pot, sumTo]
                split <;> omega
/-- What is made of one node is no longer than what its own and those ahead of it cost. -/
theorem len_bound {L : List T5.Nd} {len cost : Nat → Nat} (hlen : ∀ i x, L[i]? = some x → len i ≤ cost i + (x.ks.map (fun k => len k.toNat)).sum) {T : List Bool} (h : T5.nodesL L L.length = .ok T) {n : Nat} (hn : n < L.length) : len n ≤ sumTo cost (n + 1) := by
  obtain ⟨U, hU⟩ := nodes_pre h (n := n + 1) (by omega)
  have h1 := pot_bound hlen (n + 1) U hU (by omega)
  have h2 : U.getD n false = false := by
    cases e : U.getD n false with
    | false => rfl
    | true => have := nodes_marks _ _ hU n e; omega
  simp only [pot, h2] at h1
  simp at h1
  omega
theorem sumTo_mono {cost : Nat → Nat} {n m : Nat} (h : n ≤ m) : sumTo cost n ≤ sumTo cost m := by
  induction m with
  | zero => have : n = 0 := by omega
            subst this; exact Nat.le_refl _
  | succ m ih =>
    by_cases e : n = m + 1
    · subst e; exact Nat.le_refl _
    · have := ih (by omega)
      simp only [sumTo]
      omega

def headB (x : T5.Nd) : List UInt8 := 40 :: Lib.itoa x.kind ++ (if x.text.data.toList = [] then [] else 32 :: x.text.data.toList) ++ (if x.pl = 0 then [] else 32 :: 64 :: Lib.itoa x.pl)
def lispF (L : List T5.Nd) : Nat → Int → List UInt8
  | 0, _ => []
  | f + 1, k => match L[k.toNat]? with
    | none => []
    | some x => headB x ++ (x.ks.map (fun j => 32 :: lispF L f j)).flatten ++ [41]
def Kids (L : List T5.Nd) : Prop := ∀ (i : Nat) (x : T5.Nd), L[i]? = some x → ∀ k ∈ x.ks, 0 ≤ k ∧ k < i
theorem lispF_same {L : List T5.Nd} (hK : Kids L) : ∀ (f g : Nat) (k : Int), k.toNat < f → k.toNat < g → lispF L f k = lispF L g k := by
  intro f
  induction f with
  | zero => intro g k h; omega
  | succ f ih =>
    intro g k h hg
    obtain _ | g := g
    · omega
    simp only [lispF]
    cases hx : L[k.toNat]? with
    | none => rfl
    | some x =>
      have e : x.ks.map (fun j => 32 :: lispF L f j) = x.ks.map (fun j => 32 :: lispF L g j) := by
        apply List.map_congr_left
        intro j hj
        obtain ⟨k0, k1⟩ := hK _ x hx j hj
        rw [ih g j (by omega) (by omega)]
      simp only [e]
def lispN (L : List T5.Nd) (n : Nat) : List UInt8 := lispF L (n + 1) n
def costB (L : List T5.Nd) (i : Nat) : Nat := match L[i]? with | some x => (headB x).length + x.ks.length + 1 | none => 0
theorem flat_len {f : Int → List UInt8} : ∀ ks : List Int, ((ks.map (fun j => 32 :: f j)).flatten).length = ks.length + (ks.map (fun j => (f j).length)).sum
  | [] => rfl
  | k :: r => by
    simp only [List.map_cons, List.flatten_cons, List.length_append, List.length_cons, List.sum_cons, flat_len r]
    omega
theorem lisp_len {L : List T5.Nd} (hK : Kids L) (i : Nat) (x : T5.Nd) (hx : L[i]? = some x) : (lispN L i).length ≤ costB L i + (x.ks.map (fun k => (lispN L k.toNat).length)).sum := by
  have e0 : lispN L i = headB x ++ (x.ks.map (fun j => 32 :: lispF L i j)).flatten ++ [41] := by
    unfold lispN
    simp only [lispF, Int.toNat_natCast, hx]
  have ec : costB L i = (headB x).length + x.ks.length + 1 := by unfold costB; rw [hx]
  rw [e0, ec]
  simp only [List.length_append, flat_len, List.length_cons, List.length_nil]
  simp only [lispN]
  have e : x.ks.map (fun j => (lispF L i j).length) = x.ks.map (fun k => (lispF L (k.toNat + 1) ((k.toNat : Nat) : Int)).length) := by
    apply List.map_congr_left
    intro k hk
    obtain ⟨k0, k1⟩ := hK i x hx k hk
    have ek : ((k.toNat : Nat) : Int) = k := by omega
    rw [ek, lispF_same hK i (k.toNat + 1) k (by omega) (by omega)]
  rw [e]
  omega
theorem kids_of {L : List T5.Nd} {T : List Bool} (h : T5.nodesL L L.length = .ok T) : Kids L := fun i x hx k hk => by
  have hi := (List.getElem?_eq_some_iff.1 hx).1
  exact T5.nodes_in _ _ h i x hi hx k hk
theorem lisp_bound {L : List T5.Nd} {T : List Bool} (h : T5.nodesL L L.length = .ok T) {M : Nat} (hM : sumTo (costB L) L.length ≤ M) {f n : Nat} (hn : n < L.length) (hf : n < f) : (lispF L f n).length ≤ M := by
  have h1 := len_bound (len := fun i => (lispN L i).length) (fun i x hx => lisp_len (kids_of h) i x hx) h hn
  have h2 := sumTo_mono (cost := costB L) (show n + 1 ≤ L.length by omega)
  rw [lispF_same (kids_of h) f (n + 1) n (by simpa using hf) (by simp)]
  simp only [lispN] at h1
  omega
end Go.Proofs.YtnmfcaahdeddnaaGreatDoor
namespace Go.Proofs.YtnmfcaahdeddnaaGreatDoor
open Go.RowKit
set_option linter.unusedVariables false
set_option linter.unusedSimpArgs false

theorem dec_len2 : ∀ (k n : Nat), n < 10 ^ (k + 1) → (Lib.decDigits n).length ≤ k + 1
  | 0, n, h => by rw [Lib.decDigits_one (by simpa using h)]; simp
  | k + 1, n, h => by
    by_cases h10 : n < 10
    · rw [Lib.decDigits_one h10]; simp
    · rw [Lib.decDigits, dif_neg h10, List.length_append]
      have := dec_len2 k (n / 10) (by
        rw [Nat.pow_succ] at h
        exact Nat.div_lt_of_lt_mul (by rw [Nat.mul_comm]; exact h))
      simp
      omega
theorem ba_app (a b : List UInt8) : (⟨a.toArray⟩ : ByteArray) ++ (⟨b.toArray⟩ : ByteArray) = ⟨(a ++ b).toArray⟩ := by
  apply ByteArray.ext
  simp [ByteArray.data_append]

theorem itoa_any (n : Int) (h0 : -9223372036854775808 ≤ n) (h1 : n ≤ 9223372036854775807) (w : World) (T : Tabs w) :
    Calls Tryz.prog 93 #[.int .i64 n] w fun e w' => e = .returned (.string ⟨(Lib.itoa n).toArray⟩) ∧ Fr [] w w' := by
  refine (Tryz.strconv_Itoa n h0 h1 w T.pow).mono ?_
  rintro e w' ⟨he, k, os, hw⟩
  exact ⟨he, fmt_fr hw⟩
theorem itoa_len (n : Int) (h0 : -9223372036854775808 ≤ n) (h1 : n ≤ 9223372036854775807) : (Lib.itoa n).length ≤ 21 := by
  unfold Lib.itoa
  split
  · have := dec_len2 19 n.natAbs (by omega)
    simp only [List.length_cons]
    omega
  · have := dec_len2 19 n.toNat (by omega)
    omega
/-- A node's four cells, in a block of one's own. -/
def NB (w : World) (g : Nat) (k : Int) (t : ByteArray) (a : Option Addr) (n c : Nat) (p : Int) : Prop := w.heap[g]? = some (.cells #[.int .i64 k, .string t, .slice a n c, .int .i64 p] 55 (0, 0))
theorem NB.cells {w : World} {g : Nat} {k : Int} {t : ByteArray} {a : Option Addr} {n c : Nat} {p : Int} (h : NB w g k t a n c p) : w.cell? ⟨g, 0, none⟩ = some (.int .i64 k) ∧ w.cell? ⟨g, 1, none⟩ = some (.string t) ∧ w.cell? ⟨g, 2, none⟩ = some (.slice a n c) ∧ w.cell? ⟨g, 3, none⟩ = some (.int .i64 p) := by
  unfold NB at h
  simp [World.cell?, h]
theorem NB.lt {w : World} {g : Nat} {k : Int} {t : ByteArray} {a : Option Addr} {n c : Nat} {p : Int} (h : NB w g k t a n c p) : g < w.heap.size := (Array.getElem?_eq_some_iff.1 h).1
theorem NB.fr {w w' : World} {g : Nat} {k : Int} {t : ByteArray} {a : Option Addr} {n c : Nat} {p : Int} (h : NB w g k t a n c p) (f : Fr [] w w') : NB w' g k t a n c p := (f.block _ h.lt (by simp)).trans h
def headA (x : T5.Nd) : List UInt8 := 40 :: Lib.itoa x.kind ++ (if x.text.data.toList = [] then [] else 32 :: x.text.data.toList)
def headC (x : T5.Nd) : List UInt8 := if x.pl = 0 then [] else 32 :: 64 :: Lib.itoa x.pl
theorem headB_eq (x : T5.Nd) : headB x = headA x ++ headC x := rfl
theorem ba_of {a : ByteArray} {l : List UInt8} (h : a.data.toList = l) : a = ⟨l.toArray⟩ := by
  subst h
  cases a
  rfl
theorem data_app (a b : ByteArray) : (a ++ b).data.toList = a.data.toList ++ b.data.toList := by simp [ByteArray.data_append]
set_option maxRecDepth 100000 in
set_option maxHeartbeats 2000000 in
theorem rlisp_any {L : List T5.Nd} {B : Nat} {a : Option Addr} {len cap : Nat} {U : List Bool} (hlen : L.length = len) (hU : T5.nodesL L L.length = .ok U) (hM : sumTo (costB L) L.length ≤ 1000000000000) (hm : len ≤ 2600000000000)
    (hrg : ∀ x ∈ L, (-9223372036854775808 ≤ x.kind ∧ x.kind ≤ 9223372036854775807) ∧ (-9223372036854775808 ≤ x.pl ∧ x.pl ≤ 9223372036854775807)) :
    ∀ (f n : Nat) (w : World), n < f → n < len → T5.NAt B w a L → B ≤ w.heap.size → Tabs w →
    Calls Tryz.prog 53 #[.slice a len cap, .int .i64 (n : Nat)] w fun e w' => e = .returned (.string ⟨(lispF L f n).toArray⟩) ∧ Fr [] w w' := by
  intro f
  induction f with
  | zero => intro n w h; omega
  | succ f ih =>
    intro n w hf hn hL hB TT
    have hn' : n < L.length := by omega
    obtain ⟨x, hx⟩ : ∃ x, L[n]? = some x := ⟨_, List.getElem?_eq_getElem hn'⟩
    obtain ⟨b, o, rfl, hb, NC⟩ := hL n x hx
    obtain ⟨⟨hk0, hk1⟩, hp0, hp1⟩ := hrg x (List.mem_of_getElem? hx)
    have HE : Hid (lispF L (f + 1) n = headB x ++ (x.ks.map (fun j => 32 :: lispF L f j)).flatten ++ [41]) := by unfold Hid; simp only [lispF, Int.toNat_natCast, hx]
    have HLN : Hid ((lispF L (f + 1) n).length ≤ 1000000000000) := lisp_bound hU hM hn' (by omega)
    have HKD : Hid (∀ k ∈ x.ks, 0 ≤ k ∧ k < n) := fun k hk => kids_of hU n x hx k hk
    have c0 := NC.c0
    have c1 := NC.c1
    have c2 := NC.c2
    have c3 := NC.c3
    have HKA0 : Hid (T5.KAt B w x.a x.ks) := NC.k
    have hcc0 : x.ks.length ≤ x.c := NC.kc
    clear NC
    generalize x.a = xa at c2 HKA0
    have g1 : Fr [] w (w.alloc (.cells #[.int .i64 x.kind, .string x.text, .slice xa x.ks.length x.c, .int .i64 x.pl] 55)) := (Fr.refl _ _).alloc _
    have nb : NB (w.alloc (.cells #[.int .i64 x.kind, .string x.text, .slice xa x.ks.length x.c, .int .i64 x.pl] 55)) w.heap.size x.kind x.text xa x.ks.length x.c x.pl := heap_alloc_new w _
    obtain ⟨e0, e1, e2, e3⟩ := nb.cells
    have hnI : (n : Int) < len := by omega
    have CI := itoa_any x.kind hk0 hk1 _ (TT.fr g1 (by simp))
    go_enter Tryz.func53, Tryz.ntmps53
    go_wp2_with fail
    refine CI.mono ?_
    rintro e w2 ⟨rfl, f2⟩
    have nb2 := nb.fr f2
    have g2 := g1.trans f2
    obtain ⟨d0, d1, d2, d3⟩ := nb2.cells
    have hi1 := itoa_len x.kind hk0 hk1
    have hi2 := itoa_len x.pl hp0 hp1
    have HLN2 : Hid ((headB x).length + x.ks.length ≤ 1000000000000) := by
      have h1 := HLN.out
      rw [HE.out] at h1
      simp only [List.length_append, flat_len] at h1
      unfold Hid
      omega
    have htx : x.text.size ≤ 1000000000000 := by
      have h1 := HLN2.out
      have h2 : x.text.size ≤ (headB x).length := by
        rw [Lib.size_eq]
        unfold headB
        split
        · rename_i e; rw [e]; simp
        · simp only [List.length_append, List.length_cons]; omega
      omega
    have HKL2 : Hid (x.ks.length ≤ 1000000000000) := by have := HLN2.out; unfold Hid; omega
    have q1 : ¬ 9223372036854775807 < 1 + (Lib.itoa x.kind).length := by omega
    have q2 : ¬ 9223372036854775807 < 1 + x.text.size := by omega
    have q3 : ¬ 9223372036854775807 < 1 + (Lib.itoa x.kind).length + (1 + x.text.size) := by omega
    have q4 : ¬ 9223372036854775807 < 2 + (Lib.itoa x.pl).length := by omega
    have q5 : ¬ 9223372036854775807 < 1 + (Lib.itoa x.kind).length + (1 + x.text.size) + (2 + (Lib.itoa x.pl).length) := by omega
    have q6 : ¬ 9223372036854775807 < 1 + (Lib.itoa x.kind).length + (2 + (Lib.itoa x.pl).length) := by omega
    have CP := fun w' (f' : Fr [] w w') => itoa_any x.pl hp0 hp1 w' (TT.fr f' (by simp))
    clear c0 c1 c2 c3 e0 e1 e2 e3 CI
    cases ht : x.text.toList.isEmpty
    · cases hpz : (x.pl != 0)
      · go_wp2_with fail
        have HS : Hid ((({ data := #[40] } ++ { data := (Lib.itoa x.kind).toArray } : ByteArray) ++ ({ data := #[32] } ++ x.text : ByteArray) : ByteArray).data.toList = headB x) := by
                  unfold Hid headB
                  have ez : x.text.data.toList = x.text.toList := (Lib.toList_data x.text).symm
                  have et : ¬ x.text.data.toList = [] := by rw [ez]; simpa using ht
                  have ep :  x.pl = 0 := by simpa using hpz
                  rw [if_neg et, if_pos ep]
                  simp only [data_app]
                  simp
        have nbL := nb2
        have gL := g2
        have TL := TT.fr gL (by simp)
        have HBL : Hid (B ≤ w2.heap.size) := by have := gL.size; unfold Hid; omega
        have HIH : Hid (∀ (n : Nat) (w : World), n < f → n < len → T5.NAt B w (some ⟨b, o, none⟩) L → B ≤ w.heap.size → Tabs w → Calls Tryz.prog 53 #[.slice (some ⟨b, o, none⟩) len cap, .int .i64 (n : Nat)] w fun e w' => e = .returned (.string ⟨(lispF L f n).toArray⟩) ∧ Fr [] w w') := ih
        have HKA : Hid (T5.KAt B w2 xa x.ks) := HKA0.out.fr gL (by simp)
        clear ih nb nb2 nbL d0 d1 d2 d3 hi1 hk0 hk1 hp0 hp1 hrg HKA0
        go_loopw [6, 37] (fun sv iv wr => ∃ (q : Nat) (A : List UInt8), q ≤ x.ks.length ∧ iv = .int .i64 (q : Nat) ∧ sv = .string ⟨A.toArray⟩ ∧ Fr [] w2 wr ∧ Hid (A = headB x ++ ((x.ks.take q).map (fun j => 32 :: lispF L f j)).flatten)) (fun _ iv _ => x.ks.length - (intOf iv).toNat)
        case atStart => exact ⟨0, headB x, Nat.zero_le _, rfl, congrArg Value.string (ba_of HS.out), Fr.refl _ _, by unfold Hid; simp⟩
        case round =>
          obtain ⟨q, A, hq, rfl, rfl, fr, HA⟩ := hrel
          have HAL : Hid (A.length ≤ (lispF L (f + 1) n).length) := by
            unfold Hid
            rw [HA.out, HE.out]
            have e1 : x.ks.map (fun j => 32 :: lispF L f j) = (x.ks.take q).map (fun j => 32 :: lispF L f j) ++ (x.ks.drop q).map (fun j => 32 :: lispF L f j) := by rw [← List.map_append, List.take_append_drop]
            rw [e1]
            simp only [List.flatten_append, List.length_append]
            omega
          have hAl : A.length ≤ 1000000000000 := Nat.le_trans HAL.out HLN.out
          have hmx : (x.ks.length : Int) ≤ 1000000000000 := by have := HKL2.out; omega
          by_cases hlt : q < x.ks.length
          · obtain ⟨k, hk⟩ : ∃ k, x.ks[q]? = some k := ⟨_, List.getElem?_eq_getElem hlt⟩
            obtain ⟨kb, ko, rfl, hkb, kc⟩ := HKA.out q k hk
            have kc' := fr.cell1 kc (by simp)
            obtain ⟨k0, k1⟩ := HKD.out k (List.mem_of_getElem? hk)
            have C5 := HIH.out k.toNat wr (by omega) (by omega) ((hL.fr (gL.trans fr) (by simp))) (by have := HBL.out; have := fr.size; omega) (TL.fr fr (by simp))
            have ek : ((k.toNat : Nat) : Int) = k := by omega
            rw [ek] at C5
            have HTK : Hid (x.ks.take (q + 1) = x.ks.take q ++ [k]) := by unfold Hid; rw [List.take_add_one, hk]; rfl
            have HNL : Hid ((A ++ 32 :: lispF L f k).length ≤ (lispF L (f + 1) n).length) := by
              unfold Hid
              rw [HA.out, HE.out]
              have e1 : x.ks.map (fun j => 32 :: lispF L f j) = (x.ks.take q).map (fun j => 32 :: lispF L f j) ++ (32 :: lispF L f k) :: (x.ks.drop (q + 1)).map (fun j => 32 :: lispF L f j) := by
                have : x.ks = x.ks.take q ++ k :: x.ks.drop (q + 1) := by
                  have h1 := List.drop_eq_getElem_cons hlt
                  rw [List.getElem?_eq_getElem hlt] at hk
                  cases hk
                  rw [← h1, List.take_append_drop]
                conv => lhs; rw [this]
                simp
              rw [e1]
              simp only [List.flatten_append, List.length_append, List.flatten_cons]
              omega
            have hl1 : A.length + (1 + (lispF L f k).length) ≤ 1000000000000 := by have h1 := HNL.out; have h2 := HLN.out; simp only [List.length_append, List.length_cons] at h1; omega
            have hltI : (q : Int) < x.ks.length := by omega
            have HX : Hid (q < x.ks.length) := hlt
            have hcc : (x.ks.length : Int) ≤ x.c := by omega
            have h1 : ¬ 9223372036854775807 < 1 + (lispF L f k).length := by omega
            have h2 : ¬ 9223372036854775807 < A.length + (1 + (lispF L f k).length) := by omega
            clear kc HKA hk hlt hl1 HAL HNL
            go_wp2_with fail
            refine C5.mono ?_
            rintro e w9 ⟨rfl, f9⟩
            have fr9 := fr.trans f9
            clear C5
            go_wp2
            go_roundw
            case rel => exact ⟨(q + 1 : Nat), (A ++ 32 :: lispF L f k : List UInt8), HX.out, by go_num, by rw [← ba_app]; rfl, fr9, by unfold Hid; rw [HA.out, HTK.out]; simp⟩
            case measure => have := HX.out; simp [intOf]; omega
          · have hqe : q = x.ks.length := by omega
            have HF : Hid (lispF L (f + 1) n = A ++ [41]) := by unfold Hid; rw [HE.out, HA.out, hqe]; simp
            have hl3 : ¬ 9223372036854775807 < A.length + 1 := by omega
            have hlt' : ¬ ((q : Int) < x.ks.length) := by omega
            clear hAl HAL
            go_wp2
            go_ret
            exact ⟨by rw [HF.out, ← ba_app]; rfl, gL.trans fr⟩
      · have C3 := CP w2 g2
        go_wp2_with fail
        refine C3.mono ?_
        rintro e w3 ⟨rfl, f3⟩
        have nb3 := nb2.fr f3
        obtain ⟨_, _, l2a, _⟩ := nb3.cells
        have g3 := g2.trans f3
        go_wp2_with fail
        have HS : Hid (((({ data := #[40] } ++ { data := (Lib.itoa x.kind).toArray } : ByteArray) ++ ({ data := #[32] } ++ x.text : ByteArray) : ByteArray) ++ ({ data := #[32, 64] } ++ { data := (Lib.itoa x.pl).toArray } : ByteArray) : ByteArray).data.toList = headB x) := by
                  unfold Hid headB
                  have ez : x.text.data.toList = x.text.toList := (Lib.toList_data x.text).symm
                  have et : ¬ x.text.data.toList = [] := by rw [ez]; simpa using ht
                  have ep : ¬ x.pl = 0 := by simpa using hpz
                  rw [if_neg et, if_neg ep]
                  simp only [data_app]
                  simp
        have nbL := nb3
        have gL := g3
        have TL := TT.fr gL (by simp)
        have HBL : Hid (B ≤ w3.heap.size) := by have := gL.size; unfold Hid; omega
        have HIH : Hid (∀ (n : Nat) (w : World), n < f → n < len → T5.NAt B w (some ⟨b, o, none⟩) L → B ≤ w.heap.size → Tabs w → Calls Tryz.prog 53 #[.slice (some ⟨b, o, none⟩) len cap, .int .i64 (n : Nat)] w fun e w' => e = .returned (.string ⟨(lispF L f n).toArray⟩) ∧ Fr [] w w') := ih
        have HKA : Hid (T5.KAt B w3 xa x.ks) := HKA0.out.fr gL (by simp)
        clear ih nb nb2 nb3 nbL C3 l2a d0 d1 d2 d3 hi1 hk0 hk1 hp0 hp1 hrg HKA0
        go_loopw [6, 37] (fun sv iv wr => ∃ (q : Nat) (A : List UInt8), q ≤ x.ks.length ∧ iv = .int .i64 (q : Nat) ∧ sv = .string ⟨A.toArray⟩ ∧ Fr [] w3 wr ∧ Hid (A = headB x ++ ((x.ks.take q).map (fun j => 32 :: lispF L f j)).flatten)) (fun _ iv _ => x.ks.length - (intOf iv).toNat)
        case atStart => exact ⟨0, headB x, Nat.zero_le _, rfl, congrArg Value.string (ba_of HS.out), Fr.refl _ _, by unfold Hid; simp⟩
        case round =>
          obtain ⟨q, A, hq, rfl, rfl, fr, HA⟩ := hrel
          have HAL : Hid (A.length ≤ (lispF L (f + 1) n).length) := by
            unfold Hid
            rw [HA.out, HE.out]
            have e1 : x.ks.map (fun j => 32 :: lispF L f j) = (x.ks.take q).map (fun j => 32 :: lispF L f j) ++ (x.ks.drop q).map (fun j => 32 :: lispF L f j) := by rw [← List.map_append, List.take_append_drop]
            rw [e1]
            simp only [List.flatten_append, List.length_append]
            omega
          have hAl : A.length ≤ 1000000000000 := Nat.le_trans HAL.out HLN.out
          have hmx : (x.ks.length : Int) ≤ 1000000000000 := by have := HKL2.out; omega
          by_cases hlt : q < x.ks.length
          · obtain ⟨k, hk⟩ : ∃ k, x.ks[q]? = some k := ⟨_, List.getElem?_eq_getElem hlt⟩
            obtain ⟨kb, ko, rfl, hkb, kc⟩ := HKA.out q k hk
            have kc' := fr.cell1 kc (by simp)
            obtain ⟨k0, k1⟩ := HKD.out k (List.mem_of_getElem? hk)
            have C5 := HIH.out k.toNat wr (by omega) (by omega) ((hL.fr (gL.trans fr) (by simp))) (by have := HBL.out; have := fr.size; omega) (TL.fr fr (by simp))
            have ek : ((k.toNat : Nat) : Int) = k := by omega
            rw [ek] at C5
            have HTK : Hid (x.ks.take (q + 1) = x.ks.take q ++ [k]) := by unfold Hid; rw [List.take_add_one, hk]; rfl
            have HNL : Hid ((A ++ 32 :: lispF L f k).length ≤ (lispF L (f + 1) n).length) := by
              unfold Hid
              rw [HA.out, HE.out]
              have e1 : x.ks.map (fun j => 32 :: lispF L f j) = (x.ks.take q).map (fun j => 32 :: lispF L f j) ++ (32 :: lispF L f k) :: (x.ks.drop (q + 1)).map (fun j => 32 :: lispF L f j) := by
                have : x.ks = x.ks.take q ++ k :: x.ks.drop (q + 1) := by
                  have h1 := List.drop_eq_getElem_cons hlt
                  rw [List.getElem?_eq_getElem hlt] at hk
                  cases hk
                  rw [← h1, List.take_append_drop]
                conv => lhs; rw [this]
                simp
              rw [e1]
              simp only [List.flatten_append, List.length_append, List.flatten_cons]
              omega
            have hl1 : A.length + (1 + (lispF L f k).length) ≤ 1000000000000 := by have h1 := HNL.out; have h2 := HLN.out; simp only [List.length_append, List.length_cons] at h1; omega
            have hltI : (q : Int) < x.ks.length := by omega
            have HX : Hid (q < x.ks.length) := hlt
            have hcc : (x.ks.length : Int) ≤ x.c := by omega
            have h1 : ¬ 9223372036854775807 < 1 + (lispF L f k).length := by omega
            have h2 : ¬ 9223372036854775807 < A.length + (1 + (lispF L f k).length) := by omega
            clear kc HKA hk hlt hl1 HAL HNL
            go_wp2_with fail
            refine C5.mono ?_
            rintro e w9 ⟨rfl, f9⟩
            have fr9 := fr.trans f9
            clear C5
            go_wp2
            go_roundw
            case rel => exact ⟨(q + 1 : Nat), (A ++ 32 :: lispF L f k : List UInt8), HX.out, by go_num, by rw [← ba_app]; rfl, fr9, by unfold Hid; rw [HA.out, HTK.out]; simp⟩
            case measure => have := HX.out; simp [intOf]; omega
          · have hqe : q = x.ks.length := by omega
            have HF : Hid (lispF L (f + 1) n = A ++ [41]) := by unfold Hid; rw [HE.out, HA.out, hqe]; simp
            have hl3 : ¬ 9223372036854775807 < A.length + 1 := by omega
            have hlt' : ¬ ((q : Int) < x.ks.length) := by omega
            clear hAl HAL
            go_wp2
            go_ret
            exact ⟨by rw [HF.out, ← ba_app]; rfl, gL.trans fr⟩
    · cases hpz : (x.pl != 0)
      · go_wp2_with fail
        have HS : Hid (({ data := #[40] } ++ { data := (Lib.itoa x.kind).toArray } : ByteArray).data.toList = headB x) := by
                  unfold Hid headB
                  have ez : x.text.data.toList = x.text.toList := (Lib.toList_data x.text).symm
                  have et :  x.text.data.toList = [] := by rw [ez]; simpa using ht
                  have ep :  x.pl = 0 := by simpa using hpz
                  rw [if_pos et, if_pos ep]
                  simp only [data_app]
                  simp
        have nbL := nb2
        have gL := g2
        have TL := TT.fr gL (by simp)
        have HBL : Hid (B ≤ w2.heap.size) := by have := gL.size; unfold Hid; omega
        have HIH : Hid (∀ (n : Nat) (w : World), n < f → n < len → T5.NAt B w (some ⟨b, o, none⟩) L → B ≤ w.heap.size → Tabs w → Calls Tryz.prog 53 #[.slice (some ⟨b, o, none⟩) len cap, .int .i64 (n : Nat)] w fun e w' => e = .returned (.string ⟨(lispF L f n).toArray⟩) ∧ Fr [] w w') := ih
        have HKA : Hid (T5.KAt B w2 xa x.ks) := HKA0.out.fr gL (by simp)
        clear ih nb nb2 nbL d0 d1 d2 d3 hi1 hk0 hk1 hp0 hp1 hrg HKA0
        go_loopw [6, 37] (fun sv iv wr => ∃ (q : Nat) (A : List UInt8), q ≤ x.ks.length ∧ iv = .int .i64 (q : Nat) ∧ sv = .string ⟨A.toArray⟩ ∧ Fr [] w2 wr ∧ Hid (A = headB x ++ ((x.ks.take q).map (fun j => 32 :: lispF L f j)).flatten)) (fun _ iv _ => x.ks.length - (intOf iv).toNat)
        case atStart => exact ⟨0, headB x, Nat.zero_le _, rfl, congrArg Value.string (ba_of HS.out), Fr.refl _ _, by unfold Hid; simp⟩
        case round =>
          obtain ⟨q, A, hq, rfl, rfl, fr, HA⟩ := hrel
          have HAL : Hid (A.length ≤ (lispF L (f + 1) n).length) := by
            unfold Hid
            rw [HA.out, HE.out]
            have e1 : x.ks.map (fun j => 32 :: lispF L f j) = (x.ks.take q).map (fun j => 32 :: lispF L f j) ++ (x.ks.drop q).map (fun j => 32 :: lispF L f j) := by rw [← List.map_append, List.take_append_drop]
            rw [e1]
            simp only [List.flatten_append, List.length_append]
            omega
          have hAl : A.length ≤ 1000000000000 := Nat.le_trans HAL.out HLN.out
          have hmx : (x.ks.length : Int) ≤ 1000000000000 := by have := HKL2.out; omega
          by_cases hlt : q < x.ks.length
          · obtain ⟨k, hk⟩ : ∃ k, x.ks[q]? = some k := ⟨_, List.getElem?_eq_getElem hlt⟩
            obtain ⟨kb, ko, rfl, hkb, kc⟩ := HKA.out q k hk
            have kc' := fr.cell1 kc (by simp)
            obtain ⟨k0, k1⟩ := HKD.out k (List.mem_of_getElem? hk)
            have C5 := HIH.out k.toNat wr (by omega) (by omega) ((hL.fr (gL.trans fr) (by simp))) (by have := HBL.out; have := fr.size; omega) (TL.fr fr (by simp))
            have ek : ((k.toNat : Nat) : Int) = k := by omega
            rw [ek] at C5
            have HTK : Hid (x.ks.take (q + 1) = x.ks.take q ++ [k]) := by unfold Hid; rw [List.take_add_one, hk]; rfl
            have HNL : Hid ((A ++ 32 :: lispF L f k).length ≤ (lispF L (f + 1) n).length) := by
              unfold Hid
              rw [HA.out, HE.out]
              have e1 : x.ks.map (fun j => 32 :: lispF L f j) = (x.ks.take q).map (fun j => 32 :: lispF L f j) ++ (32 :: lispF L f k) :: (x.ks.drop (q + 1)).map (fun j => 32 :: lispF L f j) := by
                have : x.ks = x.ks.take q ++ k :: x.ks.drop (q + 1) := by
                  have h1 := List.drop_eq_getElem_cons hlt
                  rw [List.getElem?_eq_getElem hlt] at hk
                  cases hk
                  rw [← h1, List.take_append_drop]
                conv => lhs; rw [this]
                simp
              rw [e1]
              simp only [List.flatten_append, List.length_append, List.flatten_cons]
              omega
            have hl1 : A.length + (1 + (lispF L f k).length) ≤ 1000000000000 := by have h1 := HNL.out; have h2 := HLN.out; simp only [List.length_append, List.length_cons] at h1; omega
            have hltI : (q : Int) < x.ks.length := by omega
            have HX : Hid (q < x.ks.length) := hlt
            have hcc : (x.ks.length : Int) ≤ x.c := by omega
            have h1 : ¬ 9223372036854775807 < 1 + (lispF L f k).length := by omega
            have h2 : ¬ 9223372036854775807 < A.length + (1 + (lispF L f k).length) := by omega
            clear kc HKA hk hlt hl1 HAL HNL
            go_wp2_with fail
            refine C5.mono ?_
            rintro e w9 ⟨rfl, f9⟩
            have fr9 := fr.trans f9
            clear C5
            go_wp2
            go_roundw
            case rel => exact ⟨(q + 1 : Nat), (A ++ 32 :: lispF L f k : List UInt8), HX.out, by go_num, by rw [← ba_app]; rfl, fr9, by unfold Hid; rw [HA.out, HTK.out]; simp⟩
            case measure => have := HX.out; simp [intOf]; omega
          · have hqe : q = x.ks.length := by omega
            have HF : Hid (lispF L (f + 1) n = A ++ [41]) := by unfold Hid; rw [HE.out, HA.out, hqe]; simp
            have hl3 : ¬ 9223372036854775807 < A.length + 1 := by omega
            have hlt' : ¬ ((q : Int) < x.ks.length) := by omega
            clear hAl HAL
            go_wp2
            go_ret
            exact ⟨by rw [HF.out, ← ba_app]; rfl, gL.trans fr⟩
      · have C3 := CP w2 g2
        go_wp2_with fail
        refine C3.mono ?_
        rintro e w3 ⟨rfl, f3⟩
        have nb3 := nb2.fr f3
        obtain ⟨_, _, l2a, _⟩ := nb3.cells
        have g3 := g2.trans f3
        go_wp2_with fail
        have HS : Hid ((({ data := #[40] } ++ { data := (Lib.itoa x.kind).toArray } : ByteArray) ++ ({ data := #[32, 64] } ++ { data := (Lib.itoa x.pl).toArray } : ByteArray) : ByteArray).data.toList = headB x) := by
                  unfold Hid headB
                  have ez : x.text.data.toList = x.text.toList := (Lib.toList_data x.text).symm
                  have et :  x.text.data.toList = [] := by rw [ez]; simpa using ht
                  have ep : ¬ x.pl = 0 := by simpa using hpz
                  rw [if_pos et, if_neg ep]
                  simp only [data_app]
                  simp
        have nbL := nb3
        have gL := g3
        have TL := TT.fr gL (by simp)
        have HBL : Hid (B ≤ w3.heap.size) := by have := gL.size; unfold Hid; omega
        have HIH : Hid (∀ (n : Nat) (w : World), n < f → n < len → T5.NAt B w (some ⟨b, o, none⟩) L → B ≤ w.heap.size → Tabs w → Calls Tryz.prog 53 #[.slice (some ⟨b, o, none⟩) len cap, .int .i64 (n : Nat)] w fun e w' => e = .returned (.string ⟨(lispF L f n).toArray⟩) ∧ Fr [] w w') := ih
        have HKA : Hid (T5.KAt B w3 xa x.ks) := HKA0.out.fr gL (by simp)
        clear ih nb nb2 nb3 nbL C3 l2a d0 d1 d2 d3 hi1 hk0 hk1 hp0 hp1 hrg HKA0
        go_loopw [6, 37] (fun sv iv wr => ∃ (q : Nat) (A : List UInt8), q ≤ x.ks.length ∧ iv = .int .i64 (q : Nat) ∧ sv = .string ⟨A.toArray⟩ ∧ Fr [] w3 wr ∧ Hid (A = headB x ++ ((x.ks.take q).map (fun j => 32 :: lispF L f j)).flatten)) (fun _ iv _ => x.ks.length - (intOf iv).toNat)
        case atStart => exact ⟨0, headB x, Nat.zero_le _, rfl, congrArg Value.string (ba_of HS.out), Fr.refl _ _, by unfold Hid; simp⟩
        case round =>
          obtain ⟨q, A, hq, rfl, rfl, fr, HA⟩ := hrel
          have HAL : Hid (A.length ≤ (lispF L (f + 1) n).length) := by
            unfold Hid
            rw [HA.out, HE.out]
            have e1 : x.ks.map (fun j => 32 :: lispF L f j) = (x.ks.take q).map (fun j => 32 :: lispF L f j) ++ (x.ks.drop q).map (fun j => 32 :: lispF L f j) := by rw [← List.map_append, List.take_append_drop]
            rw [e1]
            simp only [List.flatten_append, List.length_append]
            omega
          have hAl : A.length ≤ 1000000000000 := Nat.le_trans HAL.out HLN.out
          have hmx : (x.ks.length : Int) ≤ 1000000000000 := by have := HKL2.out; omega
          by_cases hlt : q < x.ks.length
          · obtain ⟨k, hk⟩ : ∃ k, x.ks[q]? = some k := ⟨_, List.getElem?_eq_getElem hlt⟩
            obtain ⟨kb, ko, rfl, hkb, kc⟩ := HKA.out q k hk
            have kc' := fr.cell1 kc (by simp)
            obtain ⟨k0, k1⟩ := HKD.out k (List.mem_of_getElem? hk)
            have C5 := HIH.out k.toNat wr (by omega) (by omega) ((hL.fr (gL.trans fr) (by simp))) (by have := HBL.out; have := fr.size; omega) (TL.fr fr (by simp))
            have ek : ((k.toNat : Nat) : Int) = k := by omega
            rw [ek] at C5
            have HTK : Hid (x.ks.take (q + 1) = x.ks.take q ++ [k]) := by unfold Hid; rw [List.take_add_one, hk]; rfl
            have HNL : Hid ((A ++ 32 :: lispF L f k).length ≤ (lispF L (f + 1) n).length) := by
              unfold Hid
              rw [HA.out, HE.out]
              have e1 : x.ks.map (fun j => 32 :: lispF L f j) = (x.ks.take q).map (fun j => 32 :: lispF L f j) ++ (32 :: lispF L f k) :: (x.ks.drop (q + 1)).map (fun j => 32 :: lispF L f j) := by
                have : x.ks = x.ks.take q ++ k :: x.ks.drop (q + 1) := by
                  have h1 := List.drop_eq_getElem_cons hlt
                  rw [List.getElem?_eq_getElem hlt] at hk
                  cases hk
                  rw [← h1, List.take_append_drop]
                conv => lhs; rw [this]
                simp
              rw [e1]
              simp only [List.flatten_append, List.length_append, List.flatten_cons]
              omega
            have hl1 : A.length + (1 + (lispF L f k).length) ≤ 1000000000000 := by have h1 := HNL.out; have h2 := HLN.out; simp only [List.length_append, List.length_cons] at h1; omega
            have hltI : (q : Int) < x.ks.length := by omega
            have HX : Hid (q < x.ks.length) := hlt
            have hcc : (x.ks.length : Int) ≤ x.c := by omega
            have h1 : ¬ 9223372036854775807 < 1 + (lispF L f k).length := by omega
            have h2 : ¬ 9223372036854775807 < A.length + (1 + (lispF L f k).length) := by omega
            clear kc HKA hk hlt hl1 HAL HNL
            go_wp2_with fail
            refine C5.mono ?_
            rintro e w9 ⟨rfl, f9⟩
            have fr9 := fr.trans f9
            clear C5
            go_wp2
            go_roundw
            case rel => exact ⟨(q + 1 : Nat), (A ++ 32 :: lispF L f k : List UInt8), HX.out, by go_num, by rw [← ba_app]; rfl, fr9, by unfold Hid; rw [HA.out, HTK.out]; simp⟩
            case measure => have := HX.out; simp [intOf]; omega
          · have hqe : q = x.ks.length := by omega
            have HF : Hid (lispF L (f + 1) n = A ++ [41]) := by unfold Hid; rw [HE.out, HA.out, hqe]; simp
            have hl3 : ¬ 9223372036854775807 < A.length + 1 := by omega
            have hlt' : ¬ ((q : Int) < x.ks.length) := by omega
            clear hAl HAL
            go_wp2
            go_ret
            exact ⟨by rw [HF.out, ← ba_app]; rfl, gL.trans fr⟩
end Go.Proofs.YtnmfcaahdeddnaaGreatDoor
namespace Go.Proofs.YtnmfcaahdeddnaaGreatDoor
open Go.RowKit
set_option linter.unusedVariables false
set_option linter.unusedSimpArgs false

theorem lispF_bare (L : List T5.Nd) : ∀ (f : Nat) (k : Int), lispF (L.map bare5) f k = lispF L f k
  | 0, _ => rfl
  | f + 1, k => by
    simp only [lispF, List.getElem?_map]
    cases L[k.toNat]? with
    | none => rfl
    | some x => simp only [Option.map_some, bare5, headB, lispF_bare L f]
/-- What is answered. -/
def lispO (L : List T5.Nd) : List UInt8 × Nat := if (T5.checkL L).2 = 0 then (lispF L L.length ((L.length - 1 : Nat) : Int), 0) else ([], (T5.checkL L).2)
theorem lispO_bare (L : List T5.Nd) : lispO (L.map bare5) = lispO L := by
  unfold lispO
  simp only [checkL_bare, lispF_bare, List.length_map]
theorem lispO_same {L M : List MN} {ms : List PN} (h1 : L.map MN.x = ms) (h2 : M.map MN.x = ms) : lispO (L.map nd5) = lispO (M.map nd5) := by
  rw [← lispO_bare (L.map nd5), ← lispO_bare (M.map nd5)]
  have e : ∀ K : List MN, (K.map nd5).map bare5 = (K.map MN.x).map nx5 := fun K => by simp [nd5, nx5, bare5, Function.comp_def]
  rw [e, e, h1, h2]

theorem pot_one (T : List Bool) : ∀ n, pot (fun _ => 1) T n ≤ n
  | 0 => Nat.le_refl _
  | n + 1 => by
    have := pot_one T n
    simp only [pot]
    split <;> omega
theorem sum_one : ∀ ks : List Int, (ks.map (fun _ => 1)).sum = ks.length
  | [] => rfl
  | k :: r => by simp only [List.map_cons, List.sum_cons, List.length_cons, sum_one r]; omega
theorem nodes_at_ok {L : List T5.Nd} {T : List Bool} (h : T5.nodesL L L.length = .ok T) {i : Nat} {x : T5.Nd} (hx : L[i]? = some x) : ∃ U V, T5.nodesL L i = .ok U ∧ T5.nodeE L i x U = .ok V := by
  have hi := (List.getElem?_eq_some_iff.1 hx).1
  obtain ⟨W, hW⟩ := nodes_pre h (n := i + 1) (by omega)
  unfold T5.nodesL at hW
  split at hW
  · cases hW
  · rename_i U hU
    rw [hx] at hW
    simp only at hW
    split at hW
    · cases hW
    · rename_i V hV
      exact ⟨U, V, hU, hV⟩
theorem node_parts {L : List T5.Nd} {n : Nat} {x : T5.Nd} {U V : List Bool} (h : T5.nodeE L n x U = .ok V) : (∃ t ls, T5.wantL x.kind = some (t, ls) ∧ T5.textL t x.text = true ∧ T5.fitL ls (x.ks.map (T5.kd L)) = true) ∧ 0 ≤ x.pl ∧ T5.takeL n x.ks U = some V := by
  unfold T5.nodeE at h
  split at h
  · cases h
  · rename_i t ls hw
    split at h
    · cases h
    · rename_i hp
      split at h
      · cases h
      · rename_i T' ht
        split at h
        · cases h
        · rename_i h1
          split at h
          · cases h
          · rename_i h2
            cases h
            exact ⟨⟨t, ls, hw, by simpa using h1, by simpa using h2⟩, by omega, ht⟩
theorem kind_in {k : Int} {t : Nat} {ls : List UInt8} (h : T5.wantL k = some (t, ls)) : 1 ≤ k ∧ k ≤ 30 := by
  rcases Int.lt_or_le k 1 with h1 | h1
  · rw [T5.lookup_want k (.inl h1)] at h; cases h
  · rcases Int.lt_or_le 30 k with h2 | h2
    · rw [T5.lookup_want k (.inr h2)] at h; cases h
    · exact ⟨h1, h2⟩
theorem kids_few {L : List T5.Nd} {T : List Bool} (h : T5.nodesL L L.length = .ok T) {i : Nat} {x : T5.Nd} (hx : L[i]? = some x) : x.ks.length ≤ L.length := by
  obtain ⟨U, V, hU, hV⟩ := nodes_at_ok h hx
  obtain ⟨_, _, ht⟩ := node_parts hV
  have hi := (List.getElem?_eq_some_iff.1 hx).1
  have h1 := take_pot (len := fun _ => 1) _ _ _ ht (by rw [T5.nodes_length _ _ hU]; omega)
  have h2 := pot_one U i
  rw [sum_one] at h1
  omega
theorem sumTo_le {cost : Nat → Nat} {K : Nat} : ∀ n, (∀ i, i < n → cost i ≤ K) → sumTo cost n ≤ n * K
  | 0, _ => by simp [sumTo]
  | n + 1, h => by
    have h1 := sumTo_le n (fun i hi => h i (by omega))
    have h2 := h n (by omega)
    simp only [sumTo]
    rw [Nat.succ_mul]
    omega
theorem cost_le {L : List T5.Nd} {T : List Bool} (h : T5.nodesL L L.length = .ok T) (hl : L.length ≤ 50000) (ht : ∀ x ∈ L, x.text.size ≤ 200020) (hp : ∀ x ∈ L, x.pl ≤ 9223372036854775807) : sumTo (costB L) L.length ≤ 1000000000000 := by
  have h1 : ∀ i, i < L.length → costB L i ≤ 300000 := by
    intro i hi
    have hx : L[i]? = some L[i] := List.getElem?_eq_getElem hi
    generalize L[i] = x at hx
    unfold costB
    rw [hx]
    have hm := List.mem_of_getElem? hx
    obtain ⟨U, V, hU, hV⟩ := nodes_at_ok h hx
    obtain ⟨⟨t, ls, hw, _⟩, hp0, _⟩ := node_parts hV
    have hk := kind_in hw
    have e1 := itoa_len x.kind (by omega) (by omega)
    have e2 := itoa_len x.pl (by omega) (hp x hm)
    have e3 := kids_few h hx
    have e4 := ht x hm
    rw [Lib.size_eq] at e4
    simp only
    unfold headB
    simp only [List.length_append, List.length_cons]
    split <;> split <;> simp only [List.length_cons, List.length_nil] <;> omega
  have h2 := sumTo_le L.length h1
  have h3 : L.length * 300000 ≤ 50000 * 300000 := Nat.mul_le_mul_right _ hl
  omega

set_option maxRecDepth 100000 in
set_option maxHeartbeats 1000000 in
theorem rLisp_any (B : Nat) (L : List T5.Nd) (w : World) (a : Option Addr) (len cap : Nat) (hlen : L.length = len) (hL : T5.NAt B w a L) (hm : len ≤ 2600000000000) (hB : B ≤ w.heap.size) (TT : Tabs w) (ht : ∀ x ∈ L, x.text.size ≤ 200020) (hp : ∀ x ∈ L, x.pl ≤ 9223372036854775807) :
    Calls Tryz.prog 29 #[.slice a len cap] w fun e w' => e = .returned (.tuple #[.string ⟨(lispO L).1.toArray⟩, .int .i64 ((lispO L).2 : Nat)]) ∧ Fr [] w w' := by
  have CC := T5.rcheck_any B L w a len cap hlen hL hm hB
  unfold T5.cOut at CC
  rcases hc : T5.checkL L with ⟨p, c⟩
  rw [hc] at CC
  by_cases h0 : c = 0
  · subst h0
    obtain ⟨T, hT, hn0, hl5, _, _⟩ := T5.check_zero hc
    have hM := cost_le hT hl5 ht hp
    have HO : Hid (lispO L = (lispF L L.length ((L.length - 1 : Nat) : Int), 0)) := by unfold Hid lispO; rw [hc]; rfl
    have hrg : ∀ x ∈ L, (-9223372036854775808 ≤ x.kind ∧ x.kind ≤ 9223372036854775807) ∧ (-9223372036854775808 ≤ x.pl ∧ x.pl ≤ 9223372036854775807) := by
      intro x hx
      obtain ⟨i, hi⟩ := List.mem_iff_getElem?.1 hx
      obtain ⟨U, V, hU, hV⟩ := nodes_at_ok hT hi
      obtain ⟨⟨t, ls, hw, _⟩, hp0, _⟩ := node_parts hV
      have hk := kind_in hw
      have := hp x hx
      exact ⟨⟨by omega, by omega⟩, by omega, by omega⟩
    have CL := fun w1 (f1 : Fr [] w w1) => rlisp_any (B := B) (a := a) (cap := cap) hlen hT hM hm hrg L.length (L.length - 1) w1 (by omega) (by omega) (hL.fr f1 (by simp)) (Nat.le_trans hB f1.size) (TT.fr f1 (by simp))
    have ei : ((L.length - 1 : Nat) : Int) = (len : Int) - 1 := by omega
    have hl0 : (0 : Int) < len := by omega
    have hlm : (len : Int) ≤ 2600000000000 := by omega
    obtain ⟨S, HS⟩ : ∃ S, Hid (lispF L L.length ((L.length - 1 : Nat) : Int) = S) := ⟨_, rfl⟩
    simp only [HS.out] at CL
    simp only [ei] at CL
    clear hc hT hM hrg ht hp hn0 hl5
    go_enter Tryz.func29, Tryz.ntmps29
    go_wp2_with fail
    refine CC.mono ?_
    rintro e w1 ⟨rfl, f1⟩
    have C1 := CL w1 f1
    clear CC CL
    go_wp2_with fail
    refine C1.mono ?_
    rintro e w2 ⟨rfl, f2⟩
    go_wp2
    refine bodyPost_ret (results_tmp2 rfl _ _ _) rfl ⟨?_, f1.trans f2⟩
    rw [HO.out, HS.out]
    rfl
  · have HO : Hid (lispO L = ([], c)) := by unfold Hid lispO; rw [hc]; simp only; rw [if_neg h0]
    have hc0 : ¬ ((c : Nat) : Int) = 0 := by omega
    clear hc h0
    go_enter Tryz.func29, Tryz.ntmps29
    go_wp2_with fail
    refine CC.mono ?_
    rintro e w1 ⟨rfl, f1⟩
    go_wp2
    refine bodyPost_ret (results_tmp2 rfl _ _ _) rfl ⟨?_, f1⟩
    rw [HO.out]
    rfl
end Go.Proofs.YtnmfcaahdeddnaaGreatDoor
namespace Go.Proofs.YtnmfcaahdeddnaaGreatDoor
open Go.RowKit
set_option maxRecDepth 100000
set_option linter.unusedVariables false
set_option linter.unusedSimpArgs false

def z5 (x : T5.Nd) : T5.Nd := ⟨x.kind, x.text, none, 0, x.ks, 0⟩
theorem zeroed {L M : List T5.Nd} {w : World} {base g len c : Nat} (h : T5.TW w base g len c L M) (hL : L.length = len) (hz : ∀ (i : Nat) (y : T5.Nd), i < len → M[i]? = some y → y.pl = 0) : M.map bare5 = L.map z5 := by
  apply List.ext_getElem?
  intro i
  rw [List.getElem?_map, List.getElem?_map]
  by_cases hi : i < len
  · have h1 : M[i]? = some (M[i]'(by rw [h.len]; exact hi)) := List.getElem?_eq_getElem _
    have h2 : L[i]? = some (L[i]'(by rw [hL]; exact hi)) := List.getElem?_eq_getElem _
    generalize M[i]'(by rw [h.len]; exact hi) = y at h1
    generalize L[i]'(by rw [hL]; exact hi) = x at h2
    obtain ⟨e1, e2, e3⟩ := h.eq i x y h2 h1
    rw [h1, h2]
    simp only [Option.map_some, bare5, z5, e1, e2, e3, hz i y hi h1]
  · rw [List.getElem?_eq_none (by rw [h.len]; omega), List.getElem?_eq_none (by omega)]
    rfl
set_option maxHeartbeats 1000000 in
theorem bare_any (B : Nat) (L : List T5.Nd) (w : World) (a : Option Addr) (len cap : Nat) (hlen : L.length = len) (h0 : 0 < len) (hL : T5.NAt B w a L) (hB : B ≤ w.heap.size) (hm : len ≤ 50000) (TT : Tabs w) (ht : ∀ x ∈ L, x.text.size ≤ 200020) (hks : ∀ x ∈ L, x.ks.length ≤ 50000) :
    Calls Tryz.prog 15 #[.slice a len cap] w fun e w' => e = .returned (.string ⟨(lispO (L.map z5)).1.toArray⟩) ∧ Fr [] w w' := by
  have CT := T5.twin_any B L w a len cap hlen hL (fun e => by
    have hx : L[0]? = some (L[0]'(by omega)) := List.getElem?_eq_getElem _
    obtain ⟨b, o, e2, _⟩ := hL 0 _ hx
    rw [e] at e2
    cases e2) hB (by omega) (fun i x hx => by have := hks x (List.mem_of_getElem? hx); omega)
  have HL : Hid (L.length = len) := hlen
  have HT : Hid (∀ x ∈ L, x.text.size ≤ 200020) := ht
  have hlm : len ≤ 2600000000000 := by omega
  clear ht hks hL hlen
  go_enter Tryz.func15, Tryz.ntmps15
  go_wp2_with fail
  refine CT.mono ?_
  rintro e w1 ⟨⟨a', c', rfl, hh⟩, f1⟩
  obtain ⟨g, M1, rfl, hg, hT1⟩ := hh h0
  clear CT hh
  go_wp2
  go_loopw [11] (fun i wr => ∃ p : Nat, p ≤ len ∧ i = .int .i64 p ∧ Fr [] w wr ∧ ∃ M, T5.TW wr w.heap.size g len c' L M ∧ ∀ (i : Nat) (y : T5.Nd), i < p → M[i]? = some y → y.pl = 0) (fun i _ => len - (intOf i).toNat)
  case atStart => exact ⟨0, Nat.zero_le _, rfl, f1, M1, hT1, fun i y hi => by omega⟩
  case round =>
    obtain ⟨p, hp, rfl, fw, M, hT, hz⟩ := hrel
    clear hT1
    by_cases hlt : p < len
    · have hy : M[p]? = some (M[p]'(by rw [hT.len]; exact hlt)) := List.getElem?_eq_getElem _
      generalize M[p]'(by rw [hT.len]; exact hlt) = y at hy
      have c3 : wr.cell? ⟨g, p * 4 + 3, none⟩ = some (.int .i64 y.pl) := hT.cell hy (show 3 < 4 by omega)
      have hfz := hT.own.frozenAt (p * 4 + 3)
      have hgw : g < wr.heap.size := World.block_lt_of_cell? wr _ c3
      have T2 := hT.put (j := 3) (y' := { y with pl := 0 }) hy (by omega) (.int .i64 0) rfl ⟨rfl, rfl, rfl⟩ (hT.ok p y hy)
      have F2 := fw.setCell (p := ⟨g, p * 4 + 3, none⟩) (.inr hg) (.int .i64 0)
      have hz2 : ∀ (i : Nat) (z : T5.Nd), i < p + 1 → (M.set p { y with pl := 0 })[i]? = some z → z.pl = 0 := fun i z hi hh => by
        by_cases e : i = p
        · subst e
          rw [List.getElem?_set_self (by rw [hT.len]; exact hlt)] at hh
          injection hh with hh
          subst hh
          rfl
        · rw [List.getElem?_set_ne (fun e2 => e e2.symm)] at hh
          exact hz i z (by omega) hh
      clear hT hy hz
      go_wp2
      go_roundw
      case rel => exact ⟨p + 1, hlt, by go_num, F2, _, T2, hz2⟩
      case measure => simp [intOf]; omega
    · have e : p = len := by omega
      subst e
      have hM := zeroed hT HL.out hz
      have hMt : ∀ x ∈ M, x.text.size ≤ 200020 ∧ x.pl ≤ 9223372036854775807 := fun x hx => by
        obtain ⟨i, hi⟩ := List.getElem?_of_mem hx
        have hil := (List.getElem?_eq_some_iff.1 hi).1
        have h2 : L[i]? = some (L[i]'(by rw [HL.out, ← hT.len]; exact hil)) := List.getElem?_eq_getElem _
        obtain ⟨_, e2, _⟩ := hT.eq i _ x h2 hi
        refine ⟨?_, by rw [hz i x (by rw [← hT.len]; exact hil) hi]; decide⟩
        rw [e2]
        exact HT.out _ (List.mem_of_getElem? h2)
      have CL := rLisp_any wr.heap.size M wr (some ⟨g, 0, none⟩) p c' hT.len hT.nat hlm (Nat.le_refl _) (TT.fr fw (by simp)) (fun x hx => (hMt x hx).1) (fun x hx => (hMt x hx).2)
      rw [← lispO_bare M, hM] at CL
      rcases hR : lispO (L.map z5) with ⟨R1, R2⟩
      rw [hR] at CL
      have HR : Hid (lispO (L.map z5) = (R1, R2)) := hR
      clear hT hz hM hMt hR
      go_wp2_with fail
      refine CL.mono ?_
      rintro e w3 ⟨rfl, f3⟩
      have F3 := fw.trans f3
      go_wp2
      go_ret
      exact ⟨by rw [HR.out]; rfl, F3⟩
end Go.Proofs.YtnmfcaahdeddnaaGreatDoor
namespace Go.Proofs.YtnmfcaahdeddnaaGreatDoor
open Go.RowKit
set_option linter.unusedVariables false
set_option linter.unusedSimpArgs false

/-- How many they count as. -/
def fewN (L : List T5.Nd) : Nat → Nat
  | 0 => 0
  | n + 1 => fewN L n + match L[n]? with | some x => x.ks.length + x.text.size / 20 | none => 0
set_option maxRecDepth 100000 in
theorem fewN_le (L : List T5.Nd) (h : ∀ x ∈ L, x.ks.length * 8 ≤ 140737488355328 ∧ x.text.size ≤ 140737488355328) : ∀ n, fewN L n ≤ n * 25000000000000
  | 0 => by simp [fewN]
  | n + 1 => by
    have h1 := fewN_le L h n
    have h2 : (match L[n]? with | some x => x.ks.length + x.text.size / 20 | none => 0) ≤ 25000000000000 := by
      split
      · rename_i x hx
        obtain ⟨h4, h5⟩ := h x (List.mem_of_getElem? hx)
        have h6 : x.text.size / 20 ≤ 7036874417767 := by omega
        have h7 : x.ks.length ≤ 17592186044416 := by omega
        exact Nat.le_trans (Nat.add_le_add h7 h6) (by decide)
      · exact Nat.zero_le _
    have h3 : fewN L (n + 1) = fewN L n + (match L[n]? with | some x => x.ks.length + x.text.size / 20 | none => 0) := rfl
    rw [h3, Nat.add_mul, Nat.one_mul]
    exact Nat.add_le_add h1 h2
theorem fewN_at (L : List T5.Nd) : ∀ n i x, i < n → L[i]? = some x → x.text.size / 20 ≤ fewN L n
  | 0, i, x, h, _ => by omega
  | n + 1, i, x, h, hx => by
    simp only [fewN]
    by_cases e : i = n
    · subst e
      rw [hx]
      simp only
      omega
    · have := fewN_at L n i x (by omega) hx
      omega
set_option maxRecDepth 100000 in
set_option maxHeartbeats 2000000 in
theorem few12_any (B : Nat) (L : List T5.Nd) (w : World) (a : Option Addr) (len cap : Nat) (hlen : L.length = len) (hL : T5.NAt B w a L) (hm : len ≤ 2600000000000) (hB : B ≤ w.heap.size) (hz : ∀ x ∈ L, x.ks.length * 8 ≤ 140737488355328 ∧ x.text.size ≤ 140737488355328) :
    Calls Tryz.prog 12 #[.slice a len cap] w fun e w' => (∃ v, e = .returned (.bool v) ∧ (v = true → (T5.checkL L).2 = 0 → ∀ x ∈ L, x.text.size ≤ 200020)) ∧ Fr [] w w' := by
  by_cases hbig : 50000 < len
  · have HV : Hid ((T5.checkL L).2 ≠ 0) := by unfold Hid; rw [T5.check_long (by omega)]; decide
    have HL : Hid (L.length = len) := hlen
    clear hlen hbig
    go_enter Tryz.func12, Tryz.ntmps12
    go_wp2
    go_loopw [3, 10] (fun s i wr => ∃ (p : Nat) (z : Int), p ≤ len ∧ i = .int .i64 p ∧ s = .int .i64 z ∧ Fr [] w wr) (fun _ i _ => len - (intOf i).toNat)
    case atStart => exact ⟨0, len, Nat.zero_le _, rfl, rfl, Fr.refl _ _⟩
    case round =>
      obtain ⟨p, z, hp, rfl, rfl, fw⟩ := hrel
      by_cases hlt : p < len
      · have hx : L[p]? = some (L[p]'(by rw [HL.out]; exact hlt)) := List.getElem?_eq_getElem _
        generalize L[p]'(by rw [HL.out]; exact hlt) = x at hx
        obtain ⟨b, o, rfl, hb, c⟩ := (hL.fr fw (by simp)) p x hx
        obtain ⟨p0, p1, p2, p3, _, t, k, _, _⟩ := c
        unfold maxLen at t k
        clear hL hx hz
        go_wp2
        go_roundw
        case rel => exact ⟨p + 1, _, hlt, by go_num, rfl, fw.alloc _⟩
        case measure => simp [intOf]; omega
      · go_wp2
        go_ret
        exact ⟨⟨_, rfl, fun _ h => absurd h HV.out⟩, fw⟩
  · have HL : Hid (L.length = len) := hlen
    have HF : Hid (∀ n, fewN L n ≤ n * 25000000000000) := fewN_le L hz
    have HZ : Hid (∀ x ∈ L, x.ks.length * 8 ≤ 140737488355328 ∧ x.text.size ≤ 140737488355328) := hz
    have hl5 : len ≤ 50000 := by omega
    clear hlen hbig hz
    go_enter Tryz.func12, Tryz.ntmps12
    go_wp2
    go_loopw [3, 10] (fun s i wr => ∃ (p : Nat), p ≤ len ∧ i = .int .i64 p ∧ s = .int .i64 ((len + fewN L p : Nat) : Int) ∧ Fr [] w wr) (fun _ i _ => len - (intOf i).toNat)
    case atStart => exact ⟨0, Nat.zero_le _, rfl, by simp [fewN], Fr.refl _ _⟩
    case round =>
      obtain ⟨p, hp, rfl, rfl, fw⟩ := hrel
      by_cases hlt : p < len
      · have hx : L[p]? = some (L[p]'(by rw [HL.out]; exact hlt)) := List.getElem?_eq_getElem _
        generalize L[p]'(by rw [HL.out]; exact hlt) = x at hx
        obtain ⟨b, o, rfl, hb, c⟩ := (hL.fr fw (by simp)) p x hx
        obtain ⟨p0, p1, p2, p3, _, _, _, _, _⟩ := c
        obtain ⟨hz1, hz2⟩ := HZ.out x (List.mem_of_getElem? hx)
        have HN : Hid (fewN L (p + 1) = fewN L p + (x.ks.length + x.text.size / 20)) := by unfold Hid; simp only [fewN, hx]
        have h1 := HF.out p
        have h2 : fewN L p ≤ 1250000000000000000 := by omega
        have h3 : x.ks.length ≤ 17592186044416 := by omega
        clear hL hx h1
        go_wp2
        go_roundw
        case rel => exact ⟨p + 1, hlt, by go_num, by rw [HN.out]; go_num, fw.alloc _⟩
        case measure => simp [intOf]; omega
      · have HE : Hid (p = len) := by unfold Hid; omega
        have HS : Hid (len + fewN L p ≤ 1500 → ∀ x ∈ L, x.text.size ≤ 200020) := fun h x hx => by
          obtain ⟨i, hi⟩ := List.mem_iff_getElem?.1 hx
          have := fewN_at L p i x (by have := (List.getElem?_eq_some_iff.1 hi).1; have := HL.out; have := HE.out; omega) hi
          omega
        have hf2 := HF.out p
        go_wp2
        go_ret
        refine ⟨⟨_, rfl, fun h _ => HS.out ?_⟩, fw⟩
        simp at h
        omega

set_option maxRecDepth 100000 in
set_option maxHeartbeats 1000000 in
/-- An empty list is printed so too. -/
theorem bare0_any (w : World) (a : Option Addr) (cap : Nat) (hcap : a = none → cap = 0) (TT : Tabs w) :
    Calls Tryz.prog 15 #[.slice a 0 cap] w fun e w' => e = .returned (.string ⟨(lispO []).1.toArray⟩) ∧ Fr [] w w' := by
  have CT := T5.twin_any w.heap.size [] w a 0 cap rfl (fun i x hx => by simp at hx) hcap (Nat.le_refl _) (by decide) (fun i x hx => by simp at hx)
  go_enter Tryz.func15, Tryz.ntmps15
  go_wp2_with fail
  refine CT.mono ?_
  rintro e w1 ⟨⟨a', c', rfl, _⟩, f1⟩
  clear CT
  go_wp2
  go_loopw [11] (fun i wr => i = .int .i64 0 ∧ Fr [] w wr) (fun i _ => 0)
  case atStart => exact ⟨rfl, f1⟩
  case round =>
    obtain ⟨rfl, fw⟩ := hrel
    have CL := rLisp_any wr.heap.size [] wr a' 0 c' rfl (fun i x hx => by simp at hx) (by decide) (Nat.le_refl _) (TT.fr fw (by simp)) (by simp) (by simp)
    rcases hR : lispO [] with ⟨R1, R2⟩
    rw [hR] at CL
    have HR : Hid (lispO [] = (R1, R2)) := hR
    clear hR
    go_wp2_with fail
    refine CL.mono ?_
    rintro e w3 ⟨rfl, f3⟩
    have F3 := fw.trans f3
    go_wp2
    go_ret
    exact ⟨by rw [HR.out]; rfl, F3⟩
theorem bare15_any (L : List T5.Nd) (w : World) (a : Option Addr) (len cap : Nat) (hlen : L.length = len) (hcap : a = none → cap = 0) (hL : T5.NAt w.heap.size w a L) (hm : len ≤ 50000) (TT : Tabs w) (ht : ∀ x ∈ L, x.text.size ≤ 200020) (hks : ∀ x ∈ L, x.ks.length ≤ 50000) :
    Calls Tryz.prog 15 #[.slice a len cap] w fun e w' => e = .returned (.string ⟨(lispO (L.map z5)).1.toArray⟩) ∧ Fr [] w w' := by
  by_cases h0 : 0 < len
  · exact bare_any _ L w a len cap hlen h0 hL (Nat.le_refl _) hm TT ht hks
  · obtain rfl : len = 0 := by omega
    obtain rfl : L = [] := List.length_eq_zero_iff.1 hlen
    exact bare0_any w a cap hcap TT

theorem renL_le (D : List Int) : ∀ ks, (T5.renL D ks).length ≤ ks.length := fun ks => T5.renL_len D ks
/-- A bare node's text is a node's, and it has no more kids. -/
theorem bareP_from (L : List T5.Nd) : ∀ p, ∀ x ∈ (T5.bareP L p).2, ∃ y ∈ L, x.text = y.text ∧ x.ks.length ≤ y.ks.length
  | 0, x, h => by simp [T5.bareP] at h
  | p + 1, x, h => by
    rw [T5.bareP, T5.bareS] at h
    split at h
    · exact bareP_from L p x h
    · rename_i y hy
      split at h
      · exact bareP_from L p x h
      · split at h
        · exact bareP_from L p x h
        · simp only [List.mem_append, List.mem_singleton] at h
          rcases h with h | rfl
          · exact bareP_from L p x h
          · exact ⟨y, List.mem_of_getElem? hy, rfl, renL_le _ _⟩
theorem same_nb : ∀ (A B : List T5.Nd), A.map T5.nb = B.map T5.nb → T5.sameL A B = true
  | [], [], _ => rfl
  | [], _ :: _, h => by simp at h
  | _ :: _, [], h => by simp at h
  | a :: A, b :: B, h => by
    simp only [List.map_cons, List.cons.injEq] at h
    have h2 := same_nb A B h.2
    obtain ⟨ak, at', aa, ac, aks, ap⟩ := a
    obtain ⟨bk, bt, ba, bc, bks, bp⟩ := b
    have h1 := h.1
    simp only [T5.nb, T5.Nd.mk.injEq] at h1
    obtain ⟨rfl, rfl, _, _, rfl, rfl⟩ := h1
    simp [T5.sameL, T5.ndEq, T5.txEq, T5.ksEq, h2]
theorem z5_nb (A : List T5.Nd) : (A.map T5.nb).map z5 = A.map z5 := by
  rw [List.map_map]
  rfl
end Go.Proofs.YtnmfcaahdeddnaaGreatDoor
namespace Go.Proofs.YtnmfcaahdeddnaaGreatDoor
open Go.RowKit
set_option linter.unusedVariables false
set_option linter.unusedSimpArgs false

/-- What both give, together. -/
theorem both_bare {L : List T5.Nd} {A B : List T5.Nd} (h0 : (T5.checkL L).2 = 0) (hA : A.map T5.nb = (T5.bareP L L.length).2) (hB : B.map T5.nb = (T5.rbareP L L.length).2) : A.map T5.nb = B.map T5.nb := by
  rw [hA, hB]
  exact T5.bare_same (p := (T5.checkL L).1) (Prod.ext rfl h0)
/-- What a bare list is, if the tree is well. -/
theorem bare_small {L : List T5.Nd} (h0 : (T5.checkL L).2 = 0) (ht : ∀ x ∈ L, x.text.size ≤ 200020) {A : List T5.Nd} (hA : A.map T5.nb = (T5.bareP L L.length).2) : A.length ≤ 50000 ∧ (∀ x ∈ A, x.text.size ≤ 200020) ∧ ∀ x ∈ A, x.ks.length ≤ 50000 := by
  have hc : T5.checkL L = ((T5.checkL L).1, 0) := Prod.ext rfl h0
  obtain ⟨hAh, hp, h5, _, _⟩ := T5.tree_once hc
  obtain ⟨T, hn, _⟩ := T5.check_zero hc
  have hf : ∀ x ∈ A, ∃ y ∈ L, x.text = y.text ∧ x.ks.length ≤ y.ks.length := fun x hx => by
    have h1 : T5.nb x ∈ (T5.bareP L L.length).2 := by rw [← hA]; exact List.mem_map_of_mem hx
    exact (bareP_from L L.length (T5.nb x) h1 :)
  refine ⟨?_, fun x hx => ?_, fun x hx => ?_⟩
  · have h1 := (T5.bareP_len L L.length).2
    rw [← hA, List.length_map] at h1
    omega
  · obtain ⟨y, hy, e, _⟩ := hf x hx
    rw [e]
    exact ht y hy
  · obtain ⟨y, hy, _, e⟩ := hf x hx
    obtain ⟨i, hi⟩ := List.getElem?_of_mem hy
    have h1 := T5.kids_few hn hi
    have h2 := (List.getElem?_eq_some_iff.1 hi).1
    omega

set_option maxRecDepth 100000 in
set_option maxHeartbeats 4000000 in
theorem checkBare_walk (L : List T5.Nd) (w : World) (a : Option Addr) (len cap : Nat) (hlen : L.length = len) (hL : T5.NAt w.heap.size w a L) (hm : len ≤ 2600000000000) (hz : ∀ (i : Nat) (y : T5.Nd), L[i]? = some y → y.ks.length * 8 ≤ reachBytes ∧ y.text.size ≤ reachBytes ∧ y.pl ≤ 9223372036854775807) (TT : Tabs w) :
    Calls Tryz.prog 4 #[.slice a len cap] w fun e w' => e = .returned (.bool true) ∧ Fr [] w w' := by
  have hz' : ∀ x ∈ L, x.ks.length * 8 ≤ 140737488355328 ∧ x.text.size ≤ 140737488355328 := fun x hx => by
    obtain ⟨i, hi⟩ := List.getElem?_of_mem hx
    obtain ⟨h1, h2, _⟩ := hz i x hi
    unfold reachBytes at h1 h2
    exact ⟨by omega, by omega⟩
  have CA := awake_any w TT
  have HZ := T5.hidC hz'
  have HLN := T5.hidC hlen
  have HL := T5.hidC hL
  clear hz hz' hlen hL
  go_enter Tryz.func4, Tryz.ntmps4
  go_wp2_with fail
  refine CA.mono ?_
  rintro e w1 ⟨rfl, f1⟩
  have CF := few12_any w.heap.size L w1 a len cap HLN.out (HL.out.fr f1 (by simp)) hm f1.size HZ.out
  clear CA
  go_wp2_with fail
  refine CF.mono ?_
  rintro e w2 ⟨⟨v, rfl, hv⟩, f2⟩
  have F2 := f1.trans f2
  clear CF
  cases v with
  | false =>
    go_wp2
    go_ret
    exact ⟨rfl, F2⟩
  | true =>
    have HV := T5.hidC (hv rfl)
    clear hv f1 f2
    have C13 := T5.bare13_any (cap := cap) HLN.out ((HL.out.fr F2 (by simp)).mono F2.size) hm (TT.fr F2 (by simp))
    go_wp2_with fail
    refine C13.mono ?_
    rintro e w3 ⟨ho3, f3⟩
    have F3 := F2.trans f3
    have C14 := T5.bare14_any (cap := cap) HLN.out ((HL.out.fr F3 (by simp)).mono F3.size) hm
    clear C13
    by_cases h0 : (T5.checkL L).2 = 0
    · unfold T5.BOut at ho3
      rw [if_neg (by simpa using h0)] at ho3
      obtain ⟨aa, ac, A, rfl, hA, mA⟩ := ho3
      have HA := T5.hidC hA
      have HMA := T5.hidC mA
      obtain ⟨_, _, ea, hca⟩ := T5.own_slice mA.row
      cases ea
      have HCA := T5.hidC hca
      clear hA mA hca
      go_wp2_with fail
      refine C14.mono ?_
      rintro e w4 ⟨ho4, f4⟩
      have F4 := F3.trans f4
      unfold T5.ROut at ho4
      rw [if_neg (by simpa using h0)] at ho4
      obtain ⟨ba, bc, B, rfl, hB, mB⟩ := ho4
      obtain ⟨_, _, eb, hcb⟩ := T5.own_slice mB.row
      cases eb
      have HAB := T5.hidC (both_bare h0 HA.out hB)
      have nA := (HMA.out.fr f4 (by simp)).nat
      have nB := mB.nat
      have HNA := T5.hidC nA
      have HNB := T5.hidC nB
      have hs := bare_small h0 (HV.out h0) HA.out
      have HSA := T5.hidC hs
      have HSB : Hid (B.length ≤ 50000 ∧ (∀ x ∈ B, x.text.size ≤ 200020) ∧ ∀ x ∈ B, x.ks.length ≤ 50000) := bare_small h0 (HV.out h0) (HAB.out.symm.trans HA.out)
      have HCB := T5.hidC hcb
      have C10 := T5.rsame_any w4.heap.size w4 A B aa ba A.length B.length ac bc rfl rfl (by have := HSA.out.1; unfold maxLen; omega) (by have := HSB.out.1; unfold maxLen; omega) HNA.out HNB.out
      rw [same_nb A B HAB.out] at C10
      clear C14 hB mB nA nB hs hcb
      go_wp2_with fail
      refine C10.mono ?_
      rintro e w5 ⟨rfl, f5⟩
      have F5 := F4.trans f5
      have C15 := bare15_any A w5 aa A.length ac rfl (fun e => (HCA.out e).2) ((HNA.out.fr f5 (by simp)).mono f5.size) HSA.out.1 (TT.fr F5 (by simp)) HSA.out.2.1 HSA.out.2.2
      clear C10
      go_wp2_with fail
      refine C15.mono ?_
      rintro e w6 ⟨rfl, f6⟩
      have F6 := F5.trans f6
      have C16 := bare15_any B w6 ba B.length bc rfl (fun e => (HCB.out e).2) ((HNB.out.fr (f5.trans f6) (by simp)).mono (f5.trans f6).size) HSB.out.1 (TT.fr F6 (by simp)) HSB.out.2.1 HSB.out.2.2
      have HE : Hid (lispO (B.map z5) = lispO (A.map z5)) := by unfold Hid; rw [← z5_nb B, ← z5_nb A, HAB.out]
      rw [HE.out] at C16
      generalize lispO (A.map z5) = R at *
      clear C15
      go_wp2_with fail
      refine C16.mono ?_
      rintro e w7 ⟨rfl, f7⟩
      have F7 := F6.trans f7
      clear C16
      go_wp2
      go_ret
      exact ⟨rfl, F7⟩
    · unfold T5.BOut at ho3
      rw [if_pos h0] at ho3
      subst ho3
      go_wp2_with fail
      refine C14.mono ?_
      rintro e w4 ⟨ho4, f4⟩
      have F4 := F3.trans f4
      unfold T5.ROut at ho4
      rw [if_pos h0] at ho4
      subst ho4
      have C10 := T5.rsame_any w4.heap.size w4 [] [] none none 0 0 0 0 rfl rfl (Nat.zero_le _) (Nat.zero_le _) (fun i x hx => by simp at hx) (fun i x hx => by simp at hx)
      rw [show T5.sameL [] [] = true from rfl] at C10
      clear C14
      generalize (T5.checkL L).2 = ec at *
      go_wp2_with fail
      refine C10.mono ?_
      rintro e w5 ⟨rfl, f5⟩
      have F5 := F4.trans f5
      have C15 := bare0_any w5 none 0 (fun _ => rfl) (TT.fr F5 (by simp))
      clear C10
      go_wp2_with fail
      refine C15.mono ?_
      rintro e w6 ⟨rfl, f6⟩
      have F6 := F5.trans f6
      have C16 := bare0_any w6 none 0 (fun _ => rfl) (TT.fr F6 (by simp))
      generalize lispO [] = R at *
      clear C15
      go_wp2_with fail
      refine C16.mono ?_
      rintro e w7 ⟨rfl, f7⟩
      have F7 := F6.trans f7
      clear C16
      go_wp2
      go_ret
      exact ⟨rfl, F7⟩
end Go.Proofs.YtnmfcaahdeddnaaGreatDoor
