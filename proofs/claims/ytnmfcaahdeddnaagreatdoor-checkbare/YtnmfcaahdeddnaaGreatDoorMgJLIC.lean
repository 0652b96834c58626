/-
  Texts of the proof, in their order: CkA, TreeX; conditions: as each says.
-/
import Derived.Test.YtnmfcaahdeddnaaGreatDoorMgJPHG
namespace Go.Proofs.YtnmfcaahdeddnaaGreatDoor.T5
open Go.RowKit
set_option linter.unusedVariables false
set_option linter.unusedSimpArgs false

def kdN (L : List Nd) (n : Nat) : Int := match L[n]? with | some x => x.kind | none => 0
def txN (L : List Nd) (n : Nat) : List UInt8 := match L[n]? with | some x => x.text.data.toList | none => []
def plN (L : List Nd) (n : Nat) : Int := match L[n]? with | some x => x.pl | none => 0
/-- Names, and the nodes that declare them. -/
abbrev NM := List UInt8 → Option Nat
def NM.nil : NM := fun _ => none
def NM.put (m : NM) (k : List UInt8) (n : Nat) : NM := fun j => if j = k then some n else m j
/-- What is thrown: a place and an error. -/
abbrev JE (α : Type) := Except (Int × Nat) α
def decE (L : List Nd) (n : Nat) (m : NM) : JE NM := match m (txN L n) with | some _ => .error (plN L n, 80) | none => .ok (m.put (txN L n) n)
def hasE (C : List NM) (k : List UInt8) : Bool := C.any (fun m => (m k).isSome)
/-- What the whole tree declares: fields, records, functions. -/
structure Env where
  fl : NM
  rc : NM
  fn : NM
def selfE (L : List Nd) (E : Env) (C : List NM) (n : Nat) : JE Unit :=
  if kdN L n = 17 then (if hasE C (txN L n) then .ok () else .error (plN L n, 80))
  else if kdN L n = 20 then (if (E.fl (txN L n)).isSome then .ok () else .error (plN L n, 80))
  else if kdN L n = 23 then (if (E.rc (txN L n)).isSome then .ok () else .error (plN L n, 80))
  else if kdN L n = 22 then match E.fn (txN L n) with
    | none => .error (plN L n, 80)
    | some f => if (kN L n).length = (kN L f).length - 1 then .ok () else .error (plN L n, 81)
  else .ok ()
def eachE (g : Nat → JE Unit) : List Nat → JE Unit
  | [] => .ok ()
  | k :: r => match g k with | .error e => .error e | .ok _ => eachE g r
def exprF (L : List Nd) (E : Env) (C : List NM) : Nat → Nat → JE Unit
  | 0, _ => .ok ()
  | f + 1, n => match selfE L E C n with | .error e => .error e | .ok _ => eachE (exprF L E C f) (kN L n)
def exprE (L : List Nd) (E : Env) (C : List NM) (n : Nat) : JE Unit := exprF L E C (n + 1) n
theorem eachE_congr {g h : Nat → JE Unit} : ∀ {l : List Nat}, (∀ k ∈ l, g k = h k) → eachE g l = eachE h l
  | [], _ => rfl
  | k :: r, H => by
    unfold eachE
    rw [H k (by simp), eachE_congr (fun j hj => H j (by simp [hj]))]
theorem exprF_fuel {L : List Nd} (h : Ahead L) (E : Env) (C : List NM) : ∀ (f f' n : Nat), n < f → n < f' → exprF L E C f n = exprF L E C f' n := by
  intro f
  induction f with
  | zero => intro f' n h1; omega
  | succ f ih =>
    intro f' n h1 h2
    cases f' with
    | zero => omega
    | succ f' =>
      unfold exprF
      rw [eachE_congr (fun k hk => ih f' k (by have := h.kid hk; omega) (by have := h.kid hk; omega))]
theorem exprE_eq {L : List Nd} (h : Ahead L) (E : Env) (C : List NM) (n : Nat) : exprE L E C n = match selfE L E C n with | .error e => .error e | .ok _ => eachE (exprE L E C) (kN L n) := by
  unfold exprE
  rw [exprF]
  rw [eachE_congr (fun k hk => exprF_fuel h E C n (k + 1) k (h.kid hk) (by omega))]

/-- The names of a merge, each in scope, no two alike. -/
def greensE (L : List Nd) (E : Env) (C : List NM) : List Nat → NM → JE Unit
  | [], _ => .ok ()
  | k :: r, m => match exprE L E C k with
    | .error e => .error e
    | .ok _ => match decE L k m with | .error e => .error e | .ok m' => greensE L E C r m'
def mergeE (L : List Nd) (E : Env) (C : List NM) (n : Nat) : JE Unit := if 4 < (kN L n).length then .error (plN L n, 82) else greensE L E C (kN L n) NM.nil
/-- Statements in a scope of their own, one behind the other: g tells what one makes of the names. -/
def seqE (g : Nat → NM → JE NM) : List Nat → NM → JE Unit
  | [], _ => .ok ()
  | k :: r, m => match g k m with | .error e => .error e | .ok m' => seqE g r m'
def kid (L : List Nd) (n i : Nat) : Nat := (kN L n).getD i 0
def stmtF (L : List Nd) (E : Env) : Nat → List NM → Nat → NM → JE NM
  | 0, _, _, m => .ok m
  | f + 1, C, n, m =>
    if kdN L n = 5 then (if hasE (m :: C) (txN L n) then .error (plN L n, 80) else match eachE (exprE L E (m :: C)) (kN L n) with | .error e => .error e | .ok _ => .ok (m.put (txN L n) n))
    else if kdN L n = 7 then match exprE L E (m :: C) (kid L n 0) with
      | .error e => .error e
      | .ok _ => match seqE (stmtF L E f (m :: C)) (kN L (kid L n 1)) NM.nil with
        | .error e => .error e
        | .ok _ => match seqE (stmtF L E f (m :: C)) (kN L (kid L n 2)) NM.nil with | .error e => .error e | .ok _ => .ok m
    else if kdN L n = 8 then match exprE L E (m :: C) (kid L n 0) with
      | .error e => .error e
      | .ok _ => match kN L (kid L n 1) with
        | [] => .ok m
        | k :: r => if kdN L k = 13 then match mergeE L E (m :: C) k with
            | .error e => .error e
            | .ok _ => match seqE (stmtF L E f (m :: C)) r NM.nil with | .error e => .error e | .ok _ => .ok m
          else match seqE (stmtF L E f (m :: C)) (k :: r) NM.nil with | .error e => .error e | .ok _ => .ok m
    else if kdN L n = 13 then .error (plN L n, 82)
    else match eachE (exprE L E (m :: C)) (kN L n) with | .error e => .error e | .ok _ => .ok m
def stmtE (L : List Nd) (E : Env) (C : List NM) (n : Nat) (m : NM) : JE NM := stmtF L E (n + 1) C n m
def blockE (L : List Nd) (E : Env) (C : List NM) (l : List Nat) : JE Unit := seqE (stmtE L E C) l NM.nil
theorem seqE_congr {g h : Nat → NM → JE NM} : ∀ {l : List Nat}, (∀ k ∈ l, ∀ m, g k m = h k m) → ∀ m, seqE g l m = seqE h l m
  | [], _, _ => rfl
  | k :: r, H, m => by
    unfold seqE
    rw [H k (by simp)]
    cases h k m with
    | error e => rfl
    | ok m' => exact seqE_congr (fun j hj => H j (by simp [hj])) m'

/-- What a description declares. -/
structure SrD where
  name : ByteArray
  fields : List ByteArray
structure FnD where
  name : ByteArray
  params : Nat
  vars : List ByteArray
  node : Nat
structure Ds where
  sorts : List SrD
  fns : List FnD
  main : Nat
  merges : List Nat
def tbN (L : List Nd) (n : Nat) : ByteArray := match L[n]? with | some x => x.text | none => ⟨#[]⟩
def addVar (v : ByteArray) : List FnD → List FnD
  | [] => []
  | [f] => [{ f with vars := f.vars ++ [v] }]
  | f :: g :: r => f :: addVar v (g :: r)
def mainB : List UInt8 := [109, 97, 105, 110]
def stepD (L : List Nd) (d : Ds) (n : Nat) : Ds :=
  if kdN L n = 2 then { d with sorts := d.sorts ++ [⟨tbN L n, (kN L n).map (tbN L)⟩] }
  else if kdN L n = 3 then { d with main := if txN L n = mainB then d.fns.length else d.main, fns := d.fns ++ [⟨tbN L n, (kN L n).length - 1, ((kN L n).take ((kN L n).length - 1)).map (tbN L), n⟩] }
  else if kdN L n = 5 then { d with fns := addVar (tbN L n) d.fns }
  else if kdN L n = 13 then { d with merges := d.merges ++ [n] }
  else d
def descL (L : List Nd) : Ds := (treeW L).foldl (fun d t => stepD L d t.1) ⟨[], [], 0, []⟩

def decsE (L : List Nd) : List Nat → NM → JE NM
  | [], m => .ok m
  | k :: r, m => match decE L k m with | .error e => .error e | .ok m' => decsE L r m'
/-- Records, one by one: the name, how many fields, each field. -/
def recsE (L : List Nd) : List Nat → NM → NM → JE (NM × NM)
  | [], rc, fl => .ok (rc, fl)
  | k :: r, rc, fl => if kdN L k = 2 then match decE L k rc with
      | .error e => .error e
      | .ok rc' => if 100 < (kN L k).length then .error (plN L k, 2) else match decsE L (kN L k) fl with | .error e => .error e | .ok fl' => recsE L r rc' fl'
    else recsE L r rc fl
def funE (L : List Nd) (E : Env) (f : FnD) : JE Unit :=
  if 100 < f.vars.length then .error (plN L f.node, 2)
  else match decsE L ((kN L f.node).take ((kN L f.node).length - 1)) NM.nil with
    | .error e => .error e
    | .ok m => blockE L E [m] (kN L (kid L f.node f.params))
def funsE (L : List Nd) (E : Env) : List FnD → JE Unit
  | [] => .ok ()
  | f :: r => match funE L E f with | .error e => .error e | .ok _ => funsE L E r
def judgeE (L : List Nd) (d : Ds) : JE Unit :=
  if 100 < d.sorts.length ∨ 200 < d.fns.length then .error (0, 2)
  else match recsE L (kN L (L.length - 1)) NM.nil NM.nil with
    | .error e => .error e
    | .ok (rc, fl) => match decsE L (d.fns.map FnD.node) NM.nil with
      | .error e => .error e
      | .ok fn => match fn mainB with
        | none => .error (0, 83)
        | some k => if 0 < (kN L k).length - 1 then .error (0, 83) else funsE L ⟨fl, rc, fn⟩ d.fns
/-- Program: the description, or a place and an error. -/
def progE (L : List Nd) : Except (Int × Nat) Ds :=
  if (checkL L).2 ≠ 0 then .error (if (checkL L).2 = 2 ∨ (checkL L).2 = 51 ∨ L.length ≤ (checkL L).1 then 0 else max (plN L (checkL L).1) 0, (checkL L).2)
  else match judgeE L (descL L) with
    | .error e => .error e
    | .ok _ => .ok (descL L)
end Go.Proofs.YtnmfcaahdeddnaaGreatDoor.T5
namespace Go.Proofs.YtnmfcaahdeddnaaGreatDoor.T5
open Go.RowKit Go.Shelf
set_option linter.unusedVariables false

/-- Two rows of numbers of one's own. -/
structure Two (w : World) (base : Nat) (v1 v2 : Value) (T : List (Nat × Nat)) : Prop where
  o1 : w.ownsRow base 3 1 v1 T.length (T.map (fun t => Value.int .i64 (t.1 : Nat)))
  o2 : w.ownsRow base 3 1 v2 T.length (T.map (fun t => Value.int .i64 (t.2 : Nat)))
  ne : ∀ k, v1.ownBlock = some k → v2.ownBlock ≠ some k
def twoB (v1 v2 : Value) : List Nat := v1.ownBlock.toList ++ v2.ownBlock.toList
theorem two_mem {v1 v2 : Value} {k : Nat} : k ∈ twoB v1 v2 ↔ v1.ownBlock = some k ∨ v2.ownBlock = some k := by simp [twoB]
theorem Two.fr {w w' : World} {base : Nat} {v1 v2 : Value} {T : List (Nat × Nat)} {S : List Nat} (h : Two w base v1 v2 T) (f : Fr S w w') (hS : ∀ k ∈ S, k ∉ twoB v1 v2) : Two w' base v1 v2 T :=
  ⟨own_fr h.o1 f (fun k hk hm => hS k hm (two_mem.2 (.inl hk))), own_fr h.o2 f (fun k hk hm => hS k hm (two_mem.2 (.inr hk))), h.ne⟩

def rwOut (w : World) (base : Nat) (v1 v2 : Value) (T : List (Nat × Nat)) (e : Ending) (w' : World) : Prop :=
  ∃ v1' v2', e = .returned (.tuple #[v1', v2']) ∧ Two w' base v1' v2' T ∧ Fr (twoB v1 v2) w w' ∧ ∀ k ∈ twoB v1' v2', k ∈ twoB v1 v2 ∨ w.heap.size ≤ k

theorem flat_take_le {α β : Type} (f : α → List β) (l : List α) (q : Nat) : ((l.take q).flatMap f).length ≤ (l.flatMap f).length := by
  conv => rhs; rw [← List.take_append_drop q l, List.flatMap_append, List.length_append]
  omega

set_option maxRecDepth 100000 in
set_option maxHeartbeats 4000000 in
theorem refwalk (B base : Nat) (L : List Nd) (hA : Ahead L) (a : Option Addr) (len cap : Nat) (hlen : L.length = len) (hBb : B ≤ base) : ∀ (n d : Nat) (w : World) (v1 v2 : Value) (T : List (Nat × Nat)), n < len → NAt B w a L → base ≤ w.heap.size → Two w base v1 v2 T → T.length + (wk L n d).length ≤ 50000 → n + d ≤ 50000 →
    Calls Tryz.prog 52 #[.slice a len cap, .int .i64 (n : Nat), .int .i64 (d : Nat), v1, v2] w (rwOut w base v1 v2 (T ++ wk L n d)) := by
  obtain ⟨i3, hi, hz, hz1, hby⟩ := info_parts info3
  intro n
  induction n using Nat.strongRecOn with
  | ind n ih =>
    intro d w v1 v2 T hn hN hbase hT hbd hnd
    have HL : Hid (L.length = len) := hlen
    have HBB : Hid (B ≤ base) := hBb
    clear hlen hBb
    have hx : L[n]? = some (L[n]'(by rw [HL.out]; exact hn)) := List.getElem?_eq_getElem _
    generalize L[n]'(by rw [HL.out]; exact hn) = x at hx
    have hwk := wk_eq hA n d
    have hkN : Hid (kN L n = x.ks.map Int.toNat) := by unfold Hid kN; rw [hx]
    have HIN : Hid (∀ k ∈ x.ks, 0 ≤ k ∧ k < n) := hA n x hx
    have HWK : Hid (wk L n d = (n, d) :: (kN L n).flatMap (fun k => wk L k (d + 1))) := hwk
    rw [HWK.out] at hbd ⊢
    have HBD : Hid (T.length + ((kN L n).flatMap (fun k => wk L k (d + 1))).length + 1 ≤ 50000) := by simp only [List.length_cons] at hbd; unfold Hid; omega
    have HND : Hid (n + d ≤ 50000) := hnd
    have HBS : Hid (base ≤ w.heap.size) := hbase
    have hdI : (d : Int) ≤ 50000 := by omega
    have hTl : (T.length : Int) ≤ 49999 := by have := HBD.out; omega
    clear hbd hnd hwk HWK hbase
    obtain ⟨b, o, rfl, hb, hNC⟩ := hN n x hx
    obtain ⟨a1, c1, rfl, _⟩ := own_slice hT.o1
    obtain ⟨a2, c2, rfl, _⟩ := own_slice hT.o2
    go_enter Tryz.func52, Tryz.ntmps52
    have hnew : ∀ (X : World) (z : Int), ∀ j u, [Value.int .i64 z][j]? = some u → (X.alloc (.cells #[.int .i64 z] 3)).cell? ((⟨X.heap.size, 0, none⟩ : Addr).add j) = some u := by
      intro X z j u hu
      have hadd : (⟨X.heap.size, 0, none⟩ : Addr).add j = ⟨X.heap.size, j, none⟩ := by unfold Addr.add; split <;> simp_all
      rw [hadd]
      exact at_cells (heap_alloc_new X _) j (by simpa using hu)
    have f0 : Fr [] w (w.alloc (.cells #[.int .i64 (n : Nat)] 3)) := (Fr.refl _ _).alloc _
    go_wp2_with (at_builtin; refine wpList_append_own_at _ rfl _ _ 26 rfl base 3 i3 (.int .i64 0) 1 8 Tryz.underlying26 hi hz hz1 hby rfl (by decide) (.slice a1 T.length c1) T.length (T.map (fun t => Value.int .i64 (t.1 : Nat))) rfl (own_fr hT.o1 f0 (by simp)) ⟨w.heap.size, 0, none⟩ 1 1 [.int .i64 (n : Nat)] rfl rfl (hnew w _) (by simp [Value.oneCell']) (by unfold maxLen; omega) (by omega) (by have := HBS.out; simp; omega) ?_)
    intro u1 w1 hown1 hgrow1 hnil1 hloc1
    have f1 : Fr (Value.slice a1 T.length c1).ownBlock.toList w w1 := (f0.sub (by simp)).trans ((Fr.ofGrown hgrow1).sub (fun k hk => .inl hk))
    have o2 := own_fr hT.o2 f1 (fun k hk hm => by simp at hm; exact hT.ne k hm hk)
    have f1' : Fr [] w1 (w1.alloc (.cells #[.int .i64 (d : Nat)] 3)) := (Fr.refl _ _).alloc _
    have HW1 : Hid (w.heap.size ≤ w1.heap.size) := f1.size
    have hu1 : Hid (∀ k, u1.ownBlock = some k → (Value.slice a1 T.length c1).ownBlock = some k ∨ w.heap.size ≤ k) := fun k hk => by
      rcases hloc1 with h | h
      · exact .inl (h ▸ hk)
      · rw [h] at hk; simp at hk; exact .inr (by omega)
    obtain ⟨ua, uc, rfl, _⟩ := own_slice hown1
    go_wp2_with (at_builtin; refine wpList_append_own_at _ rfl _ _ 26 rfl base 3 i3 (.int .i64 0) 1 8 Tryz.underlying26 hi hz hz1 hby rfl (by decide) (.slice a2 T.length c2) T.length (T.map (fun t => Value.int .i64 (t.2 : Nat))) rfl (own_fr o2 f1' (by simp)) ⟨w1.heap.size, 0, none⟩ 1 1 [.int .i64 (d : Nat)] rfl rfl (hnew w1 _) (by simp [Value.oneCell']) (by unfold maxLen; omega) (by omega) (by have := HBS.out; have := HW1.out; simp; omega) ?_)
    intro u2 w2 hown2 hgrow2 hnil2 hloc2
    have f2 : Fr (Value.slice a2 T.length c2).ownBlock.toList w1 w2 := (f1'.sub (by simp)).trans ((Fr.ofGrown hgrow2).sub (fun k hk => .inl hk))
    have F2 : Fr (twoB (.slice a1 T.length c1) (.slice a2 T.length c2)) w w2 := (f1.sub (fun k hk => .inl (two_mem.2 (.inl (by simpa using hk))))).trans (f2.sub (fun k hk => .inl (two_mem.2 (.inr (by simpa using hk)))))
    have hu2 : Hid (∀ k, u2.ownBlock = some k → (Value.slice a2 T.length c2).ownBlock = some k ∨ w1.heap.size < k) := fun k hk => by
      rcases hloc2 with h | h
      · exact .inl (h ▸ hk)
      · rw [h] at hk; simp at hk; exact .inr (by omega)
    obtain ⟨ub, ud, rfl, _⟩ := own_slice hown2
    have hne : ∀ k, (Value.slice ua (T.length + 1) uc).ownBlock = some k → (Value.slice a2 T.length c2).ownBlock ≠ some k := fun k hk he => by
      rcases hu1.out k hk with h | h
      · exact hT.ne k h he
      · have := (hT.o2.lt k he).2; omega
    have T2 : Two w2 base (.slice ua (T.length + 1) uc) (.slice ub (T.length + 1) ud) (T ++ [(n, d)]) := by
      refine ⟨by simpa using own_fr hown1 f2 (fun k hk hm => hne k hk (by simpa using hm)), by simpa using hown2, fun k hk he => ?_⟩
      rcases hu2.out k he with h | h
      · exact hne k hk h
      · have := (hown1.lt k hk).2; omega
    have hbl : Hid (∀ k ∈ twoB (.slice ua (T.length + 1) uc) (.slice ub (T.length + 1) ud), k ∈ twoB (.slice a1 T.length c1) (.slice a2 T.length c2) ∨ w.heap.size ≤ k) := fun k hk => by
      rcases two_mem.1 hk with h | h
      · rcases hu1.out k h with h | h
        · exact .inl (two_mem.2 (.inl h))
        · exact .inr h
      · rcases hu2.out k h with h | h
        · exact .inl (two_mem.2 (.inr h))
        · exact .inr (by have := HW1.out; omega)
    have HLO : Hid (∀ k ∈ twoB (.slice a1 T.length c1) (.slice a2 T.length c2), base ≤ k) := fun k hk => by
      rcases two_mem.1 hk with h | h
      · exact (hT.o1.lt k h).1
      · exact (hT.o2.lt k h).1
    have hNC2 := hNC.fr F2 hb (fun k hk => by have := HLO.out k hk; have := HBB.out; omega)
    have m2 : w2.cell? ⟨b, o + n * 4 + 2, none⟩ = some (.slice x.a x.ks.length x.c) := hNC2.c2
    have hkl : x.ks.length ≤ maxLen := hNC2.kl
    have hkk : KAt B w2 x.a x.ks := hNC2.k
    unfold maxLen at hkl
    have hkN' := hkN.out
    clear hown1 hown2 hgrow1 hgrow2 hnil1 hnil2 hloc1 hloc2 o2 f0 f1 f1' f2 hne hnew hNC hNC2
    obtain ⟨kind, text, xa, xc, ks, pl⟩ := x
    simp only at m2 hkl hkk HIN hkN'
    have HKN : Hid (kN L n = ks.map Int.toNat) := hkN'
    clear hkN hkN'
    generalize hv3 : Value.slice ua (T.length + 1) uc = s30 at *
    generalize hv4 : Value.slice ub (T.length + 1) ud = s40 at *
    generalize hp3 : Value.slice a1 T.length c1 = v1 at *
    generalize hp4 : Value.slice a2 T.length c2 = v2 at *
    clear hv3 hv4 hu1 hu2
    go_wp2
    go_loopw [3, 4, 28] (fun s3 s4 j wq => ∃ q : Nat, q ≤ ks.length ∧ j = .int .i64 q ∧ Two wq base s3 s4 (T ++ [(n, d)] ++ ((kN L n).take q).flatMap (fun k => wk L k (d + 1))) ∧ Fr (twoB v1 v2) w wq ∧ (∀ k ∈ twoB s3 s4, k ∈ twoB v1 v2 ∨ w.heap.size ≤ k)) (fun _ _ j _ => ks.length - (intOf j).toNat)
    case atStart => exact ⟨0, Nat.zero_le _, rfl, by simpa using T2, F2, hbl.out⟩
    case round =>
      obtain ⟨q, hq, rfl, hTq, fq, hbq⟩ := hrel
      clear T2 F2 hbl m2
      have HFQ : Hid (∀ k ∈ twoB v1 v2, B ≤ k) := fun k hk => by have := HLO.out k hk; have := HBB.out; omega
      have HKQ : Hid (∀ k ∈ twoB u3 u4, k ∈ twoB v1 v2 ∨ w.heap.size ≤ k) := hbq
      clear hbq
      by_cases hql : q < ks.length
      · have hk : ks[q]? = some ks[q] := List.getElem?_eq_getElem hql
        generalize ks[q] = k at hk
        have hkb := HIN.out k (List.mem_of_getElem? hk)
        obtain ⟨r, rfl⟩ := Int.eq_ofNat_of_zero_le hkb.1
        have hrn : r < n := by omega
        have HTK : Hid ((kN L n).take (q + 1) = (kN L n).take q ++ [r]) := by
          unfold Hid
          rw [List.take_add_one, HKN.out, List.getElem?_map, hk]
          simp
        obtain ⟨kb, ko, hxa, hkb', hcell⟩ := (hN.fr fq HFQ.out n _ hx).elim (fun b' h => h.elim (fun o' h => h.2.2.k)) q _ hk
        subst hxa
        have C := ih r hrn (d + 1) wr u3 u4 (T ++ [(n, d)] ++ ((kN L n).take q).flatMap (fun k => wk L k (d + 1))) (by omega) (hN.fr fq HFQ.out) (Nat.le_trans HBS.out fq.size) hTq (by
          have h1 := flat_take_le (fun k => wk L k (d + 1)) (kN L n) (q + 1)
          rw [HTK.out, List.flatMap_append, List.length_append] at h1
          have h2 := HBD.out
          simp only [List.length_append, List.length_cons, List.length_nil, List.flatMap_cons, List.flatMap_nil, List.append_nil] at h1 ⊢
          omega) (by have := HND.out; omega)
        rw [show (((d + 1 : Nat) : Nat) : Int) = (d : Int) + 1 from by omega] at C
        clear hk hkb
        obtain ⟨s3a, s3c, hs3, _⟩ := own_slice hTq.o1
        obtain ⟨s4a, s4c, hs4, _⟩ := own_slice hTq.o2
        clear hs3 hs4
        go_wp2_with fail
        refine C.mono ?_
        rintro e w5 ⟨v5, v6, rfl, hT5, f5, hb5⟩
        have HS5 : Hid (w.heap.size ≤ wr.heap.size) := fq.size
        have fq5 : Fr (twoB v1 v2) w w5 := ((fq.sub (T := twoB v1 v2 ++ twoB u3 u4) (fun k hk => .inl (by simp [hk]))).trans (f5.sub (fun k hk => .inl (by simp [hk])))).sub (fun k hk => by
          simp only [List.mem_append] at hk
          rcases hk with h | h
          · exact .inl h
          · exact HKQ.out k h)
        clear C f5
        go_wp2
        go_roundw
        case rel =>
          refine ⟨q + 1, hql, by go_num, ?_, fq5, fun k hk => ?_⟩
          · rw [HTK.out, List.flatMap_append]
            simpa using hT5
          · rcases hb5 k hk with h | h
            · exact HKQ.out k h
            · exact .inr (by have := HS5.out; omega)
        case measure => simp [intOf]; omega
      · have hqe : q = ks.length := by omega
        subst hqe
        go_wp2
        go_ret2
        subst hp3 hp4
        refine ⟨_, _, rfl, ?_, fq, HKQ.out⟩
        rw [List.take_of_length_le (by rw [HKN.out]; simp)] at hTq
        simpa using hTq

theorem Two.nil (w : World) (base : Nat) : Two w base (.slice none 0 0) (.slice none 0 0) [] := ⟨World.ownsRow_nil _ _ _ _, World.ownsRow_nil _ _ _ _, fun k h => by simp [Value.ownBlock] at h⟩

end Go.Proofs.YtnmfcaahdeddnaaGreatDoor.T5
