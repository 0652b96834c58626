/-
  Any bytes are just the tree that they are, places and all, or the first token that no description goes on with, as the document says; condition: none but the tables as the program lays them.
-/
import Derived.Test.YtnkjgggbiokfbaaGreatDoorCards
import Derived.Test.YtnkjgggbiokfbaaGreatDoorTie
import Derived.WalkKit
import Derived.ProofKit
import Derived.OpenShut
import Derived.Deep.DeepHandedRow
import Derived.Lib.LaidTab
import Derived.Stop.LaidErr
import Derived.ChangeMaps5
import Derived.Test.YtnkjgggbiokfbaaGreatDoorMgB
import Derived.Test.YtnkjgggbiokfbaaGreatDoorMgD
import Derived.Test.YtnkjgggbiokfbaaGreatDoorMgE
namespace Go.Proofs.YtnkjgggbiokfbaaGreatDoor
open Go.RowKit
set_option linter.unusedVariables false
set_option linter.unusedSimpArgs false

/-- What is not marked, together. -/
def pot (len : Nat → Nat) (T : List Bool) : Nat → Nat
  | 0 => 0
  | m + 1 => pot len T m + if T.getD m false = true then 0 else len m
def sumTo (cost : Nat → Nat) : Nat → Nat
  | 0 => 0
  | m + 1 => sumTo cost m + cost m
theorem pot_congr {len : Nat → Nat} {T U : List Bool} : ∀ n, (∀ i, i < n → T.getD i false = U.getD i false) → pot len T n = pot len U n
  | 0, _ => rfl
  | n + 1, h => by
    simp only [pot]
    rw [pot_congr n (fun i hi => h i (by omega)), h n (by omega)]
theorem getD_set {T : List Bool} {k i : Nat} (h : i ≠ k) : (T.set k true).getD i false = T.getD i false := by
  rw [List.getD_eq_getElem?_getD, List.getD_eq_getElem?_getD, List.getElem?_set_ne (fun e => h e.symm)]
theorem set_pot {len : Nat → Nat} {T : List Bool} {k : Nat} (hf : T.getD k false = false) : ∀ n, k < n → n ≤ T.length → pot len (T.set k true) n + len k = pot len T n
  | 0, h, _ => by omega
  | n + 1, h, hl => by
    simp only [pot]
    by_cases e : k = n
    · subst e
      rw [pot_congr (T := T.set k true) (U := T) k (fun i hi => getD_set (by omega)), hf]
      rw [show (T.set k true).getD k false = true by rw [List.getD_eq_getElem?_getD, List.getElem?_set_self (by omega)]; rfl]
      simp
    · have := set_pot (len := len) hf n (by omega) (by omega)
      rw [getD_set (by omega)]
      omega
theorem take_pot {len : Nat → Nat} {n : Nat} : ∀ (ks : List Int) (T T' : List Bool), T5.takeL n ks T = some T' → n ≤ T.length → pot len T' n + (ks.map (fun k => len k.toNat)).sum = pot len T n
  | [], T, T', h, _ => by simp [T5.takeL] at h; simp [h]
  | k :: r, T, T', h, hl => by
    simp only [T5.takeL] at h
    split at h
    · cases h
    · rename_i hn
      have h1 := take_pot (len := len) r _ _ h (by simpa using hl)
      have hk : T.getD k.toNat false = false := by
        cases e : T.getD k.toNat false with
        | false => rfl
        | true => exact absurd (.inr (.inr e)) hn
      have h2 := set_pot (len := len) hk n (by omega) hl
      simp only [List.map_cons, List.sum_cons]
      omega
theorem nodes_marks {L : List T5.Nd} : ∀ (m : Nat) (T : List Bool), T5.nodesL L m = .ok T → ∀ i, T.getD i false = true → i + 1 < m
  | 0, T, h, i, hi => by
    simp [T5.nodesL] at h
    subst h
    rw [List.getD_eq_getElem?_getD] at hi
    by_cases e : i < L.length
    · simp [e] at hi
    · simp [e] at hi
  | m + 1, T, h, i, hi => by
    unfold T5.nodesL at h
    split at h
    · cases h
    · rename_i T0 h0
      have ih := nodes_marks m T0 h0 i
      split at h
      · cases h; have := ih hi; omega
      · rename_i x hx
        split at h
        · cases h
        · rename_i T1 h1
          cases h
          unfold T5.nodeE at h1
          split at h1
          · cases h1
          · split at h1
            · cases h1
            · split at h1
              · cases h1
              · rename_i T2 ht2
                repeat (split at h1 <;> try (cases h1))
                rcases T5.take_true _ _ _ i ht2 hi with e | e
                · have := ih e; omega
                · have := T5.take_in _ _ _ ht2 (i : Int) e
                  omega
theorem nodes_pre {L : List T5.Nd} {m : Nat} {T : List Bool} (h : T5.nodesL L m = .ok T) {n : Nat} (hn : n ≤ m) : ∃ U, T5.nodesL L n = .ok U := by
  cases hu : T5.nodesL L n with
  | ok U => exact ⟨U, rfl⟩
  | error e => rw [T5.nodes_stop hu m hn] at h; cases h
theorem pot_bound {L : List T5.Nd} {len cost : Nat → Nat} (hlen : ∀ i x, L[i]? = some x → len i ≤ cost i + (x.ks.map (fun k => len k.toNat)).sum) : ∀ (m : Nat) (T : List Bool), T5.nodesL L m = .ok T → m ≤ L.length → pot len T m ≤ sumTo cost m
  | 0, T, h, _ => by simp [pot]
  | m + 1, T, h, hm => by
    unfold T5.nodesL at h
    split at h
    · cases h
    · rename_i T0 h0
      have ih := pot_bound hlen m T0 h0 (by omega)
      have hl := T5.nodes_length m T0 h0
      split at h
      · rename_i hx
        rw [List.getElem?_eq_getElem (by omega)] at hx
        cases hx
      · rename_i x hx
        split at h
        · cases h
        · rename_i T1 h1
          cases h
          unfold T5.nodeE at h1
          split at h1
          · cases h1
          · split at h1
            · cases h1
            · split at h1
              · cases h1
              · rename_i T2 ht2
                repeat (split at h1 <;> try (cases h1))
                have e1 := take_pot (len := len) _ _ _ ht2 (by omega)
                have e2 := hlen m x hx
                simp only [pot, sumTo]
                split <;> omega
/-- What is made of one node is no longer than what its own and those ahead of it cost. -/
theorem len_bound {L : List T5.Nd} {len cost : Nat → Nat} (hlen : ∀ i x, L[i]? = some x → len i ≤ cost i + (x.ks.map (fun k => len k.toNat)).sum) {T : List Bool} (h : T5.nodesL L L.length = .ok T) {n : Nat} (hn : n < L.length) : len n ≤ sumTo cost (n + 1) := by
  obtain ⟨U, hU⟩ := nodes_pre h (n := n + 1) (by omega)
  have h1 := pot_bound hlen (n + 1) U hU (by omega)
  have h2 : U.getD n false = false := by
    cases e : U.getD n false with
    | false => rfl
    | true => have := nodes_marks _ _ hU n e; omega
  simp only [pot, h2] at h1
  simp at h1
  omega
theorem sumTo_mono {cost : Nat → Nat} {n m : Nat} (h : n ≤ m) : sumTo cost n ≤ sumTo cost m := by
  induction m with
  | zero => have : n = 0 := by omega
            subst this; exact Nat.le_refl _
  | succ m ih =>
    by_cases e : n = m + 1
    · subst e; exact Nat.le_refl _
    · have := ih (by omega)
      simp only [sumTo]
      omega

def headB (x : T5.Nd) : List UInt8 := 40 :: Lib.itoa x.kind ++ (if x.text.data.toList = [] then [] else 32 :: x.text.data.toList) ++ (if x.pl = 0 then [] else 32 :: 64 :: Lib.itoa x.pl)
def lispF (L : List T5.Nd) : Nat → Int → List UInt8
  | 0, _ => []
  | f + 1, k => match L[k.toNat]? with
    | none => []
    | some x => headB x ++ (x.ks.map (fun j => 32 :: lispF L f j)).flatten ++ [41]
def Kids (L : List T5.Nd) : Prop := ∀ (i : Nat) (x : T5.Nd), L[i]? = some x → ∀ k ∈ x.ks, 0 ≤ k ∧ k < i
theorem lispF_same {L : List T5.Nd} (hK : Kids L) : ∀ (f g : Nat) (k : Int), k.toNat < f → k.toNat < g → lispF L f k = lispF L g k := by
  intro f
  induction f with
  | zero => intro g k h; omega
  | succ f ih =>
    intro g k h hg
    obtain _ | g := g
    · omega
    simp only [lispF]
    cases hx : L[k.toNat]? with
    | none => rfl
    | some x =>
      have e : x.ks.map (fun j => 32 :: lispF L f j) = x.ks.map (fun j => 32 :: lispF L g j) := by
        apply List.map_congr_left
        intro j hj
        obtain ⟨k0, k1⟩ := hK _ x hx j hj
        rw [ih g j (by omega) (by omega)]
      simp only [e]
def lispN (L : List T5.Nd) (n : Nat) : List UInt8 := lispF L (n + 1) n
def costB (L : List T5.Nd) (i : Nat) : Nat := match L[i]? with | some x => (headB x).length + x.ks.length + 1 | none => 0
theorem flat_len {f : Int → List UInt8} : ∀ ks : List Int, ((ks.map (fun j => 32 :: f j)).flatten).length = ks.length + (ks.map (fun j => (f j).length)).sum
  | [] => rfl
  | k :: r => by
    simp only [List.map_cons, List.flatten_cons, List.length_append, List.length_cons, List.sum_cons, flat_len r]
    omega
theorem lisp_len {L : List T5.Nd} (hK : Kids L) (i : Nat) (x : T5.Nd) (hx : L[i]? = some x) : (lispN L i).length ≤ costB L i + (x.ks.map (fun k => (lispN L k.toNat).length)).sum := by
  have e0 : lispN L i = headB x ++ (x.ks.map (fun j => 32 :: lispF L i j)).flatten ++ [41] := by
    unfold lispN
    simp only [lispF, Int.toNat_natCast, hx]
  have ec : costB L i = (headB x).length + x.ks.length + 1 := by unfold costB; rw [hx]
  rw [e0, ec]
  simp only [List.length_append, flat_len, List.length_cons, List.length_nil]
  simp only [lispN]
  have e : x.ks.map (fun j => (lispF L i j).length) = x.ks.map (fun k => (lispF L (k.toNat + 1) ((k.toNat : Nat) : Int)).length) := by
    apply List.map_congr_left
    intro k hk
    obtain ⟨k0, k1⟩ := hK i x hx k hk
    have ek : ((k.toNat : Nat) : Int) = k := by omega
    rw [ek, lispF_same hK i (k.toNat + 1) k (by omega) (by omega)]
  rw [e]
  omega
theorem kids_of {L : List T5.Nd} {T : List Bool} (h : T5.nodesL L L.length = .ok T) : Kids L := fun i x hx k hk => by
  have hi := (List.getElem?_eq_some_iff.1 hx).1
  exact T5.nodes_in _ _ h i x hi hx k hk
theorem lisp_bound {L : List T5.Nd} {T : List Bool} (h : T5.nodesL L L.length = .ok T) {M : Nat} (hM : sumTo (costB L) L.length ≤ M) {f n : Nat} (hn : n < L.length) (hf : n < f) : (lispF L f n).length ≤ M := by
  have h1 := len_bound (len := fun i => (lispN L i).length) (fun i x hx => lisp_len (kids_of h) i x hx) h hn
  have h2 := sumTo_mono (cost := costB L) (show n + 1 ≤ L.length by omega)
  rw [lispF_same (kids_of h) f (n + 1) n (by simpa using hf) (by simp)]
  simp only [lispN] at h1
  omega
end Go.Proofs.YtnkjgggbiokfbaaGreatDoor
namespace Go.Proofs.YtnkjgggbiokfbaaGreatDoor
open Go.RowKit
set_option linter.unusedVariables false
set_option linter.unusedSimpArgs false

theorem itoa_any (n : Int) (h0 : -9223372036854775808 ≤ n) (h1 : n ≤ 9223372036854775807) (w : World) (T : Tabs w) :
    Calls Tryz.prog 74 #[.int .i64 n] w fun e w' => e = .returned (.string ⟨(Lib.itoa n).toArray⟩) ∧ Fr [] w w' := by
  refine (Tryz.strconv_Itoa n h0 h1 w T.pow).mono ?_
  rintro e w' ⟨he, k, os, hw⟩
  exact ⟨he, fmt_fr hw⟩
theorem itoa_len (n : Int) (h0 : -9223372036854775808 ≤ n) (h1 : n ≤ 9223372036854775807) : (Lib.itoa n).length ≤ 21 := by
  unfold Lib.itoa
  split
  · have := dec_len2 19 n.natAbs (by omega)
    simp only [List.length_cons]
    omega
  · have := dec_len2 19 n.toNat (by omega)
    omega
/-- A node's four cells, in a block of one's own. -/
def NB (w : World) (g : Nat) (k : Int) (t : ByteArray) (a : Option Addr) (n c : Nat) (p : Int) : Prop := w.heap[g]? = some (.cells #[.int .i64 k, .string t, .slice a n c, .int .i64 p] 37 (0, 0))
theorem NB.cells {w : World} {g : Nat} {k : Int} {t : ByteArray} {a : Option Addr} {n c : Nat} {p : Int} (h : NB w g k t a n c p) : w.cell? ⟨g, 0, none⟩ = some (.int .i64 k) ∧ w.cell? ⟨g, 1, none⟩ = some (.string t) ∧ w.cell? ⟨g, 2, none⟩ = some (.slice a n c) ∧ w.cell? ⟨g, 3, none⟩ = some (.int .i64 p) := by
  unfold NB at h
  simp [World.cell?, h]
theorem NB.lt {w : World} {g : Nat} {k : Int} {t : ByteArray} {a : Option Addr} {n c : Nat} {p : Int} (h : NB w g k t a n c p) : g < w.heap.size := (Array.getElem?_eq_some_iff.1 h).1
theorem NB.fr {w w' : World} {g : Nat} {k : Int} {t : ByteArray} {a : Option Addr} {n c : Nat} {p : Int} (h : NB w g k t a n c p) (f : Fr [] w w') : NB w' g k t a n c p := (f.block _ h.lt (by simp)).trans h
def headA (x : T5.Nd) : List UInt8 := 40 :: Lib.itoa x.kind ++ (if x.text.data.toList = [] then [] else 32 :: x.text.data.toList)
def headC (x : T5.Nd) : List UInt8 := if x.pl = 0 then [] else 32 :: 64 :: Lib.itoa x.pl
theorem headB_eq (x : T5.Nd) : headB x = headA x ++ headC x := rfl
theorem ba_of {a : ByteArray} {l : List UInt8} (h : a.data.toList = l) : a = ⟨l.toArray⟩ := by
  subst h
  cases a
  rfl
theorem data_app (a b : ByteArray) : (a ++ b).data.toList = a.data.toList ++ b.data.toList := by simp [ByteArray.data_append]
set_option maxRecDepth 100000 in
set_option maxHeartbeats 2000000 in
theorem rlisp_any {L : List T5.Nd} {B : Nat} {a : Option Addr} {len cap : Nat} {U : List Bool} (hlen : L.length = len) (hU : T5.nodesL L L.length = .ok U) (hM : sumTo (costB L) L.length ≤ 1000000000000) (hm : len ≤ 2600000000000)
    (hrg : ∀ x ∈ L, (-9223372036854775808 ≤ x.kind ∧ x.kind ≤ 9223372036854775807) ∧ (-9223372036854775808 ≤ x.pl ∧ x.pl ≤ 9223372036854775807)) :
    ∀ (f n : Nat) (w : World), n < f → n < len → T5.NAt B w a L → B ≤ w.heap.size → Tabs w →
    Calls Tryz.prog 39 #[.slice a len cap, .int .i64 (n : Nat)] w fun e w' => e = .returned (.string ⟨(lispF L f n).toArray⟩) ∧ Fr [] w w' := by
  intro f
  induction f with
  | zero => intro n w h; omega
  | succ f ih =>
    intro n w hf hn hL hB TT
    have hn' : n < L.length := by omega
    obtain ⟨x, hx⟩ : ∃ x, L[n]? = some x := ⟨_, List.getElem?_eq_getElem hn'⟩
    obtain ⟨b, o, rfl, hb, NC⟩ := hL n x hx
    obtain ⟨⟨hk0, hk1⟩, hp0, hp1⟩ := hrg x (List.mem_of_getElem? hx)
    have HE : Hid (lispF L (f + 1) n = headB x ++ (x.ks.map (fun j => 32 :: lispF L f j)).flatten ++ [41]) := by unfold Hid; simp only [lispF, Int.toNat_natCast, hx]
    have HLN : Hid ((lispF L (f + 1) n).length ≤ 1000000000000) := lisp_bound hU hM hn' (by omega)
    have HKD : Hid (∀ k ∈ x.ks, 0 ≤ k ∧ k < n) := fun k hk => kids_of hU n x hx k hk
    have c0 := NC.c0
    have c1 := NC.c1
    have c2 := NC.c2
    have c3 := NC.c3
    have HKA0 : Hid (T5.KAt B w x.a x.ks) := NC.k
    have hcc0 : x.ks.length ≤ x.c := NC.kc
    clear NC
    generalize x.a = xa at c2 HKA0
    have g1 : Fr [] w (w.alloc (.cells #[.int .i64 x.kind, .string x.text, .slice xa x.ks.length x.c, .int .i64 x.pl] 37)) := (Fr.refl _ _).alloc _
    have nb : NB (w.alloc (.cells #[.int .i64 x.kind, .string x.text, .slice xa x.ks.length x.c, .int .i64 x.pl] 37)) w.heap.size x.kind x.text xa x.ks.length x.c x.pl := heap_alloc_new w _
    obtain ⟨e0, e1, e2, e3⟩ := nb.cells
    have hnI : (n : Int) < len := by omega
    have CI := itoa_any x.kind hk0 hk1 _ (TT.fr g1 (by simp))
    go_enter Tryz.func39, Tryz.ntmps39
    go_wp2_with fail
    refine CI.mono ?_
    rintro e w2 ⟨rfl, f2⟩
    have nb2 := nb.fr f2
    have g2 := g1.trans f2
    obtain ⟨d0, d1, d2, d3⟩ := nb2.cells
    have hi1 := itoa_len x.kind hk0 hk1
    have hi2 := itoa_len x.pl hp0 hp1
    have HLN2 : Hid ((headB x).length + x.ks.length ≤ 1000000000000) := by
      have h1 := HLN.out
      rw [HE.out] at h1
      simp only [List.length_append, flat_len] at h1
      unfold Hid
      omega
    have htx : x.text.size ≤ 1000000000000 := by
      have h1 := HLN2.out
      have h2 : x.text.size ≤ (headB x).length := by
        rw [Lib.size_eq]
        unfold headB
        split
        · rename_i e; rw [e]; simp
        · simp only [List.length_append, List.length_cons]; omega
      omega
    have HKL2 : Hid (x.ks.length ≤ 1000000000000) := by have := HLN2.out; unfold Hid; omega
    have q1 : ¬ 9223372036854775807 < 1 + (Lib.itoa x.kind).length := by omega
    have q2 : ¬ 9223372036854775807 < 1 + x.text.size := by omega
    have q3 : ¬ 9223372036854775807 < 1 + (Lib.itoa x.kind).length + (1 + x.text.size) := by omega
    have q4 : ¬ 9223372036854775807 < 2 + (Lib.itoa x.pl).length := by omega
    have q5 : ¬ 9223372036854775807 < 1 + (Lib.itoa x.kind).length + (1 + x.text.size) + (2 + (Lib.itoa x.pl).length) := by omega
    have q6 : ¬ 9223372036854775807 < 1 + (Lib.itoa x.kind).length + (2 + (Lib.itoa x.pl).length) := by omega
    have CP := fun w' (f' : Fr [] w w') => itoa_any x.pl hp0 hp1 w' (TT.fr f' (by simp))
    clear c0 c1 c2 c3 e0 e1 e2 e3 CI
    cases ht : x.text.toList.isEmpty
    · cases hpz : (x.pl != 0)
      · go_wp2_with fail
        have HS : Hid ((({ data := #[40] } ++ { data := (Lib.itoa x.kind).toArray } : ByteArray) ++ ({ data := #[32] } ++ x.text : ByteArray) : ByteArray).data.toList = headB x) := by
                  unfold Hid headB
                  have ez : x.text.data.toList = x.text.toList := (Lib.toList_data x.text).symm
                  have et : ¬ x.text.data.toList = [] := by rw [ez]; simpa using ht
                  have ep :  x.pl = 0 := by simpa using hpz
                  rw [if_neg et, if_pos ep]
                  simp only [data_app]
                  simp
        have nbL := nb2
        have gL := g2
        have TL := TT.fr gL (by simp)
        have HBL : Hid (B ≤ w2.heap.size) := by have := gL.size; unfold Hid; omega
        have HIH : Hid (∀ (n : Nat) (w : World), n < f → n < len → T5.NAt B w (some ⟨b, o, none⟩) L → B ≤ w.heap.size → Tabs w → Calls Tryz.prog 39 #[.slice (some ⟨b, o, none⟩) len cap, .int .i64 (n : Nat)] w fun e w' => e = .returned (.string ⟨(lispF L f n).toArray⟩) ∧ Fr [] w w') := ih
        have HKA : Hid (T5.KAt B w2 xa x.ks) := HKA0.out.fr gL (by simp)
        clear ih nb nb2 nbL d0 d1 d2 d3 hi1 hk0 hk1 hp0 hp1 hrg HKA0
        go_loopw [6, 37] (fun sv iv wr => ∃ (q : Nat) (A : List UInt8), q ≤ x.ks.length ∧ iv = .int .i64 (q : Nat) ∧ sv = .string ⟨A.toArray⟩ ∧ Fr [] w2 wr ∧ Hid (A = headB x ++ ((x.ks.take q).map (fun j => 32 :: lispF L f j)).flatten)) (fun _ iv _ => x.ks.length - (intOf iv).toNat)
        case atStart => exact ⟨0, headB x, Nat.zero_le _, rfl, congrArg Value.string (ba_of HS.out), Fr.refl _ _, by unfold Hid; simp⟩
        case round =>
          obtain ⟨q, A, hq, rfl, rfl, fr, HA⟩ := hrel
          have HAL : Hid (A.length ≤ (lispF L (f + 1) n).length) := by
            unfold Hid
            rw [HA.out, HE.out]
            have e1 : x.ks.map (fun j => 32 :: lispF L f j) = (x.ks.take q).map (fun j => 32 :: lispF L f j) ++ (x.ks.drop q).map (fun j => 32 :: lispF L f j) := by rw [← List.map_append, List.take_append_drop]
            rw [e1]
            simp only [List.flatten_append, List.length_append]
            omega
          have hAl : A.length ≤ 1000000000000 := Nat.le_trans HAL.out HLN.out
          have hmx : (x.ks.length : Int) ≤ 1000000000000 := by have := HKL2.out; omega
          by_cases hlt : q < x.ks.length
          · obtain ⟨k, hk⟩ : ∃ k, x.ks[q]? = some k := ⟨_, List.getElem?_eq_getElem hlt⟩
            obtain ⟨kb, ko, rfl, hkb, kc⟩ := HKA.out q k hk
            have kc' := fr.cell1 kc (by simp)
            obtain ⟨k0, k1⟩ := HKD.out k (List.mem_of_getElem? hk)
            have C5 := HIH.out k.toNat wr (by omega) (by omega) ((hL.fr (gL.trans fr) (by simp))) (by have := HBL.out; have := fr.size; omega) (TL.fr fr (by simp))
            have ek : ((k.toNat : Nat) : Int) = k := by omega
            rw [ek] at C5
            have HTK : Hid (x.ks.take (q + 1) = x.ks.take q ++ [k]) := by unfold Hid; rw [List.take_add_one, hk]; rfl
            have HNL : Hid ((A ++ 32 :: lispF L f k).length ≤ (lispF L (f + 1) n).length) := by
              unfold Hid
              rw [HA.out, HE.out]
              have e1 : x.ks.map (fun j => 32 :: lispF L f j) = (x.ks.take q).map (fun j => 32 :: lispF L f j) ++ (32 :: lispF L f k) :: (x.ks.drop (q + 1)).map (fun j => 32 :: lispF L f j) := by
                have : x.ks = x.ks.take q ++ k :: x.ks.drop (q + 1) := by
                  have h1 := List.drop_eq_getElem_cons hlt
                  rw [List.getElem?_eq_getElem hlt] at hk
                  cases hk
                  rw [← h1, List.take_append_drop]
                conv => lhs; rw [this]
                simp
              rw [e1]
              simp only [List.flatten_append, List.length_append, List.flatten_cons]
              omega
            have hl1 : A.length + (1 + (lispF L f k).length) ≤ 1000000000000 := by have h1 := HNL.out; have h2 := HLN.out; simp only [List.length_append, List.length_cons] at h1; omega
            have hltI : (q : Int) < x.ks.length := by omega
            have HX : Hid (q < x.ks.length) := hlt
            have hcc : (x.ks.length : Int) ≤ x.c := by omega
            have h1 : ¬ 9223372036854775807 < 1 + (lispF L f k).length := by omega
            have h2 : ¬ 9223372036854775807 < A.length + (1 + (lispF L f k).length) := by omega
            clear kc HKA hk hlt hl1 HAL HNL
            go_wp2_with fail
            refine C5.mono ?_
            rintro e w9 ⟨rfl, f9⟩
            have fr9 := fr.trans f9
            clear C5
            go_wp2
            go_roundw
            case rel => exact ⟨(q + 1 : Nat), (A ++ 32 :: lispF L f k : List UInt8), HX.out, by go_num, by rw [← ba_app]; rfl, fr9, by unfold Hid; rw [HA.out, HTK.out]; simp⟩
            case measure => have := HX.out; simp [intOf]; omega
          · have hqe : q = x.ks.length := by omega
            have HF : Hid (lispF L (f + 1) n = A ++ [41]) := by unfold Hid; rw [HE.out, HA.out, hqe]; simp
            have hl3 : ¬ 9223372036854775807 < A.length + 1 := by omega
            have hlt' : ¬ ((q : Int) < x.ks.length) := by omega
            clear hAl HAL
            go_wp2
            go_ret
            exact ⟨by rw [HF.out, ← ba_app]; rfl, gL.trans fr⟩
      · have C3 := CP w2 g2
        go_wp2_with fail
        refine C3.mono ?_
        rintro e w3 ⟨rfl, f3⟩
        have nb3 := nb2.fr f3
        obtain ⟨_, _, l2a, _⟩ := nb3.cells
        have g3 := g2.trans f3
        go_wp2_with fail
        have HS : Hid (((({ data := #[40] } ++ { data := (Lib.itoa x.kind).toArray } : ByteArray) ++ ({ data := #[32] } ++ x.text : ByteArray) : ByteArray) ++ ({ data := #[32, 64] } ++ { data := (Lib.itoa x.pl).toArray } : ByteArray) : ByteArray).data.toList = headB x) := by
                  unfold Hid headB
                  have ez : x.text.data.toList = x.text.toList := (Lib.toList_data x.text).symm
                  have et : ¬ x.text.data.toList = [] := by rw [ez]; simpa using ht
                  have ep : ¬ x.pl = 0 := by simpa using hpz
                  rw [if_neg et, if_neg ep]
                  simp only [data_app]
                  simp
        have nbL := nb3
        have gL := g3
        have TL := TT.fr gL (by simp)
        have HBL : Hid (B ≤ w3.heap.size) := by have := gL.size; unfold Hid; omega
        have HIH : Hid (∀ (n : Nat) (w : World), n < f → n < len → T5.NAt B w (some ⟨b, o, none⟩) L → B ≤ w.heap.size → Tabs w → Calls Tryz.prog 39 #[.slice (some ⟨b, o, none⟩) len cap, .int .i64 (n : Nat)] w fun e w' => e = .returned (.string ⟨(lispF L f n).toArray⟩) ∧ Fr [] w w') := ih
        have HKA : Hid (T5.KAt B w3 xa x.ks) := HKA0.out.fr gL (by simp)
        clear ih nb nb2 nb3 nbL C3 l2a d0 d1 d2 d3 hi1 hk0 hk1 hp0 hp1 hrg HKA0
        go_loopw [6, 37] (fun sv iv wr => ∃ (q : Nat) (A : List UInt8), q ≤ x.ks.length ∧ iv = .int .i64 (q : Nat) ∧ sv = .string ⟨A.toArray⟩ ∧ Fr [] w3 wr ∧ Hid (A = headB x ++ ((x.ks.take q).map (fun j => 32 :: lispF L f j)).flatten)) (fun _ iv _ => x.ks.length - (intOf iv).toNat)
        case atStart => exact ⟨0, headB x, Nat.zero_le _, rfl, congrArg Value.string (ba_of HS.out), Fr.refl _ _, by unfold Hid; simp⟩
        case round =>
          obtain ⟨q, A, hq, rfl, rfl, fr, HA⟩ := hrel
          have HAL : Hid (A.length ≤ (lispF L (f + 1) n).length) := by
            unfold Hid
            rw [HA.out, HE.out]
            have e1 : x.ks.map (fun j => 32 :: lispF L f j) = (x.ks.take q).map (fun j => 32 :: lispF L f j) ++ (x.ks.drop q).map (fun j => 32 :: lispF L f j) := by rw [← List.map_append, List.take_append_drop]
            rw [e1]
            simp only [List.flatten_append, List.length_append]
            omega
          have hAl : A.length ≤ 1000000000000 := Nat.le_trans HAL.out HLN.out
          have hmx : (x.ks.length : Int) ≤ 1000000000000 := by have := HKL2.out; omega
          by_cases hlt : q < x.ks.length
          · obtain ⟨k, hk⟩ : ∃ k, x.ks[q]? = some k := ⟨_, List.getElem?_eq_getElem hlt⟩
            obtain ⟨kb, ko, rfl, hkb, kc⟩ := HKA.out q k hk
            have kc' := fr.cell1 kc (by simp)
            obtain ⟨k0, k1⟩ := HKD.out k (List.mem_of_getElem? hk)
            have C5 := HIH.out k.toNat wr (by omega) (by omega) ((hL.fr (gL.trans fr) (by simp))) (by have := HBL.out; have := fr.size; omega) (TL.fr fr (by simp))
            have ek : ((k.toNat : Nat) : Int) = k := by omega
            rw [ek] at C5
            have HTK : Hid (x.ks.take (q + 1) = x.ks.take q ++ [k]) := by unfold Hid; rw [List.take_add_one, hk]; rfl
            have HNL : Hid ((A ++ 32 :: lispF L f k).length ≤ (lispF L (f + 1) n).length) := by
              unfold Hid
              rw [HA.out, HE.out]
              have e1 : x.ks.map (fun j => 32 :: lispF L f j) = (x.ks.take q).map (fun j => 32 :: lispF L f j) ++ (32 :: lispF L f k) :: (x.ks.drop (q + 1)).map (fun j => 32 :: lispF L f j) := by
                have : x.ks = x.ks.take q ++ k :: x.ks.drop (q + 1) := by
                  have h1 := List.drop_eq_getElem_cons hlt
                  rw [List.getElem?_eq_getElem hlt] at hk
                  cases hk
                  rw [← h1, List.take_append_drop]
                conv => lhs; rw [this]
                simp
              rw [e1]
              simp only [List.flatten_append, List.length_append, List.flatten_cons]
              omega
            have hl1 : A.length + (1 + (lispF L f k).length) ≤ 1000000000000 := by have h1 := HNL.out; have h2 := HLN.out; simp only [List.length_append, List.length_cons] at h1; omega
            have hltI : (q : Int) < x.ks.length := by omega
            have HX : Hid (q < x.ks.length) := hlt
            have hcc : (x.ks.length : Int) ≤ x.c := by omega
            have h1 : ¬ 9223372036854775807 < 1 + (lispF L f k).length := by omega
            have h2 : ¬ 9223372036854775807 < A.length + (1 + (lispF L f k).length) := by omega
            clear kc HKA hk hlt hl1 HAL HNL
            go_wp2_with fail
            refine C5.mono ?_
            rintro e w9 ⟨rfl, f9⟩
            have fr9 := fr.trans f9
            clear C5
            go_wp2
            go_roundw
            case rel => exact ⟨(q + 1 : Nat), (A ++ 32 :: lispF L f k : List UInt8), HX.out, by go_num, by rw [← ba_app]; rfl, fr9, by unfold Hid; rw [HA.out, HTK.out]; simp⟩
            case measure => have := HX.out; simp [intOf]; omega
          · have hqe : q = x.ks.length := by omega
            have HF : Hid (lispF L (f + 1) n = A ++ [41]) := by unfold Hid; rw [HE.out, HA.out, hqe]; simp
            have hl3 : ¬ 9223372036854775807 < A.length + 1 := by omega
            have hlt' : ¬ ((q : Int) < x.ks.length) := by omega
            clear hAl HAL
            go_wp2
            go_ret
            exact ⟨by rw [HF.out, ← ba_app]; rfl, gL.trans fr⟩
    · cases hpz : (x.pl != 0)
      · go_wp2_with fail
        have HS : Hid (({ data := #[40] } ++ { data := (Lib.itoa x.kind).toArray } : ByteArray).data.toList = headB x) := by
                  unfold Hid headB
                  have ez : x.text.data.toList = x.text.toList := (Lib.toList_data x.text).symm
                  have et :  x.text.data.toList = [] := by rw [ez]; simpa using ht
                  have ep :  x.pl = 0 := by simpa using hpz
                  rw [if_pos et, if_pos ep]
                  simp only [data_app]
                  simp
        have nbL := nb2
        have gL := g2
        have TL := TT.fr gL (by simp)
        have HBL : Hid (B ≤ w2.heap.size) := by have := gL.size; unfold Hid; omega
        have HIH : Hid (∀ (n : Nat) (w : World), n < f → n < len → T5.NAt B w (some ⟨b, o, none⟩) L → B ≤ w.heap.size → Tabs w → Calls Tryz.prog 39 #[.slice (some ⟨b, o, none⟩) len cap, .int .i64 (n : Nat)] w fun e w' => e = .returned (.string ⟨(lispF L f n).toArray⟩) ∧ Fr [] w w') := ih
        have HKA : Hid (T5.KAt B w2 xa x.ks) := HKA0.out.fr gL (by simp)
        clear ih nb nb2 nbL d0 d1 d2 d3 hi1 hk0 hk1 hp0 hp1 hrg HKA0
        go_loopw [6, 37] (fun sv iv wr => ∃ (q : Nat) (A : List UInt8), q ≤ x.ks.length ∧ iv = .int .i64 (q : Nat) ∧ sv = .string ⟨A.toArray⟩ ∧ Fr [] w2 wr ∧ Hid (A = headB x ++ ((x.ks.take q).map (fun j => 32 :: lispF L f j)).flatten)) (fun _ iv _ => x.ks.length - (intOf iv).toNat)
        case atStart => exact ⟨0, headB x, Nat.zero_le _, rfl, congrArg Value.string (ba_of HS.out), Fr.refl _ _, by unfold Hid; simp⟩
        case round =>
          obtain ⟨q, A, hq, rfl, rfl, fr, HA⟩ := hrel
          have HAL : Hid (A.length ≤ (lispF L (f + 1) n).length) := by
            unfold Hid
            rw [HA.out, HE.out]
            have e1 : x.ks.map (fun j => 32 :: lispF L f j) = (x.ks.take q).map (fun j => 32 :: lispF L f j) ++ (x.ks.drop q).map (fun j => 32 :: lispF L f j) := by rw [← List.map_append, List.take_append_drop]
            rw [e1]
            simp only [List.flatten_append, List.length_append]
            omega
          have hAl : A.length ≤ 1000000000000 := Nat.le_trans HAL.out HLN.out
          have hmx : (x.ks.length : Int) ≤ 1000000000000 := by have := HKL2.out; omega
          by_cases hlt : q < x.ks.length
          · obtain ⟨k, hk⟩ : ∃ k, x.ks[q]? = some k := ⟨_, List.getElem?_eq_getElem hlt⟩
            obtain ⟨kb, ko, rfl, hkb, kc⟩ := HKA.out q k hk
            have kc' := fr.cell1 kc (by simp)
            obtain ⟨k0, k1⟩ := HKD.out k (List.mem_of_getElem? hk)
            have C5 := HIH.out k.toNat wr (by omega) (by omega) ((hL.fr (gL.trans fr) (by simp))) (by have := HBL.out; have := fr.size; omega) (TL.fr fr (by simp))
            have ek : ((k.toNat : Nat) : Int) = k := by omega
            rw [ek] at C5
            have HTK : Hid (x.ks.take (q + 1) = x.ks.take q ++ [k]) := by unfold Hid; rw [List.take_add_one, hk]; rfl
            have HNL : Hid ((A ++ 32 :: lispF L f k).length ≤ (lispF L (f + 1) n).length) := by
              unfold Hid
              rw [HA.out, HE.out]
              have e1 : x.ks.map (fun j => 32 :: lispF L f j) = (x.ks.take q).map (fun j => 32 :: lispF L f j) ++ (32 :: lispF L f k) :: (x.ks.drop (q + 1)).map (fun j => 32 :: lispF L f j) := by
                have : x.ks = x.ks.take q ++ k :: x.ks.drop (q + 1) := by
                  have h1 := List.drop_eq_getElem_cons hlt
                  rw [List.getElem?_eq_getElem hlt] at hk
                  cases hk
                  rw [← h1, List.take_append_drop]
                conv => lhs; rw [this]
                simp
              rw [e1]
              simp only [List.flatten_append, List.length_append, List.flatten_cons]
              omega
            have hl1 : A.length + (1 + (lispF L f k).length) ≤ 1000000000000 := by have h1 := HNL.out; have h2 := HLN.out; simp only [List.length_append, List.length_cons] at h1; omega
            have hltI : (q : Int) < x.ks.length := by omega
            have HX : Hid (q < x.ks.length) := hlt
            have hcc : (x.ks.length : Int) ≤ x.c := by omega
            have h1 : ¬ 9223372036854775807 < 1 + (lispF L f k).length := by omega
            have h2 : ¬ 9223372036854775807 < A.length + (1 + (lispF L f k).length) := by omega
            clear kc HKA hk hlt hl1 HAL HNL
            go_wp2_with fail
            refine C5.mono ?_
            rintro e w9 ⟨rfl, f9⟩
            have fr9 := fr.trans f9
            clear C5
            go_wp2
            go_roundw
            case rel => exact ⟨(q + 1 : Nat), (A ++ 32 :: lispF L f k : List UInt8), HX.out, by go_num, by rw [← ba_app]; rfl, fr9, by unfold Hid; rw [HA.out, HTK.out]; simp⟩
            case measure => have := HX.out; simp [intOf]; omega
          · have hqe : q = x.ks.length := by omega
            have HF : Hid (lispF L (f + 1) n = A ++ [41]) := by unfold Hid; rw [HE.out, HA.out, hqe]; simp
            have hl3 : ¬ 9223372036854775807 < A.length + 1 := by omega
            have hlt' : ¬ ((q : Int) < x.ks.length) := by omega
            clear hAl HAL
            go_wp2
            go_ret
            exact ⟨by rw [HF.out, ← ba_app]; rfl, gL.trans fr⟩
      · have C3 := CP w2 g2
        go_wp2_with fail
        refine C3.mono ?_
        rintro e w3 ⟨rfl, f3⟩
        have nb3 := nb2.fr f3
        obtain ⟨_, _, l2a, _⟩ := nb3.cells
        have g3 := g2.trans f3
        go_wp2_with fail
        have HS : Hid ((({ data := #[40] } ++ { data := (Lib.itoa x.kind).toArray } : ByteArray) ++ ({ data := #[32, 64] } ++ { data := (Lib.itoa x.pl).toArray } : ByteArray) : ByteArray).data.toList = headB x) := by
                  unfold Hid headB
                  have ez : x.text.data.toList = x.text.toList := (Lib.toList_data x.text).symm
                  have et :  x.text.data.toList = [] := by rw [ez]; simpa using ht
                  have ep : ¬ x.pl = 0 := by simpa using hpz
                  rw [if_pos et, if_neg ep]
                  simp only [data_app]
                  simp
        have nbL := nb3
        have gL := g3
        have TL := TT.fr gL (by simp)
        have HBL : Hid (B ≤ w3.heap.size) := by have := gL.size; unfold Hid; omega
        have HIH : Hid (∀ (n : Nat) (w : World), n < f → n < len → T5.NAt B w (some ⟨b, o, none⟩) L → B ≤ w.heap.size → Tabs w → Calls Tryz.prog 39 #[.slice (some ⟨b, o, none⟩) len cap, .int .i64 (n : Nat)] w fun e w' => e = .returned (.string ⟨(lispF L f n).toArray⟩) ∧ Fr [] w w') := ih
        have HKA : Hid (T5.KAt B w3 xa x.ks) := HKA0.out.fr gL (by simp)
        clear ih nb nb2 nb3 nbL C3 l2a d0 d1 d2 d3 hi1 hk0 hk1 hp0 hp1 hrg HKA0
        go_loopw [6, 37] (fun sv iv wr => ∃ (q : Nat) (A : List UInt8), q ≤ x.ks.length ∧ iv = .int .i64 (q : Nat) ∧ sv = .string ⟨A.toArray⟩ ∧ Fr [] w3 wr ∧ Hid (A = headB x ++ ((x.ks.take q).map (fun j => 32 :: lispF L f j)).flatten)) (fun _ iv _ => x.ks.length - (intOf iv).toNat)
        case atStart => exact ⟨0, headB x, Nat.zero_le _, rfl, congrArg Value.string (ba_of HS.out), Fr.refl _ _, by unfold Hid; simp⟩
        case round =>
          obtain ⟨q, A, hq, rfl, rfl, fr, HA⟩ := hrel
          have HAL : Hid (A.length ≤ (lispF L (f + 1) n).length) := by
            unfold Hid
            rw [HA.out, HE.out]
            have e1 : x.ks.map (fun j => 32 :: lispF L f j) = (x.ks.take q).map (fun j => 32 :: lispF L f j) ++ (x.ks.drop q).map (fun j => 32 :: lispF L f j) := by rw [← List.map_append, List.take_append_drop]
            rw [e1]
            simp only [List.flatten_append, List.length_append]
            omega
          have hAl : A.length ≤ 1000000000000 := Nat.le_trans HAL.out HLN.out
          have hmx : (x.ks.length : Int) ≤ 1000000000000 := by have := HKL2.out; omega
          by_cases hlt : q < x.ks.length
          · obtain ⟨k, hk⟩ : ∃ k, x.ks[q]? = some k := ⟨_, List.getElem?_eq_getElem hlt⟩
            obtain ⟨kb, ko, rfl, hkb, kc⟩ := HKA.out q k hk
            have kc' := fr.cell1 kc (by simp)
            obtain ⟨k0, k1⟩ := HKD.out k (List.mem_of_getElem? hk)
            have C5 := HIH.out k.toNat wr (by omega) (by omega) ((hL.fr (gL.trans fr) (by simp))) (by have := HBL.out; have := fr.size; omega) (TL.fr fr (by simp))
            have ek : ((k.toNat : Nat) : Int) = k := by omega
            rw [ek] at C5
            have HTK : Hid (x.ks.take (q + 1) = x.ks.take q ++ [k]) := by unfold Hid; rw [List.take_add_one, hk]; rfl
            have HNL : Hid ((A ++ 32 :: lispF L f k).length ≤ (lispF L (f + 1) n).length) := by
              unfold Hid
              rw [HA.out, HE.out]
              have e1 : x.ks.map (fun j => 32 :: lispF L f j) = (x.ks.take q).map (fun j => 32 :: lispF L f j) ++ (32 :: lispF L f k) :: (x.ks.drop (q + 1)).map (fun j => 32 :: lispF L f j) := by
                have : x.ks = x.ks.take q ++ k :: x.ks.drop (q + 1) := by
                  have h1 := List.drop_eq_getElem_cons hlt
                  rw [List.getElem?_eq_getElem hlt] at hk
                  cases hk
                  rw [← h1, List.take_append_drop]
                conv => lhs; rw [this]
                simp
              rw [e1]
              simp only [List.flatten_append, List.length_append, List.flatten_cons]
              omega
            have hl1 : A.length + (1 + (lispF L f k).length) ≤ 1000000000000 := by have h1 := HNL.out; have h2 := HLN.out; simp only [List.length_append, List.length_cons] at h1; omega
            have hltI : (q : Int) < x.ks.length := by omega
            have HX : Hid (q < x.ks.length) := hlt
            have hcc : (x.ks.length : Int) ≤ x.c := by omega
            have h1 : ¬ 9223372036854775807 < 1 + (lispF L f k).length := by omega
            have h2 : ¬ 9223372036854775807 < A.length + (1 + (lispF L f k).length) := by omega
            clear kc HKA hk hlt hl1 HAL HNL
            go_wp2_with fail
            refine C5.mono ?_
            rintro e w9 ⟨rfl, f9⟩
            have fr9 := fr.trans f9
            clear C5
            go_wp2
            go_roundw
            case rel => exact ⟨(q + 1 : Nat), (A ++ 32 :: lispF L f k : List UInt8), HX.out, by go_num, by rw [← ba_app]; rfl, fr9, by unfold Hid; rw [HA.out, HTK.out]; simp⟩
            case measure => have := HX.out; simp [intOf]; omega
          · have hqe : q = x.ks.length := by omega
            have HF : Hid (lispF L (f + 1) n = A ++ [41]) := by unfold Hid; rw [HE.out, HA.out, hqe]; simp
            have hl3 : ¬ 9223372036854775807 < A.length + 1 := by omega
            have hlt' : ¬ ((q : Int) < x.ks.length) := by omega
            clear hAl HAL
            go_wp2
            go_ret
            exact ⟨by rw [HF.out, ← ba_app]; rfl, gL.trans fr⟩
end Go.Proofs.YtnkjgggbiokfbaaGreatDoor
namespace Go.Proofs.YtnkjgggbiokfbaaGreatDoor
open Go.RowKit
set_option linter.unusedVariables false
set_option linter.unusedSimpArgs false

/-- A node without where its kids lie. -/
def bare5 (x : T5.Nd) : T5.Nd := ⟨x.kind, x.text, none, 0, x.ks, x.pl⟩
theorem kd_bare (L : List T5.Nd) (k : Int) : T5.kd (L.map bare5) k = T5.kd L k := by
  unfold T5.kd
  rw [List.getElem?_map]
  cases L[k.toNat]? <;> rfl
theorem nodeE_bare (L : List T5.Nd) (n : Nat) (x : T5.Nd) (T : List Bool) : T5.nodeE (L.map bare5) n (bare5 x) T = T5.nodeE L n x T := by
  have e : (bare5 x).ks.map (T5.kd (L.map bare5)) = x.ks.map (T5.kd L) := List.map_congr_left (fun k _ => kd_bare L k)
  unfold T5.nodeE
  rw [e]
  rfl
theorem nodesL_bare (L : List T5.Nd) : ∀ n, T5.nodesL (L.map bare5) n = T5.nodesL L n
  | 0 => by simp [T5.nodesL]
  | n + 1 => by
    simp only [T5.nodesL, nodesL_bare L n, List.getElem?_map]
    cases T5.nodesL L n with
    | error e => rfl
    | ok T =>
      cases hx : L[n]? with
      | none => rfl
      | some x => simp only [Option.map_some, nodeE_bare]
theorem depths_bare (L : List T5.Nd) : ∀ n, T5.depths (L.map bare5) n = T5.depths L n
  | 0 => rfl
  | n + 1 => by
    simp only [T5.depths, depths_bare L n, List.getElem?_map]
    cases L[n]? <;> rfl
theorem checkL_bare (L : List T5.Nd) : T5.checkL (L.map bare5) = T5.checkL L := by
  unfold T5.checkL T5.deepL
  simp only [List.length_map, nodesL_bare, depths_bare, kd_bare]
theorem lispF_bare (L : List T5.Nd) : ∀ (f : Nat) (k : Int), lispF (L.map bare5) f k = lispF L f k
  | 0, _ => rfl
  | f + 1, k => by
    simp only [lispF, List.getElem?_map]
    cases L[k.toNat]? with
    | none => rfl
    | some x => simp only [Option.map_some, bare5, headB, lispF_bare L f]
/-- What is answered. -/
def lispO (L : List T5.Nd) : List UInt8 × Nat := if (T5.checkL L).2 = 0 then (lispF L L.length ((L.length - 1 : Nat) : Int), 0) else ([], (T5.checkL L).2)
theorem lispO_bare (L : List T5.Nd) : lispO (L.map bare5) = lispO L := by
  unfold lispO
  simp only [checkL_bare, lispF_bare, List.length_map]
theorem lispO_same {L M : List MN} {ms : List PN} (h1 : L.map MN.x = ms) (h2 : M.map MN.x = ms) : lispO (L.map nd5) = lispO (M.map nd5) := by
  rw [← lispO_bare (L.map nd5), ← lispO_bare (M.map nd5)]
  have e : ∀ K : List MN, (K.map nd5).map bare5 = (K.map MN.x).map nx5 := fun K => by simp [nd5, nx5, bare5, Function.comp_def]
  rw [e, e, h1, h2]

theorem pot_one (T : List Bool) : ∀ n, pot (fun _ => 1) T n ≤ n
  | 0 => Nat.le_refl _
  | n + 1 => by
    have := pot_one T n
    simp only [pot]
    split <;> omega
theorem sum_one : ∀ ks : List Int, (ks.map (fun _ => 1)).sum = ks.length
  | [] => rfl
  | k :: r => by simp only [List.map_cons, List.sum_cons, List.length_cons, sum_one r]; omega
theorem nodes_at_ok {L : List T5.Nd} {T : List Bool} (h : T5.nodesL L L.length = .ok T) {i : Nat} {x : T5.Nd} (hx : L[i]? = some x) : ∃ U V, T5.nodesL L i = .ok U ∧ T5.nodeE L i x U = .ok V := by
  have hi := (List.getElem?_eq_some_iff.1 hx).1
  obtain ⟨W, hW⟩ := nodes_pre h (n := i + 1) (by omega)
  unfold T5.nodesL at hW
  split at hW
  · cases hW
  · rename_i U hU
    rw [hx] at hW
    simp only at hW
    split at hW
    · cases hW
    · rename_i V hV
      exact ⟨U, V, hU, hV⟩
theorem node_parts {L : List T5.Nd} {n : Nat} {x : T5.Nd} {U V : List Bool} (h : T5.nodeE L n x U = .ok V) : (∃ t ls, T5.wantL x.kind = some (t, ls) ∧ T5.textL t x.text = true ∧ T5.fitL ls (x.ks.map (T5.kd L)) = true) ∧ 0 ≤ x.pl ∧ T5.takeL n x.ks U = some V := by
  unfold T5.nodeE at h
  split at h
  · cases h
  · rename_i t ls hw
    split at h
    · cases h
    · rename_i hp
      split at h
      · cases h
      · rename_i T' ht
        split at h
        · cases h
        · rename_i h1
          split at h
          · cases h
          · rename_i h2
            cases h
            exact ⟨⟨t, ls, hw, by simpa using h1, by simpa using h2⟩, by omega, ht⟩
theorem kind_in {k : Int} {t : Nat} {ls : List UInt8} (h : T5.wantL k = some (t, ls)) : 1 ≤ k ∧ k ≤ 30 := by
  rcases Int.lt_or_le k 1 with h1 | h1
  · rw [T5.lookup_want k (.inl h1)] at h; cases h
  · rcases Int.lt_or_le 30 k with h2 | h2
    · rw [T5.lookup_want k (.inr h2)] at h; cases h
    · exact ⟨h1, h2⟩
theorem kids_few {L : List T5.Nd} {T : List Bool} (h : T5.nodesL L L.length = .ok T) {i : Nat} {x : T5.Nd} (hx : L[i]? = some x) : x.ks.length ≤ L.length := by
  obtain ⟨U, V, hU, hV⟩ := nodes_at_ok h hx
  obtain ⟨_, _, ht⟩ := node_parts hV
  have hi := (List.getElem?_eq_some_iff.1 hx).1
  have h1 := take_pot (len := fun _ => 1) _ _ _ ht (by rw [T5.nodes_length _ _ hU]; omega)
  have h2 := pot_one U i
  rw [sum_one] at h1
  omega
theorem sumTo_le {cost : Nat → Nat} {K : Nat} : ∀ n, (∀ i, i < n → cost i ≤ K) → sumTo cost n ≤ n * K
  | 0, _ => by simp [sumTo]
  | n + 1, h => by
    have h1 := sumTo_le n (fun i hi => h i (by omega))
    have h2 := h n (by omega)
    simp only [sumTo]
    rw [Nat.succ_mul]
    omega
theorem cost_le {L : List T5.Nd} {T : List Bool} (h : T5.nodesL L L.length = .ok T) (hl : L.length ≤ 50000) (ht : ∀ x ∈ L, x.text.size ≤ 200020) (hp : ∀ x ∈ L, x.pl ≤ 9223372036854775807) : sumTo (costB L) L.length ≤ 1000000000000 := by
  have h1 : ∀ i, i < L.length → costB L i ≤ 300000 := by
    intro i hi
    have hx : L[i]? = some L[i] := List.getElem?_eq_getElem hi
    generalize L[i] = x at hx
    unfold costB
    rw [hx]
    have hm := List.mem_of_getElem? hx
    obtain ⟨U, V, hU, hV⟩ := nodes_at_ok h hx
    obtain ⟨⟨t, ls, hw, _⟩, hp0, _⟩ := node_parts hV
    have hk := kind_in hw
    have e1 := itoa_len x.kind (by omega) (by omega)
    have e2 := itoa_len x.pl (by omega) (hp x hm)
    have e3 := kids_few h hx
    have e4 := ht x hm
    rw [Lib.size_eq] at e4
    simp only
    unfold headB
    simp only [List.length_append, List.length_cons]
    split <;> split <;> simp only [List.length_cons, List.length_nil] <;> omega
  have h2 := sumTo_le L.length h1
  have h3 : L.length * 300000 ≤ 50000 * 300000 := Nat.mul_le_mul_right _ hl
  omega

set_option maxRecDepth 100000 in
set_option maxHeartbeats 1000000 in
theorem rLisp_any (B : Nat) (L : List T5.Nd) (w : World) (a : Option Addr) (len cap : Nat) (hlen : L.length = len) (hL : T5.NAt B w a L) (hm : len ≤ 2600000000000) (hB : B ≤ w.heap.size) (TT : Tabs w) (ht : ∀ x ∈ L, x.text.size ≤ 200020) (hp : ∀ x ∈ L, x.pl ≤ 9223372036854775807) :
    Calls Tryz.prog 20 #[.slice a len cap] w fun e w' => e = .returned (.tuple #[.string ⟨(lispO L).1.toArray⟩, .int .i64 ((lispO L).2 : Nat)]) ∧ Fr [] w w' := by
  have CC := T5.rcheck_any B L w a len cap hlen hL hm hB
  unfold T5.cOut at CC
  rcases hc : T5.checkL L with ⟨p, c⟩
  rw [hc] at CC
  by_cases h0 : c = 0
  · subst h0
    obtain ⟨T, hT, hn0, hl5, _, _⟩ := T5.check_zero hc
    have hM := cost_le hT hl5 ht hp
    have HO : Hid (lispO L = (lispF L L.length ((L.length - 1 : Nat) : Int), 0)) := by unfold Hid lispO; rw [hc]; rfl
    have hrg : ∀ x ∈ L, (-9223372036854775808 ≤ x.kind ∧ x.kind ≤ 9223372036854775807) ∧ (-9223372036854775808 ≤ x.pl ∧ x.pl ≤ 9223372036854775807) := by
      intro x hx
      obtain ⟨i, hi⟩ := List.mem_iff_getElem?.1 hx
      obtain ⟨U, V, hU, hV⟩ := nodes_at_ok hT hi
      obtain ⟨⟨t, ls, hw, _⟩, hp0, _⟩ := node_parts hV
      have hk := kind_in hw
      have := hp x hx
      exact ⟨⟨by omega, by omega⟩, by omega, by omega⟩
    have CL := fun w1 (f1 : Fr [] w w1) => rlisp_any (B := B) (a := a) (cap := cap) hlen hT hM hm hrg L.length (L.length - 1) w1 (by omega) (by omega) (hL.fr f1 (by simp)) (Nat.le_trans hB f1.size) (TT.fr f1 (by simp))
    have ei : ((L.length - 1 : Nat) : Int) = (len : Int) - 1 := by omega
    have hl0 : (0 : Int) < len := by omega
    have hlm : (len : Int) ≤ 2600000000000 := by omega
    obtain ⟨S, HS⟩ : ∃ S, Hid (lispF L L.length ((L.length - 1 : Nat) : Int) = S) := ⟨_, rfl⟩
    simp only [HS.out] at CL
    simp only [ei] at CL
    clear hc hT hM hrg ht hp hn0 hl5
    go_enter Tryz.func20, Tryz.ntmps20
    go_wp2_with fail
    refine CC.mono ?_
    rintro e w1 ⟨rfl, f1⟩
    have C1 := CL w1 f1
    clear CC CL
    go_wp2_with fail
    refine C1.mono ?_
    rintro e w2 ⟨rfl, f2⟩
    go_wp2
    refine bodyPost_ret (results_tmp2 rfl _ _ _) rfl ⟨?_, f1.trans f2⟩
    rw [HO.out, HS.out]
    rfl
  · have HO : Hid (lispO L = ([], c)) := by unfold Hid lispO; rw [hc]; simp only; rw [if_neg h0]
    have hc0 : ¬ ((c : Nat) : Int) = 0 := by omega
    clear hc h0
    go_enter Tryz.func20, Tryz.ntmps20
    go_wp2_with fail
    refine CC.mono ?_
    rintro e w1 ⟨rfl, f1⟩
    go_wp2
    refine bodyPost_ret (results_tmp2 rfl _ _ _) rfl ⟨?_, f1⟩
    rw [HO.out]
    rfl
set_option maxRecDepth 100000 in
set_option maxHeartbeats 1000000 in
theorem written_any (B : Nat) (L : List T5.Nd) (w : World) (a : Option Addr) (len cap : Nat) (hlen : L.length = len) (hL : T5.NAt B w a L) (hm : len ≤ 2600000000000) (hB : B ≤ w.heap.size) (TT : Tabs w) (ht : ∀ x ∈ L, x.text.size ≤ 200020) (hp : ∀ x ∈ L, x.pl ≤ 9223372036854775807) :
    Calls Tryz.prog 12 #[.slice a len cap] w fun e w' => e = .returned (.string ⟨(lispO L).1.toArray⟩) ∧ Fr [] w w' := by
  have C := rLisp_any B L w a len cap hlen hL hm hB TT ht hp
  generalize (lispO L).1 = S at *
  generalize (lispO L).2 = c at *
  clear hL
  go_enter Tryz.func12, Tryz.ntmps12
  go_wp2_with fail
  refine C.mono ?_
  rintro e w1 ⟨rfl, f1⟩
  go_wp2
  go_ret
  exact ⟨rfl, f1⟩
end Go.Proofs.YtnkjgggbiokfbaaGreatDoor
namespace Go.Proofs.YtnkjgggbiokfbaaGreatDoor
open Go.RowKit
set_option linter.unusedVariables false
set_option linter.unusedSimpArgs false

def awkA : ByteArray := ⟨#[0x66,0x6e,0x20,0x66,0x28,0x29,0x20,0x7b,0x20,0x78,0x2e,0x61,0x5b,0x31,0x5d,0x20,0x3d,0x20,0x2d,0x78,0x20,0x2a,0x20,0x32,0x3b,0x20,0x7d]⟩
def awkB : ByteArray := ⟨#[0x66,0x6e,0x20,0x66,0x28,0x29,0x20,0x7b,0x20,0x31,0x3b,0x20,0x7d]⟩
def lenR : Except (Nat × Nat) (List PN) → Nat × Nat × Nat
  | .ok ms => (ms.length, 0, 0)
  | .error (p, c) => (0, p, c)
theorem awkA_read : lenR (prgL awkA) = (12, 0, 0) := by kernel_rfl
theorem awkB_read : lenR (prgL awkB) = (0, 10, 60) := by kernel_rfl

/-- What the program answers where a text is read as so many nodes. -/
theorem prog_ok {s : ByteArray} {w : World} {n : Nat} (hs : s.size ≤ 200000) (T : Tabs w) (h : lenR (prgL s) = (n, 0, 0)) (hn : 0 < n) :
    Calls Tryz.prog 10 #[.string s] w fun e w' => ∃ a c, e = .returned (.tuple #[.slice a n c, .int .i64 0, .int .i64 0]) ∧ Fr [] w w' := by
  refine (prog_any s w hs T).mono ?_
  rintro e w' ⟨h1, f1⟩
  unfold PrgOut at h1
  cases hp : prgL s with
  | error x =>
    obtain ⟨p, c⟩ := x
    rw [hp] at h
    simp only [lenR, Prod.mk.injEq] at h
    omega
  | ok ms =>
    rw [hp] at h h1
    obtain ⟨nv, L, F', rfl, hL, hown, -⟩ := h1
    simp only [lenR, Prod.mk.injEq] at h
    obtain ⟨a, c, rfl, -⟩ := own_slice hown
    have : L.length = n := by rw [← h.1, ← hL]; simp
    rw [this]
    exact ⟨a, c, rfl, f1⟩
/-- What it answers where a text is refused. -/
theorem prog_no {s : ByteArray} {w : World} {p c : Nat} (hs : s.size ≤ 200000) (T : Tabs w) (h : lenR (prgL s) = (0, p, c)) (hc : 0 < c) :
    Calls Tryz.prog 10 #[.string s] w fun e w' => e = .returned (.tuple #[.slice none 0 0, .int .i64 (p : Nat), .int .i64 (c : Nat)]) ∧ Fr [] w w' := by
  refine (prog_any s w hs T).mono ?_
  rintro e w' ⟨h1, f1⟩
  unfold PrgOut at h1
  cases hp : prgL s with
  | error x =>
    obtain ⟨p', c'⟩ := x
    rw [hp] at h h1
    simp only [lenR, Prod.mk.injEq] at h
    obtain ⟨-, rfl, rfl⟩ := h
    exact ⟨h1, f1⟩
  | ok ms =>
    rw [hp] at h
    simp only [lenR, Prod.mk.injEq] at h
    omega

set_option maxRecDepth 100000 in
set_option maxHeartbeats 1000000 in
theorem awake_any (w : World) (T : Tabs w) : Calls Tryz.prog 9 #[] w fun e w' => e = .returned (.bool true) ∧ Fr [] w w' := by
  have CA := prog_ok (s := awkA) (by decide) T awkA_read (by omega)
  unfold awkA at CA
  go_enter Tryz.func9, Tryz.ntmps9
  go_wp2_with (go_at_call 10; refine CA.mono ?_)
  rintro e w1 ⟨a, c, rfl, f1⟩
  have CB := prog_no (s := awkB) (by decide) (T.fr f1 (by simp)) awkB_read (by omega)
  unfold awkB at CB
  go_wp2_with (go_at_call 10; refine CB.mono ?_)
  rintro e w2 ⟨rfl, f2⟩
  go_wp2
  go_ret
  exact ⟨rfl, f1.trans f2⟩
end Go.Proofs.YtnkjgggbiokfbaaGreatDoor
namespace Go.Proofs.YtnkjgggbiokfbaaGreatDoor
open Go.RowKit
set_option linter.unusedVariables false
set_option linter.unusedSimpArgs false

theorem prgL_len {s : ByteArray} (hs : s.size ≤ 200000) {ms : List PN} (h : prgL s = .ok ms) : (∀ x ∈ ms, LenOK 200020 x) ∧ ms.length ≤ 50000 := by
  rcases hsc : sc s 0 with ⟨ts, _ | ⟨p, c⟩⟩
  · rw [prgL_after hsc rfl] at h
    have hT : Toks (withEnd s ts) := (toks_of (by rw [hsc])).1
    have HLE : ∀ i, i < (withEnd s ts).length → TLen 200020 (tk (withEnd s ts) i) := fun i hi => by
      have := (toks_good (s := s) (ts := ts) (by rw [hsc]) i hi).2
      exact ⟨Nat.le_trans this.1 (by omega), Nat.le_trans this.2 (by omega)⟩
    generalize withEnd s ts = us at *
    unfold afterL at h
    split at h
    · cases h
    · split at h
      · cases h
      · rename_i v j ns hr
        split at h
        · cases h
        · rename_i h5
          split at h
          · cases h
          · cases h
            have hh := (fullP_eq hT).trans (congrArg some hr)
            exact ⟨fun x hx => keep_len (M := 200020) hT (by omega) HLE _ .prog _ _ (fun t h => by cases h) v j ms hh (by simp) x hx, by omega⟩
  · unfold prgL at h
    rw [hsc] at h
    cases h
/-- What is written of what one of both readers answers. -/
def wrtP (s : ByteArray) : List UInt8 := match prgL s with | .error _ => (lispO []).1 | .ok ms => (lispO (ms.map nx5)).1
theorem wrtP_err {s : ByteArray} {x : Nat × Nat} (h : prgL s = .error x) : wrtP s = (lispO []).1 := by unfold wrtP; rw [h]
theorem wrtP_ok {s : ByteArray} {ms : List PN} (h : prgL s = .ok ms) {L : List MN} (hL : L.map MN.x = ms) : (lispO (L.map nd5)).1 = wrtP s := by
  unfold wrtP
  rw [h]
  simp only
  rw [← lispO_bare (L.map nd5), ← lispO_bare (ms.map nx5), ← hL]
  have e1 : (L.map nd5).map bare5 = (L.map MN.x).map nx5 := by simp [nd5, nx5, bare5, Function.comp_def]
  have e2 : ((L.map MN.x).map nx5).map bare5 = (L.map MN.x).map nx5 := by simp [nx5, bare5, Function.comp_def]
  rw [e1, e2]
/-- What a reader answers, for whoever goes on: a list that is written so, a place and an error. -/
def RdOut (s : ByteArray) (w w' : World) (e : Ending) : Prop :=
  ∃ (a : Option Addr) (n c : Nat) (p q : Nat) (L : List T5.Nd), e = .returned (.tuple #[.slice a n c, .int .i64 (p : Nat), .int .i64 (q : Nat)]) ∧ (p, q) = (match prgL s with | .error x => x | .ok _ => (0, 0)) ∧ L.length = n ∧ T5.NAt w'.heap.size w' a L ∧ n ≤ 50000 ∧ (∀ x ∈ L, x.text.size ≤ 200020) ∧ (∀ x ∈ L, x.pl ≤ 9223372036854775807) ∧ (lispO L).1 = wrtP s
theorem rd_of {s : ByteArray} (hs : s.size ≤ 200000) {w w' : World} {e : Ending} (h : PrgOut s w w' e) : RdOut s w w' e := by
  unfold PrgOut at h
  unfold RdOut
  cases hp : prgL s with
  | error x =>
    obtain ⟨p, c⟩ := x
    rw [hp] at h
    exact ⟨none, 0, 0, p, c, [], h, rfl, rfl, fun i x hx => by simp at hx, by omega, by simp, by simp, (wrtP_err hp).symm⟩
  | ok ms =>
    rw [hp] at h
    obtain ⟨nv, L, F', rfl, hL, hown, hob, hkr, hF⟩ := h
    obtain ⟨a, c, rfl, -⟩ := own_slice hown
    obtain ⟨h1, h2⟩ := prgL_len hs hp
    have hl : L.length = ms.length := by rw [← hL]; simp
    have hx : ∀ m ∈ L, LenOK 200020 m.x := fun m hm => h1 m.x (by rw [← hL]; exact List.mem_map_of_mem hm)
    refine ⟨a, L.length, c, 0, 0, L.map nd5, rfl, rfl, by simp, nodes5 hown hkr (fun j hj => (hF j hj).2) (fun m hm => (hx m hm).1), by omega, ?_, ?_, wrtP_ok hp hL⟩
    · intro x hx'
      obtain ⟨m, hm, rfl⟩ := List.mem_map.1 hx'
      have := (hx m hm).1
      rw [Lib.size_eq]
      simpa [nd5] using this
    · intro x hx'
      obtain ⟨m, hm, rfl⟩ := List.mem_map.1 hx'
      have := (hx m hm).2
      simp only [nd5]
      omega

set_option maxRecDepth 100000 in
set_option maxHeartbeats 2000000 in
theorem programs_walk (s : ByteArray) (w : World) (T : Tabs w) : Calls Tryz.prog 3 #[.string s] w fun e w' => e = .returned (.bool true) ∧ Fr [] w w' := by
  have CA := awake_any w T
  have HS : Hid (0 ≤ s.size) := Nat.zero_le _
  go_enter Tryz.func3, Tryz.ntmps3
  go_wp2_with (go_at_call 9; refine CA.mono ?_)
  rintro e w1 ⟨rfl, f1⟩
  clear CA
  by_cases h2 : 2500 < s.size
  · have h2' : (2500 : Int) < (s.size : Int) := by omega
    go_wp2
    go_ret
    exact ⟨rfl, f1⟩
  · have h2' : (s.size : Int) ≤ 2500 := by omega
    have hs : s.size ≤ 200000 := by omega
    have T1 := T.fr f1 (by simp)
    have C1 := prog_any s w1 hs T1
    have HSZ : Hid (s.size ≤ 200000) := hs
    clear h2 hs
    go_wp2_with (go_at_call 10; refine C1.mono ?_)
    rintro e w2 ⟨hp, f2⟩
    obtain ⟨a, n, c, p, q, L, rfl, hpq, hLn, hL, hn, ht, hpl, hw⟩ := rd_of HSZ.out hp
    have T2 := T1.fr f2 (by simp)
    have C2 := prgR_any s w2 HSZ.out T2.len
    clear C1 hp
    go_wp2_with (go_at_call 11; refine C2.mono ?_)
    rintro e w3 ⟨hp2, f3⟩
    obtain ⟨a', n', c', p', q', L', rfl, hpq', hLn', hL', hn', ht', hpl', hw'⟩ := rd_of HSZ.out hp2
    have epq := hpq.trans hpq'.symm
    obtain ⟨rfl, rfl⟩ : p = p' ∧ q = q' := by simpa using epq
    have T3 := T2.fr f3 (by simp)
    have hB3 : w2.heap.size ≤ w3.heap.size := f3.size
    have C3 := written_any w2.heap.size L w3 a n c hLn (hL.fr f3 (by simp)) (by omega) hB3 T3 ht hpl
    rw [hw] at C3
    have C4 := fun w4 (f4 : Fr [] w3 w4) => written_any w3.heap.size L' w4 a' n' c' hLn' (hL'.fr f4 (by simp)) (by omega) f4.size (T3.fr f4 (by simp)) ht' hpl'
    simp only [hw'] at C4
    generalize wrtP s = S at *
    clear C2 hp2 hpq hpq' epq hL hL' ht ht' hpl hpl' hw hw'
    go_wp2_with (go_at_call 12; refine C3.mono ?_)
    rintro e w4 ⟨rfl, f4⟩
    have C5 := C4 w4 f4
    clear C3 C4
    go_wp2_with (go_at_call 12; refine C5.mono ?_)
    rintro e w5 ⟨rfl, f5⟩
    go_wp2
    go_ret
    exact ⟨by simp, (((f1.trans f2).trans f3).trans f4).trans f5⟩
end Go.Proofs.YtnkjgggbiokfbaaGreatDoor
namespace Go.Proofs.YtnkjgggbiokfbaaGreatDoor
open Go.ChangeShapes Go.WideShapes Go.ChangeAt Go.RowKit

theorem own : ownKnob Tryz.prog.godebug = none := by kernel_rfl
/-- The variables' names, as the row lists them. -/
def nmA : String := ((Rows.parseProgramsRow.laid.map Prod.fst)[0]?).getD ""
def nmD : String := ((Rows.parseProgramsRow.laid.map Prod.fst)[1]?).getD ""
def nmK : String := ((Rows.parseProgramsRow.laid.map Prod.fst)[3]?).getD ""
def nmS : String := ((Rows.parseProgramsRow.laid.map Prod.fst)[4]?).getD ""
theorem gKinds : Tryz.prog.globalNamed nmK = some 0 := by kernel_rfl
theorem gKindsT : (Tryz.prog.globals[0]?).map (·.type) = some 157 := by kernel_rfl
theorem gSigns : Tryz.prog.globalNamed nmS = some 1 := by kernel_rfl
theorem gSignsT : (Tryz.prog.globals[1]?).map (·.type) = some 159 := by kernel_rfl
theorem gPowT : (Tryz.prog.globals[3]?).map (·.type) = some 184 := by kernel_rfl
theorem gA : Tryz.prog.globalNamed nmA = some 5 := by kernel_rfl
theorem gAT : (Tryz.prog.globals[5]?).map (·.type) = some 204 := by kernel_rfl
theorem gB : Tryz.prog.globalNamed nmD = some 6 := by kernel_rfl
theorem gBT : (Tryz.prog.globals[6]?).map (·.type) = some 205 := by kernel_rfl
theorem under124 : Tryz.prog.underlying 157 = some (.array 128 5) := by kernel_rfl
theorem under5 : Tryz.prog.underlying 5 = some (.int .u8) := by kernel_rfl
theorem under9s : Tryz.prog.underlying 9 = some .string := by kernel_rfl
theorem cells124 : Tryz.prog.cellsOf 157 = 128 := by kernel_rfl
theorem cells5 : Tryz.prog.cellsOf 5 = 1 := by kernel_rfl
theorem cells126 : Tryz.prog.cellsOf 159 = 26 := by kernel_rfl
theorem cells9 : Tryz.prog.cellsOf 9 = 1 := by kernel_rfl
def kindsZ : List Int := (List.range 128).map fun n => (kindN n : Int)
def strData {H : Type} (zs : List (List UInt8)) : DataW H := .agg (zs.map fun z => .lit (.string z))
theorem under162 : Tryz.prog.underlying 204 = some (.array 32 5) := by kernel_rfl
theorem under163 : Tryz.prog.underlying 205 = some (.array 64 5) := by kernel_rfl
theorem cells162 : Tryz.prog.cellsOf 204 = 32 := by kernel_rfl
theorem cells163 : Tryz.prog.cellsOf 205 = 64 := by kernel_rfl
theorem under149 : Tryz.prog.underlying 184 = some (.array 20 119) := by kernel_rfl
theorem under105u : Tryz.prog.underlying 119 = some (.int .u64) := by kernel_rfl
theorem cells149 : Tryz.prog.cellsOf 184 = 20 := by kernel_rfl
theorem cells105u : Tryz.prog.cellsOf 119 = 1 := by kernel_rfl
/-- The numbers of a table, as the row spells them. -/
def numsOf : DataW Unit → List Int
  | .agg l => l.map fun | .lit (.int _ n) => n | _ => 0
  | _ => []
def bitsA : List Int := numsOf Rows.laid_math_bits_deBruijn32tab
def bitsB : List Int := numsOf Rows.laid_math_bits_deBruijn64tab

/-- An array of strings that reads as the table holds the table's strings. -/
theorem cells_of_strs {H : Type} {enc : TypeId × Value → H} {P : Program} {w : World} {base : Nat} {sp : Nat → Bool} {held : Bool} {fuel : Nat} {t e : TypeId} {n : Nat} {cs : List Value} {zs : List (List UInt8)} {p : List MemPlace}
    (ht : P.underlying t = some (.array n e)) (he : P.underlying e = some .string) (hce : P.cellsOf e = 1) (hct : P.cellsOf t = n)
    (h : DataW.trod enc P w base sp held fuel t cs = some (strData zs, p)) : cs = zs.map fun z => Value.string ⟨z.toArray⟩ := by
  cases fuel with
  | zero => simp [DataW.trod] at h
  | succ fuel =>
    simp only [DataW.trod, ht, hce, hct, Nat.mul_one] at h
    split at h
    · rename_i hl
      obtain ⟨xs, hm, hx⟩ := Option.map_eq_some_iff.1 h
      have hxs : xs.map (·.1) = zs.map fun z => (DataW.lit (.string z) : DataW H) := by
        have := congrArg Prod.fst hx
        simpa [strData] using this
      have hxl : xs.length = n := by simpa using Lib.mapM_length hm
      have hzl : zs.length = n := by
        have := congrArg List.length hxs
        simp at this
        omega
      apply List.ext_getElem?
      intro i
      by_cases hi : i < n
      · obtain ⟨b, hb, hf⟩ := Lib.mapM_at hm i i (by simp [hi])
        obtain ⟨z, hc, rfl, _⟩ := DataW.trod_string he hf
        have h1 : cs[i]? = some (.string z) := by
          have := congrArg (·[0]?) hc
          simpa [List.getElem?_take, List.getElem?_drop] using this
        have h2 : (xs.map (·.1))[i]? = some (DataW.lit (.string z.data.toList) : DataW H) := by simp [hb]
        rw [hxs] at h2
        simp only [List.getElem?_map, Option.map_eq_some_iff, DataW.lit.injEq, Lit.string.injEq] at h2
        obtain ⟨z', hz', rfl⟩ := h2
        simp [h1, hz']
      · rw [List.getElem?_eq_none (by omega), List.getElem?_eq_none (by simp; omega)]
    · cases h


theorem laid_list : Rows.parseProgramsRow.laid = [(nmA, Lib.tabData .u8 bitsA), (nmD, Lib.tabData .u8 bitsB), (pw10, Lib.tabData .u64 Lib.pow10Tab), (nmK, Lib.tabData .u8 kindsZ), (nmS, strData signs)] := by kernel_rfl

/-- What the rows' lists give. -/
theorem tabs {W : World} (h : laidMetH Tryz.prog Rows.parseProgramsRow.laid W) : Tabs W := by
  have h' : laidMet Tryz.prog Rows.parseProgramsRow.laid W := h
  rw [laid_list] at h'
  have hB := Lib.tabIs_of_head gB gBT under163 under5 cells5 cells163 h'.tail
  have hP := Lib.tabIs_of_head gPow gPowT under149 under105u cells105u cells149 h'.tail.tail
  have hk := Lib.tabIs_of_head gKinds gKindsT under124 under5 cells5 cells124 h'.tail.tail.tail
  have hs : W.var? Tryz.prog nmS = some (signs.map fun z => Value.string ⟨z.toArray⟩).toArray := by
    obtain ⟨ps, ⟨g', t', cs, fuel, p, q, hg', ht', hvar, hd, _, _⟩, _⟩ := h'.tail.tail.tail.tail
    obtain rfl := Option.some.inj (gSigns.symm.trans hg')
    obtain rfl := Option.some.inj (gSignsT.symm.trans ht')
    rw [hvar, ← cells_of_strs under126 under9s cells9 cells126 hd]
  have c0 : ∀ n, n < 128 → W.cell? ⟨0, n, none⟩ = some (.int .u8 (kindN n)) := fun n hn => by
    have := hk.cell gKinds n (by simpa [kindsZ] using hn)
    rw [this]
    simp [kindsZ, List.getD, hn]
  have c2 : ∀ n, n < 26 → W.cell? ⟨1, n, none⟩ = some (.string ⟨(signs.getD n []).toArray⟩) := fun n hn => by
    have := World.var?_cell gSigns hs n
    rw [this]
    have hl : signs.length = 26 := rfl
    have hn' : n < signs.length := by omega
    simp [List.getD, hn']
  have hb := hB.cell gB 0 (by decide)
  exact ⟨c0, c2, hP, World.block_lt_of_cell? W _ hb⟩

theorem fr_kept {w w' : World} (h : Fr [] w w') (may : MemPlace → Prop) : w.keptBut w' may := by
  refine ⟨h.os, h.output, fun i hi => ?_⟩
  rw [h.block i hi (by simp)]
  cases ho : w.heap[i]? with
  | none => rfl
  | some o => cases o <;> simp

/-- A world for the witness. -/
def lay (c : Array Value) : Obj → Obj
  | .cells _ t frozen => .cells c t frozen
  | o => o
def laidW (w : World) : World :=
  { w with heap := ((((w.heap.modify 0 (lay (kindsZ.map fun n => Value.int .u8 n).toArray)).modify 1 (lay (signs.map fun z => Value.string ⟨z.toArray⟩).toArray)).modify 3 (lay (Lib.pow10Tab.map fun n => Value.int .u64 n).toArray)).modify 5 (lay (bitsA.map fun n => Value.int .u8 n).toArray)).modify 6 (lay (bitsB.map fun n => Value.int .u8 n).toArray) }
end Go.Proofs.YtnkjgggbiokfbaaGreatDoor
namespace Go.Proofs.YtnkjgggbiokfbaaGreatDoor
open Go.ChangeMaps Go.ChangeShapes Go.WideShapes Go.ChangeAt Go.RowKit

set_option maxRecDepth 100000 in
/-- What the walk gives, for every argument and every world that holds the tables. -/
theorem parsePrograms_contract (H : Type) (enc : TypeId × Value → H) (W : World) (base : Nat) (args : Array Value) (ds gs : List (DataW H)) (before : List MemPlace)
    (hval : ∀ (j : Nat) t v, Tryz.f3.params[j]? = some t → args[j]? = some v → Value.okWide Tryz.prog W .any base t v)
    (hW : DataW.Whole enc Tryz.prog Tryz.f3.params.toList Rows.parseProgramsSpec.vars false W args.toList ds gs before) (hL : laidMetH Tryz.prog Rows.parseProgramsRow.laid W) :
    Calls Tryz.prog 3 args W fun e W' => ∃ v, e = .returned v ∧ Rows.parseProgramsSpec.post enc Tryz.prog Tryz.f3 false true false false W args v W' := by
  have hW' := hW
  obtain ⟨p, q, hA0, hV, rfl, hfz, hnd⟩ := hW
  have hA : DataW.TrodAll enc Tryz.prog W 0 (fun _ => true) true Tryz.f3.params.toList args.toList ds p := hA0
  rw [Tryz.params3] at hA hval
  obtain ⟨v0, vs0, d0, ds0, p0, q0, hargs, rfl, rfl, h0, r0⟩ := trodAll_cons hA
  obtain ⟨rfl, rfl, rfl⟩ := trodAll_nil r0
  obtain rfl : args = #[v0] := by cases args; simp_all
  obtain ⟨rfl, rfl⟩ := trodVars_none hV
  obtain ⟨s0, rfl, rfl, rfl, w0⟩ := open_string Tryz.underlying9 (hval 0 9 v0 rfl rfl) h0
  clear hA0
  simp only [List.append_nil] at hW'
  refine (programs_walk s0 W (tabs hL)).mono fun e W' ⟨he, hF⟩ => ?_
  subst he
  exact ⟨_, rfl, _, _, _, [], [], [], hW', trodAll_cons_mk (shut_bool Tryz.underlying4 _) trodAll_mk0, (trodAll_cons_mk (shut_string Tryz.underlying9 w0) trodAll_mk0), rfl, fr_kept hF _, fun h => by cases h⟩

theorem parsePrograms_met (os : Os) : laidMet Tryz.prog Rows.parseProgramsRow.laid ((laidW (World.holding Tryz.prog os ⟨#[], #[], []⟩)).forCall (fun _ _ => 0) ⟨#[], #[.string ⟨#[]⟩], []⟩).memory :=
  laidMet_of_run' 8 (by kernel_rfl) (by kernel_rfl)
theorem parsePrograms_reads (os : Os) {H : Type} (enc : TypeId × Value → H) : ∃ places, DataW.whole enc Tryz.prog ((laidW (World.holding Tryz.prog os ⟨#[], #[], []⟩)).forCall (fun _ _ => 0) ⟨#[], #[.string ⟨#[]⟩], []⟩).memory Tryz.f3.params.toList Rows.parseProgramsSpec.vars false (#[.string ⟨#[]⟩] : Array Value).toList 8 = some ([.lit (.string [])], [], places) :=
  ⟨[], by kernel_rfl⟩

set_option maxRecDepth 100000 in
theorem parsePrograms_lifted (os : Os) (started : os.Started) (H : Type) (enc : TypeId × Value → H) (F : Stop.Interp) :
    ReturnsInHanded {} Tryz.checked os 3 .any ((OpenSpec.ofChange Rows.parseProgramsSpec).preRow enc Tryz.prog Tryz.f3 Rows.parseProgramsRow.domain false Rows.parseProgramsRow.laid) (((OpenSpec.ofChange Rows.parseProgramsSpec).at F).post enc Tryz.prog Tryz.f3 false true false false) := by
  obtain ⟨places, hx⟩ := parsePrograms_reads os enc
  refine returnsInHanded_of_row (C := Tryz.checked) (s := OpenSpec.ofChange Rows.parseProgramsSpec) own started (by kernel_rfl) Tryz.func3
    (witness_row_at (enc := enc) (C := Tryz.checked) false (laidW (World.holding Tryz.prog os ⟨#[], #[], []⟩)) #[.string ⟨#[]⟩] rfl (by kernel_rfl) (by kernel_rfl) (by kernel_rfl)
      (OpenSpec.preRow_of_cond 8 hx (by kernel_rfl) (fun k hk => by cases hk) (by kernel_rfl) (parsePrograms_met os))) ?_
  intro W base args ds gs before hval hW _ _ _ hL _ _
  exact parsePrograms_contract H enc W base args ds gs before hval hW hL

theorem parsePrograms_said : Rows.ParseProgramsSaid :=
  OpenClaim.holds_of_cond 3 Tryz.f3 rfl rfl rfl rfl rfl rfl rfl ⟨rfl, rfl, rfl, rfl, rfl⟩ rfl rfl rfl rfl rfl (by kernel_rfl) Tryz.func3 (by kernel_rfl)
    (of_decide_eq_true (by kernel_rfl)) (by unfold Func.isWrapper; first | (rw [if_pos (by decide +kernel)]; kernel_rfl) | (rw [if_neg (by decide +kernel)]; exact ⟨rfl, rfl⟩))
    (fun os started H enc _ F => by rw [OpenClaim.pre_eq_preRow]; exact parsePrograms_lifted os started H enc F)

theorem parsePrograms_plain (f : FuncId) (fn : Func) (hf : Tryz.pinned.checked.prog.funcNamed Rows.parseProgramsRow.func = some f) (hfn : Tryz.pinned.checked.prog.funcs[f]? = some fn) :
    true = Tryz.pinned.checked.prog.looks [] ∧ ∀ (j : Nat) t, fn.params[j]? = some t → Tryz.pinned.checked.prog.wantsStandIn t = false := by
  obtain rfl : f = 3 := Option.some.inj ((show Tryz.prog.funcNamed Rows.parseProgramsRow.func = some 3 by kernel_rfl).symm.trans hf) |>.symm
  obtain rfl : fn = Tryz.f3 := (Option.some.inj (Tryz.func3.symm.trans hfn)).symm
  refine ⟨by kernel_rfl, fun j t ht => ?_⟩
  rw [Tryz.params3] at ht
  have hm : t = 9 := by simpa using Array.mem_of_getElem? ht
  subst hm
  exact (show Tryz.prog.wantsStandIn 9 = false by kernel_rfl)

/-- The card. -/
theorem parsePrograms_card : Rows.ParseProgramsCardSaid :=
  Claim7.holds_tied_plain_at .later [] _ _ _ _ parsePrograms_said (fun _ h => by cases h) (by kernel_rfl) (fun _ h => by cases h) parsePrograms_row_tie rfl ⟨rfl, rfl⟩ (by kernel_rfl) rfl parsePrograms_plain (by kernel_rfl)
end Go.Proofs.YtnkjgggbiokfbaaGreatDoor
