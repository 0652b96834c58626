/-
  One node is looked at; conditions: the table lies as the program's text lays it, the list, the map and the marks lie as told.
-/
import Derived.Test.YtajkkjohoedhaaaDoorTreeE
import Derived.Deep.RegionHeld3
namespace Go.Proofs.YtajkkjohoedhaaaDoor
open Go.RowKit
set_option linter.unusedVariables false
set_option linter.unusedSimpArgs false

theorem take_in {n : Nat} : ∀ (ks : List Int) (T T' : List Bool), takeL n ks T = some T' → ∀ k ∈ ks, 0 ≤ k ∧ k < n
  | [], T, T', h, k, hk => by simp at hk
  | q :: r, T, T', h, k, hk => by
    simp only [takeL] at h
    split at h
    · cases h
    · rename_i hn
      rcases List.mem_cons.1 hk with rfl | hk
      · omega
      · exact take_in r _ _ h k hk
theorem lookup_mem {k : Int} {v : Nat × List UInt8} : ∀ (l : List (Int × Nat × List UInt8)), l.lookup k = some v → (k, v) ∈ l
  | [], h => by cases h
  | (a, b) :: l, h => by
    rw [List.lookup_cons] at h
    cases hk : (k == a) with
    | true => rw [hk] at h; cases h; have : k = a := by simpa using hk
              subst this; simp
    | false => rw [hk] at h; exact List.mem_cons_of_mem _ (lookup_mem l h)
theorem want_fine {k : Int} {t : Nat} {ls : List UInt8} (h : wantL k = some (t, ls)) : t ≤ 4 ∧ ls.length ≤ 3 ∧ ∀ c ∈ ls, c.toNat < 128 := by
  have : ∀ x ∈ wantsL, x.2.1 ≤ 4 ∧ x.2.2.length ≤ 3 ∧ ∀ c ∈ x.2.2, c.toNat < 128 := by decide
  exact this _ (lookup_mem _ h)
theorem ascii_of {ls : List UInt8} (h : ∀ c ∈ ls, c.toNat < 128) : ∀ i (hi : i < (⟨ls.toArray⟩ : ByteArray).size), ((⟨ls.toArray⟩ : ByteArray)[i]'hi).toNat < 128 := by
  intro i hi
  have hi' : i < ls.length := hi
  exact h _ (List.getElem_mem hi')

def errOf {α : Type} : Except Nat α → Nat
  | .error e => e
  | .ok _ => 0

set_option maxRecDepth 100000 in
set_option maxHeartbeats 2000000 in
theorem checkNode_any (B : Nat) (L : List Nd) (w : World) (a : Option Addr) (len cap : Nat) (hlen : L.length = len) (hL : NAt B w a L) (hm : len ≤ maxLen) (hB : B ≤ w.heap.size)
    (i : Nat) (x : Nd) (hx : L[i]? = some x) (mg g : Nat) (T : List Bool) (tc : Nat) (hM : WM w mg) (hT : TB w g T) (hTl : T.length = len) (hg : B ≤ g) (TT : Tabs w) (h2 : 2 ≤ g) (hmg : mg ≠ g) :
    Calls Tryd.prog 23 #[.slice a len cap, .int .i64 i, .map (some mg), .slice (some ⟨g, 0, none⟩) len tc] w fun e w' => e = .returned (.int .i64 (errOf (nodeE L i x T))) ∧ Fr [g] w w' ∧ ∀ T', nodeE L i x T = .ok T' → TB w' g T' := by
  have hil : i < len := by rw [← hlen]; exact (List.getElem?_eq_some_iff.1 hx).1
  obtain ⟨b, o, rfl, hb, hN⟩ := hL i x hx
  have hbl : b < w.heap.size := by omega
  have HN : Hid (nodeE L i x T = nodeE L i x T) := rfl
  have hm' := hm
  unfold maxLen at hm'
  cases hw : wantL x.kind with
  | none =>
    have HE : Hid (nodeE L i x T = .error 50) := by unfold Hid nodeE; rw [hw]
    have hlk := hM.none hw
    obtain ⟨c0, c1, c2, c3, hk, ht, hkl, hkc, hkn⟩ := hN
    rw [HE.out]
    clear HN hL HE
    go_enter Tryd.func23, Tryd.ntmps23
    go_wp2
    go_ret
    exact ⟨rfl, (Fr.refl _ _).alloc _, fun T' h => by cases h⟩
  | some tl =>
    obtain ⟨t, ls⟩ := tl
    have hlk := hM.some hw
    obtain ⟨ft, fl, fc⟩ := want_fine hw
    by_cases hp : x.pl < 0
    · have HE : Hid (nodeE L i x T = .error 50) := by unfold Hid nodeE; rw [hw]; simp [hp]
      obtain ⟨c0, c1, c2, c3, hk, ht, hkl, hkc, hkn⟩ := hN
      rw [HE.out]
      clear HN hL HE
      go_enter Tryd.func23, Tryd.ntmps23
      go_wp2
      go_ret
      exact ⟨rfl, (Fr.refl _ _).alloc _, fun T' h => by cases h⟩
    · have f0 : Fr [] w (w.alloc (.cells #[.int .i64 t, .string ⟨ls.toArray⟩] 59)) := (Fr.refl _ _).alloc _
      have f0' : Fr [g] w (w.alloc (.cells #[.int .i64 t, .string ⟨ls.toArray⟩] 59)) := (Fr.refl _ _).alloc _
      have b0 : (w.alloc (.cells #[.int .i64 t, .string ⟨ls.toArray⟩] 59)).heap[w.heap.size]? = some (.cells #[.int .i64 t, .string ⟨ls.toArray⟩] 59) := heap_alloc_new w _
      have TK := take_any B x.ks x.a x.ks.length x.c i _ rfl (hN.k.fr f0 (by simp)) hN.kl g T len tc (hT.fr f0 (by simp)) hTl (by omega) hm hg
      have HG : Hid (g < w.heap.size) := hT.lt
      have hNN := hN
      obtain ⟨c0, c1, c2, c3, hk, ht, hkl, hkc, hkn⟩ := hN
      go_enter Tryd.func23, Tryd.ntmps23
      go_wp2_with fail
      refine TK.mono ?_
      rintro e w1 ⟨rfl, f1, hT1⟩
      have F1 : Fr [g] w w1 := f0'.trans f1
      have hk1 : w1.heap[w.heap.size]? = some (.cells #[.int .i64 t, .string ⟨ls.toArray⟩] 59) := (f1.block w.heap.size (by simp) (by have := HG.out; simp; omega)).trans b0
      clear TK hlk f0 f0' f1 b0 hk
      cases hk' : takeL i x.ks T with
      | none =>
        have HE : Hid (nodeE L i x T = .error 50) := by unfold Hid nodeE; rw [hw]; simp [hp, hk']
        clear HN hL
        go_wp2
        go_ret
        exact ⟨by rw [HE.out]; rfl, F1, fun T' h => by rw [HE.out] at h; cases h⟩
      | some T' =>
        have hT2 := hT1 T' hk'
        have hin := take_in _ _ _ hk'
        have N1 := hNN.fr F1 hb (by simpa using hg)
        have L1 := hL.fr F1 (by simpa using hg)
        have TT1 := TT.fr F1 (by simpa using h2)
        have hz1 := F1.size
        have v0 : ∀ w', Fr [] w1 w' → w'.cell? ⟨w.heap.size, 0, none⟩ = some (.int .i64 t) := fun w' f => by
          have := (f.block _ (Array.getElem?_eq_some_iff.1 hk1).1 (by simp)).trans hk1
          simp [World.cell?, this]
        have v1 : ∀ w', Fr [] w1 w' → w'.cell? ⟨w.heap.size, 1, none⟩ = some (.string ⟨ls.toArray⟩) := fun w' f => by
          have := (f.block _ (Array.getElem?_eq_some_iff.1 hk1).1 (by simp)).trans hk1
          simp [World.cell?, this]
        have n1 : ∀ w', Fr [] w1 w' → w'.cell? ⟨b, o + i * 4 + 1, none⟩ = some (.string x.text) := fun w' f => f.cell1 N1.c1 (by simp)
        have n2 : ∀ w', Fr [] w1 w' → w'.cell? ⟨b, o + i * 4 + 2, none⟩ = some (.slice x.a x.ks.length x.c) := fun w' f => f.cell1 N1.c2 (by simp)
        have C34 := fun w' (f : Fr [] w1 w') => textFits_any t ft x.text w' ht (TT1.fr f (by simp))
        have C35 := fun w' (f : Fr [] w1 w') => kidsFit_any ⟨ls.toArray⟩ (by show ls.length ≤ _; unfold maxLen; omega) (ascii_of fc) B L w' (some ⟨b, o, none⟩) len cap hlen (L1.fr f (by simp)) hm (by have := f.size; omega) x.ks x.a x.ks.length x.c rfl ((N1.fr f hb (by simp)).k) hkl hkc hkn (fun k hk => by have := hin k hk; omega)
        have HT2 : Hid (TB w1 g T') := hT2
        clear hT1 hT2 hin N1 L1 TT1 hNN hL c0 c1 c2 c3 hlen hTl hx
        have HE : Hid (nodeE L i x T = if textL t x.text = false then .error 52 else if fitL ls (x.ks.map (kd L)) = false then .error 53 else .ok T') := by unfold Hid nodeE; rw [hw]; simp only [hk']; rw [if_neg (by omega)]
        clear HN hk' hw
        generalize hRt : textL t x.text = rt at *
        generalize hRf : fitL ls (x.ks.map (kd L)) = rf at *
        have hb1 : b < w1.heap.size := by omega
        go_wp2
        go_region_held3 (fun w' => Fr [] w1 w')
          (with_reducible (first | assumption | exact Fr.drew (Fr.refl _ _)))
          (first
            | (go_at_call 34; refine (C34 _ (by assumption)).mono ?_; rintro e w10 ⟨rfl, rfl⟩))
        all_goals
          rename_i hH
          cases rt with
          | false =>
            have HR : Hid (nodeE L i x T = .error 52) := HE
            clear HE C34 C35 v0 v1 n1 n2 hRt hRf
            go_wp2
            go_ret
            exact ⟨by rw [HR.out]; rfl, F1.drew, fun T'' h => by rw [HR.out] at h; cases h⟩
          | true =>
            have HE2 : Hid (nodeE L i x T = if rf = false then .error 53 else .ok T') := HE
            clear HE C34 hRt hRf
            go_wp2
            go_region_held3 (fun w' => Fr [] w1 w')
              (with_reducible (first | assumption | exact Fr.drew (Fr.drew (Fr.refl _ _))))
              (first
                | (go_at_call 35; refine (C35 _ (by assumption)).mono ?_; rintro e w10 ⟨rfl, f10⟩; have F10 := Fr.trans (by assumption) f10))
            all_goals
              rename_i hH2
              have FF : ∀ w', Fr [] w1 w' → Fr [g] w w' := fun w' f => F1.trans (f.sub (by simp))
              cases rf with
              | false =>
                have HR : Hid (nodeE L i x T = .error 53) := HE2
                clear HE2 C35 v0 v1 n1 n2
                go_wp2
                go_ret
                exact ⟨by rw [HR.out]; rfl, FF _ hH2, fun T'' h => by rw [HR.out] at h; cases h⟩
              | true =>
                have HR : Hid (nodeE L i x T = .ok T') := HE2
                clear HE2 C35 v0 v1 n1 n2
                go_wp2
                go_ret
                exact ⟨by rw [HR.out]; rfl, FF _ hH2, fun T'' h => by rw [HR.out] at h; injection h with h; rw [← h]; exact HT2.out.fr hH2 (by simp)⟩
end Go.Proofs.YtajkkjohoedhaaaDoor
