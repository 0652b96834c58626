/-
  Where a function may go on, by the document; conditions: the function lies as told.
-/
import Derived.Test.YtajdnakpljgkpaaDoorIrK
namespace Go.Proofs.YtajdnakpljgkpaaDoor
open Go.RowKit
set_option linter.unusedVariables false
set_option linter.unusedSimpArgs false

theorem one_of_two (W : World) (z : Int) (g : Nat) (hg : g = W.heap.size) : KAt (W.alloc (.cells #[.int .i64 z, .int .i64 z] 2)).heap.size (W.alloc (.cells #[.int .i64 z, .int .i64 z] 2)) (some ⟨g, 0, none⟩) [z] := fun j k hj => by
  have h0 : j = 0 := by have := (List.getElem?_eq_some_iff.1 hj).1; simpa using this
  subst h0
  exact two2 W z z g hg 0 k (by simpa using hj)

/-- The document's places. -/
def rnext1 (op k p : Int) : List Int := if op = 21 then [k] else if op = 22 then (if k = p + 1 then [p + 1] else if k ≤ p then [k, p + 1] else [p + 1, k]) else if op = 24 ∨ op = 25 then [] else [p + 1]
def rnextL (L : List In) (at_ : Int) : List Int := if at_ < 0 ∨ (L.length : Int) ≤ at_ then [] else keepN L.length (rnext1 (opAt L at_.toNat) (kAt L at_.toNat) at_)
theorem rnext_same (L : List In) (at_ : Int) : rnextL L at_ = nextL L at_ := by
  unfold rnextL nextL nextC rnext1
  generalize opAt L at_.toNat = op
  generalize kAt L at_.toNat = k
  generalize L.length = n
  by_cases h : at_ < 0 ∨ (n : Int) ≤ at_
  · rw [if_pos h, if_pos h]
  · rw [if_neg h, if_neg h]
    have one : ∀ z, keepN n [z] = dd2 (srt2 (keepN n [z])) := fun z => by
      unfold keepN
      by_cases hz : inN n z = true
      · simp [hz, dd2, srt2]
      · simp [hz, dd2, srt2]
    by_cases h1 : op = 21
    · rw [if_pos h1, if_pos h1]; exact one k
    · rw [if_neg h1, if_neg h1]
      by_cases h2 : op = 22
      · rw [if_pos h2, if_pos h2]
        unfold keepN
        by_cases hp : inN n (at_ + 1) = true
        · by_cases hk : inN n k = true
          · by_cases e1 : k = at_ + 1
            · simp [e1, hp, srt2, dd2]
            · by_cases e2 : k ≤ at_
              · have : k < at_ + 1 := by omega
                have e3 : ¬ at_ + 1 = k := by omega
                simp [e1, e2, hp, hk, srt2, dd2, this, e3]
              · have : ¬ k < at_ + 1 := by omega
                simp [e1, e2, hp, hk, srt2, dd2, this]
          · have hk' : inN n k = false := by simpa using hk
            by_cases e1 : k = at_ + 1
            · rw [e1] at hk; exact absurd hp hk
            · by_cases e2 : k ≤ at_ <;> simp [e1, e2, hp, hk', srt2, dd2]
        · have hp' : inN n (at_ + 1) = false := by simpa using hp
          by_cases e1 : k = at_ + 1
          · simp [e1, hp', srt2, dd2]
          · by_cases hk : inN n k = true
            · by_cases e2 : k ≤ at_ <;> simp [e1, e2, hp', hk, srt2, dd2]
            · have hk' : inN n k = false := by simpa using hk
              by_cases e2 : k ≤ at_ <;> simp [e1, e2, hp', hk', srt2, dd2]
      · rw [if_neg h2, if_neg h2]
        by_cases h3 : op = 24 ∨ op = 25
        · rw [if_pos h3, if_pos h3]; rfl
        · rw [if_neg h3, if_neg h3]; exact one _

set_option maxRecDepth 100000 in
set_option maxHeartbeats 4000000 in
theorem rnext_any (B : Nat) (f : Fu) (at_ : Int) (w : World) (hf : FuOk B w f) (hB : B ≤ w.heap.size) :
    Calls Tryd.prog 19 #[.agg f.arr, .int .i64 at_] w fun e w' => ∃ v, e = .returned v ∧ OR w' w.heap.size v (rnextL f.code at_) ∧ Fr [] w w' := by
  obtain ⟨i3', hi, hz, hz1, hby⟩ := info_parts info3
  have F0 : Fr [] w (w.alloc (.cells f.arr 24)) := (Fr.refl _ _).alloc _
  have bx : (w.alloc (.cells f.arr 24)).heap[w.heap.size]? = some (.cells f.arr 24 (0, 0)) := heap_alloc_new w _
  have hcl := hf.kl
  have hclI : (f.code.length : Int) ≤ 20000000000000 := by omega
  have hkc := hf.kc
  have HF0 : Hid (Fr [] w (w.alloc (.cells f.arr 24))) := F0
  by_cases h0 : at_ < 0
  · have HN : Hid (rnextL f.code at_ = []) := by unfold Hid rnextL; rw [if_pos (.inl h0)]
    unfold Fu.arr at *
    go_enter Tryd.func19, Tryd.ntmps19
    go_wp2
    go_ret
    exact ⟨_, rfl, by rw [HN.out]; exact OR.nil _ _, HF0.out⟩
  · by_cases h1 : (f.code.length : Int) ≤ at_
    · have HN : Hid (rnextL f.code at_ = []) := by unfold Hid rnextL; rw [if_pos (.inr h1)]
      unfold Fu.arr at *
      go_enter Tryd.func19, Tryd.ntmps19
      go_wp2
      go_ret
      exact ⟨_, rfl, by rw [HN.out]; exact OR.nil _ _, HF0.out⟩
    · obtain ⟨p, rfl⟩ := Int.eq_ofNat_of_zero_le (show 0 ≤ at_ by omega)
      have hp : p < f.code.length := by omega
      have hx : f.code[p]? = some f.code[p] := List.getElem?_eq_getElem hp
      generalize f.code[p] = x at hx
      obtain ⟨b, o, hca, hb, hI⟩ := (hf.k.fr F0 (by simp)) p x hx
      have HN : Hid (rnextL f.code (p : Int) = keepN f.code.length (rnext1 x.op x.k p)) := by
        unfold Hid rnextL opAt kAt
        rw [if_neg (by omega)]
        simp only [Int.toNat_natCast, hx]
      have hpI : (p : Int) < f.code.length := by omega
      clear hx hf h0 h1
      unfold Fu.arr at *
      generalize hL : f.code.length = n at *
      rw [hca] at F0 bx HF0
      have hdn : decide (n ≤ p) = false := by simp; omega
      have hdp : decide ((p : Int) < 0) = false := by simp
      go_enter Tryd.func19, Tryd.ntmps19
      rw [hca]
      have i0 := hI.c0
      have i1 := hI.c1
      have i2 := hI.c2
      have i3c := hI.c3
      have i4 := hI.c4
      have i5 := hI.c5
      have hbn : b ≠ w.heap.size := by omega
      clear hI hL
      rw [hca] at i0 i1 i2 i3c i4 i5
      have q3 := at_cells bx 3 rfl
      obtain ⟨xop, xa, xb, xc, xk, xla, xlc, xl⟩ := x
      simp only at *
      by_cases e1 : xop = 21
      · subst e1
        have HFIN : Hid (rnextL f.code (p : Int) = keepN n [xk]) := by unfold Hid; rw [HN.out]; rfl
        clear HN 
        have FW2 : Hid (Fr [] w (((w.alloc (.cells #[.string f.name, .int .i64 f.ps, .int .i64 f.rs, .slice (some ⟨b, o, none⟩) n f.cc] 24)).alloc (.cells #[.int .i64 21, .int .i64 xa, .int .i64 xb, .int .i64 xc, .int .i64 xk, .slice xla xl.length xlc] 59)).alloc (.cells #[.int .i64 xk] 2))) := (HF0.out.alloc _).alloc _
        have LB : (((w.alloc (.cells #[.string f.name, .int .i64 f.ps, .int .i64 f.rs, .slice (some ⟨b, o, none⟩) n f.cc] 24)).alloc (.cells #[.int .i64 21, .int .i64 xa, .int .i64 xb, .int .i64 xc, .int .i64 xk, .slice xla xl.length xlc] 59)).alloc (.cells #[.int .i64 xk] 2)).heap[w.heap.size]? = some (.cells #[.string f.name, .int .i64 f.ps, .int .i64 f.rs, .slice (some ⟨b, o, none⟩) n f.cc] 24 (0, 0)) := (((Fr.refl [] _).alloc _).alloc _ |>.block _ (Array.getElem?_eq_some_iff.1 bx).1 (by simp)).trans bx
        have KN := one2 ((w.alloc (.cells #[.string f.name, .int .i64 f.ps, .int .i64 f.rs, .slice (some ⟨b, o, none⟩) n f.cc] 24)).alloc (.cells #[.int .i64 21, .int .i64 xa, .int .i64 xb, .int .i64 xc, .int .i64 xk, .slice xla xl.length xlc] 59)) (xk) (w.heap.size + 1 + 1) (by simp only [World.size_alloc])
        go_wp2
        generalize ((w.alloc (.cells #[.string f.name, .int .i64 f.ps, .int .i64 f.rs, .slice (some ⟨b, o, none⟩) n f.cc] 24)).alloc (.cells #[.int .i64 21, .int .i64 xa, .int .i64 xb, .int .i64 xc, .int .i64 xk, .slice xla xl.length xlc] 59)).alloc (.cells #[.int .i64 xk] 2) = W2 at *
        obtain ⟨ns, hn0⟩ : ∃ ns, ns = [xk] := ⟨_, rfl⟩
        have hns : ns.length = 1 := by rw [hn0]; rfl
        rw [← hn0] at KN HFIN
        clear hn0
        have HNS : Hid (ns.length = 1) := hns
        clear hns
        go_loopw [7, 62] (fun v k wr => ∃ p' : Nat, p' ≤ 1 ∧ k = .int .i64 p' ∧ OR wr W2.heap.size v (keepN n (ns.take p')) ∧ Fr [] W2 wr) (fun _ k _ => 1 - (intOf k).toNat)
        case atStart => exact ⟨0, Nat.zero_le _, rfl, by simpa [keepN] using OR.nil _ _, Fr.refl _ _⟩
        case round =>
          obtain ⟨p', hp', rfl, ho, Fw⟩ := hrel
          have HFw : Hid (Fr [] W2 wr) := Fw
          by_cases hlt : p' < 1
          · have hlt' : p' < ns.length := by rw [HNS.out]; exact hlt
            have HLT : Hid (p' < 1) := hlt
            have hltI : (p' : Int) < 1 := by omega
            clear hlt
            have hx : ns[p']? = some (ns[p']'hlt') := List.getElem?_eq_getElem _
            have HTK : Hid (keepN n (ns.take (p' + 1)) = keepN n (ns.take p') ++ (if inN n (ns[p']'hlt') then [ns[p']'hlt'] else [])) := by
              unfold Hid
              have h1 : ns.take (p' + 1) = ns.take p' ++ [ns[p']'hlt'] := by rw [List.take_add_one, hx]; rfl
              rw [h1, keepN_snoc]
            have HKT : Hid ((keepN n (ns.take p')).length ≤ 2) := by have := keepN_len n (ns.take p'); have h2 := HNS.out; simp at this; unfold Hid; omega
            obtain ⟨b', o', hgk, hb', hc⟩ := (KN.fr Fw (by simp)) p' _ hx
            injection hgk with hgk
            injection hgk with hg1 hg2
            subst hg1 hg2
            simp only [Nat.zero_add] at hc
            generalize ns[p']'hlt' = k at *
            clear hx hlt'
            have bw := (Fw.block _ (Array.getElem?_eq_some_iff.1 LB).1 (by simp)).trans LB
            obtain ⟨a5, c5, hv, hlc, hnil⟩ := ho.slice
            subst hv
            have hlo := ho.lt
            have q3 : wr.cell? ⟨w.heap.size, 3, none⟩ = some (.slice (some ⟨b, o, none⟩) n f.cc) := at_cells bw 3 rfl
            have hszw : Hid (W2.heap.size ≤ wr.heap.size) := Fw.size
            have HO : Hid (OR wr W2.heap.size (.slice a5 (keepN n (ns.take p')).length c5) (keepN n (ns.take p'))) := ho
            unfold OR at ho
            generalize keepN n (ns.take p') = K at *
            have hKI : (K.length : Int) ≤ 2 := by have := HKT.out; omega
            clear bw
            by_cases h0 : 0 ≤ k
            · by_cases h1 : k < n
              · have HIN : Hid (inN n k = true) := by unfold Hid; simp [inN, h0, h1]
                go_wp2_with (at_builtin; refine wpList_append_src _ rfl _ _ 30 rfl W2.heap.size 3 i3' (.int .i64 0) 1 8 Tryd.underlying30 hi hz hz1 hby rfl (by decide) (.slice a5 K.length c5) K.length (K.map (Value.int .i64)) rfl (ho.alloc _) (some ⟨wr.heap.size, 0, none⟩) 1 1 [.int .i64 k] rfl rfl (by simp) (fun ad h => by cases h; exact one_new wr _) (by simp [Value.oneCell']) (by unfold maxLen; omega) (by omega) (by have := hszw.out; simp; omega) ?_)
                intro v3 w3 ho3 hg hl
                have f3 : Fr (Value.slice a5 K.length c5).ownBlock.toList wr w3 := ((Fr.refl _ _).alloc _).trans (Fr.ofGrown hg)
                have O3 : OR w3 W2.heap.size v3 (keepN n (ns.take (p' + 1))) := by unfold OR; rw [HTK.out, HIN.out]; simpa using ho3
                have F3 : Fr [] W2 w3 := ((HFw.out.sub (T := (Value.slice a5 K.length c5).ownBlock.toList) (by simp)).trans f3).sub (fun k hk => .inr (hlo k (by simpa using hk)).1)
                clear ho3 hg hl f3 ho hlo
                go_wp2
                go_roundw
                case rel => exact ⟨p' + 1, HLT.out, by go_num, O3, F3⟩
                case measure => simp [intOf]; omega
              · have HIN : Hid (keepN n (ns.take (p' + 1)) = K) := by unfold Hid; rw [HTK.out]; simp [inN, h1]
                clear ho hlo
                go_wp2
                go_roundw
                case rel => exact ⟨p' + 1, HLT.out, by go_num, by rw [HIN.out]; exact HO.out, HFw.out⟩
                case measure => simp [intOf]; omega
            · have HIN : Hid (keepN n (ns.take (p' + 1)) = K) := by unfold Hid; rw [HTK.out]; simp [inN, h0]
              have h0' : decide (0 ≤ k) = false := by simpa using h0
              clear ho hlo
              go_wp2
              go_roundw
              case rel => exact ⟨p' + 1, HLT.out, by go_num, by rw [HIN.out]; exact HO.out, HFw.out⟩
              case measure => simp [intOf]; omega
          · have HE : Hid (ns.take p' = ns) := List.take_of_length_le (by rw [HNS.out]; omega)
            have HO : Hid (OR wr W2.heap.size u7 (keepN n (ns.take p'))) := ho
            clear ho
            go_wp2
            go_ret
            refine ⟨u7, rfl, ?_, FW2.out.trans HFw.out⟩
            have h5 := own_low HO.out FW2.out.size
            rw [HE.out] at h5
            rw [HFIN.out]
            exact h5
      · have d1 : (xop == 21) = false := beq_int_false e1
        by_cases e2 : xop = 22
        · subst e2
          by_cases e5 : xk = (p : Int) + 1
          · subst e5
            have hq0 : decide ((p : Int) + 1 ≤ (p : Int)) = false := decide_eq_false (by omega)
            have HFIN : Hid (rnextL f.code (p : Int) = keepN n [((p : Int) + 1)]) := by unfold Hid; rw [HN.out]; simp [rnext1]
            clear HN
            have FR0 : Fr [] (w.alloc (.cells #[.string f.name, .int .i64 f.ps, .int .i64 f.rs, .slice (some ⟨b, o, none⟩) n f.cc] 24)) (((w.alloc (.cells #[.string f.name, .int .i64 f.ps, .int .i64 f.rs, .slice (some ⟨b, o, none⟩) n f.cc] 24)).alloc (.cells #[.int .i64 22, .int .i64 xa, .int .i64 xb, .int .i64 xc, .int .i64 ((p : Int) + 1), .slice xla xl.length xlc] 59)).alloc (.cells #[.int .i64 ((p : Int) + 1), .int .i64 ((p : Int) + 1)] 2)) := ((Fr.refl [] _).alloc _).alloc _
            have FW2 : Hid (Fr [] w (((w.alloc (.cells #[.string f.name, .int .i64 f.ps, .int .i64 f.rs, .slice (some ⟨b, o, none⟩) n f.cc] 24)).alloc (.cells #[.int .i64 22, .int .i64 xa, .int .i64 xb, .int .i64 xc, .int .i64 ((p : Int) + 1), .slice xla xl.length xlc] 59)).alloc (.cells #[.int .i64 ((p : Int) + 1), .int .i64 ((p : Int) + 1)] 2))) := ((HF0.out.alloc _).alloc _)
            have LB : (((w.alloc (.cells #[.string f.name, .int .i64 f.ps, .int .i64 f.rs, .slice (some ⟨b, o, none⟩) n f.cc] 24)).alloc (.cells #[.int .i64 22, .int .i64 xa, .int .i64 xb, .int .i64 xc, .int .i64 ((p : Int) + 1), .slice xla xl.length xlc] 59)).alloc (.cells #[.int .i64 ((p : Int) + 1), .int .i64 ((p : Int) + 1)] 2)).heap[w.heap.size]? = some (.cells #[.string f.name, .int .i64 f.ps, .int .i64 f.rs, .slice (some ⟨b, o, none⟩) n f.cc] 24 (0, 0)) := (FR0.block _ (Array.getElem?_eq_some_iff.1 bx).1 (by simp)).trans bx
            have KN := one_of_two ((w.alloc (.cells #[.string f.name, .int .i64 f.ps, .int .i64 f.rs, .slice (some ⟨b, o, none⟩) n f.cc] 24)).alloc (.cells #[.int .i64 22, .int .i64 xa, .int .i64 xb, .int .i64 xc, .int .i64 ((p : Int) + 1), .slice xla xl.length xlc] 59)) ((p : Int) + 1) (w.heap.size + 1 + 1) (by simp only [World.size_alloc])
            go_wp2
            generalize ((w.alloc (.cells #[.string f.name, .int .i64 f.ps, .int .i64 f.rs, .slice (some ⟨b, o, none⟩) n f.cc] 24)).alloc (.cells #[.int .i64 22, .int .i64 xa, .int .i64 xb, .int .i64 xc, .int .i64 ((p : Int) + 1), .slice xla xl.length xlc] 59)).alloc (.cells #[.int .i64 ((p : Int) + 1), .int .i64 ((p : Int) + 1)] 2) = W2 at *
            obtain ⟨ns, hn0⟩ : ∃ ns, ns = [((p : Int) + 1)] := ⟨_, rfl⟩
            have hns : ns.length = 1 := by rw [hn0]; rfl
            rw [← hn0] at KN HFIN
            clear hn0 FR0
            have HNS : Hid (ns.length = 1) := hns
            clear hns
            go_loopw [7, 62] (fun v k wr => ∃ p' : Nat, p' ≤ 1 ∧ k = .int .i64 p' ∧ OR wr W2.heap.size v (keepN n (ns.take p')) ∧ Fr [] W2 wr) (fun _ k _ => 1 - (intOf k).toNat)
            case atStart => exact ⟨0, Nat.zero_le _, rfl, by simpa [keepN] using OR.nil _ _, Fr.refl _ _⟩
            case round =>
              obtain ⟨p', hp', rfl, ho, Fw⟩ := hrel
              have HFw : Hid (Fr [] W2 wr) := Fw
              by_cases hlt : p' < 1
              · have hlt' : p' < ns.length := by rw [HNS.out]; exact hlt
                have HLT : Hid (p' < 1) := hlt
                have hltI : (p' : Int) < 1 := by omega
                clear hlt
                have hx : ns[p']? = some (ns[p']'hlt') := List.getElem?_eq_getElem _
                have HTK : Hid (keepN n (ns.take (p' + 1)) = keepN n (ns.take p') ++ (if inN n (ns[p']'hlt') then [ns[p']'hlt'] else [])) := by
                  unfold Hid
                  have h1 : ns.take (p' + 1) = ns.take p' ++ [ns[p']'hlt'] := by rw [List.take_add_one, hx]; rfl
                  rw [h1, keepN_snoc]
                have HKT : Hid ((keepN n (ns.take p')).length ≤ 2) := by have := keepN_len n (ns.take p'); have h2 := HNS.out; simp at this; unfold Hid; omega
                obtain ⟨b', o', hgk, hb', hc⟩ := (KN.fr Fw (by simp)) p' _ hx
                injection hgk with hgk
                injection hgk with hg1 hg2
                subst hg1 hg2
                simp only [Nat.zero_add] at hc
                generalize ns[p']'hlt' = k at *
                clear hx hlt'
                have bw := (Fw.block _ (Array.getElem?_eq_some_iff.1 LB).1 (by simp)).trans LB
                obtain ⟨a5, c5, hv, hlc, hnil⟩ := ho.slice
                subst hv
                have hlo := ho.lt
                have q3 : wr.cell? ⟨w.heap.size, 3, none⟩ = some (.slice (some ⟨b, o, none⟩) n f.cc) := at_cells bw 3 rfl
                have hszw : Hid (W2.heap.size ≤ wr.heap.size) := Fw.size
                have HO : Hid (OR wr W2.heap.size (.slice a5 (keepN n (ns.take p')).length c5) (keepN n (ns.take p'))) := ho
                unfold OR at ho
                generalize keepN n (ns.take p') = K at *
                have hKI : (K.length : Int) ≤ 2 := by have := HKT.out; omega
                clear bw
                by_cases h0 : 0 ≤ k
                · by_cases h1 : k < n
                  · have HIN : Hid (inN n k = true) := by unfold Hid; simp [inN, h0, h1]
                    go_wp2_with (at_builtin; refine wpList_append_src _ rfl _ _ 30 rfl W2.heap.size 3 i3' (.int .i64 0) 1 8 Tryd.underlying30 hi hz hz1 hby rfl (by decide) (.slice a5 K.length c5) K.length (K.map (Value.int .i64)) rfl (ho.alloc _) (some ⟨wr.heap.size, 0, none⟩) 1 1 [.int .i64 k] rfl rfl (by simp) (fun ad h => by cases h; exact one_new wr _) (by simp [Value.oneCell']) (by unfold maxLen; omega) (by omega) (by have := hszw.out; simp; omega) ?_)
                    intro v3 w3 ho3 hg hl
                    have f3 : Fr (Value.slice a5 K.length c5).ownBlock.toList wr w3 := ((Fr.refl _ _).alloc _).trans (Fr.ofGrown hg)
                    have O3 : OR w3 W2.heap.size v3 (keepN n (ns.take (p' + 1))) := by unfold OR; rw [HTK.out, HIN.out]; simpa using ho3
                    have F3 : Fr [] W2 w3 := ((HFw.out.sub (T := (Value.slice a5 K.length c5).ownBlock.toList) (by simp)).trans f3).sub (fun k hk => .inr (hlo k (by simpa using hk)).1)
                    clear ho3 hg hl f3 ho hlo
                    go_wp2
                    go_roundw
                    case rel => exact ⟨p' + 1, HLT.out, by go_num, O3, F3⟩
                    case measure => simp [intOf]; omega
                  · have HIN : Hid (keepN n (ns.take (p' + 1)) = K) := by unfold Hid; rw [HTK.out]; simp [inN, h1]
                    clear ho hlo
                    go_wp2
                    go_roundw
                    case rel => exact ⟨p' + 1, HLT.out, by go_num, by rw [HIN.out]; exact HO.out, HFw.out⟩
                    case measure => simp [intOf]; omega
                · have HIN : Hid (keepN n (ns.take (p' + 1)) = K) := by unfold Hid; rw [HTK.out]; simp [inN, h0]
                  have h0' : decide (0 ≤ k) = false := by simpa using h0
                  clear ho hlo
                  go_wp2
                  go_roundw
                  case rel => exact ⟨p' + 1, HLT.out, by go_num, by rw [HIN.out]; exact HO.out, HFw.out⟩
                  case measure => simp [intOf]; omega
              · have HE : Hid (ns.take p' = ns) := List.take_of_length_le (by rw [HNS.out]; omega)
                have HO : Hid (OR wr W2.heap.size u7 (keepN n (ns.take p'))) := ho
                clear ho
                go_wp2
                go_ret
                refine ⟨u7, rfl, ?_, FW2.out.trans HFw.out⟩
                have h5 := own_low HO.out FW2.out.size
                rw [HE.out] at h5
                rw [HFIN.out]
                exact h5
          · have hb5 : (xk == (p : Int) + 1) = false := beq_int_false e5
            by_cases e6 : xk ≤ (p : Int)
            · have hq0 : decide (xk ≤ (p : Int)) = true := by simpa using e6
              have HFIN : Hid (rnextL f.code (p : Int) = keepN n [xk, ((p : Int) + 1)]) := by unfold Hid; rw [HN.out]; simp [rnext1, e5, e6]
              clear HN
              have FR0 : Fr [] (w.alloc (.cells #[.string f.name, .int .i64 f.ps, .int .i64 f.rs, .slice (some ⟨b, o, none⟩) n f.cc] 24)) ((((w.alloc (.cells #[.string f.name, .int .i64 f.ps, .int .i64 f.rs, .slice (some ⟨b, o, none⟩) n f.cc] 24)).alloc (.cells #[.int .i64 22, .int .i64 xa, .int .i64 xb, .int .i64 xc, .int .i64 xk, .slice xla xl.length xlc] 59)).alloc (.cells #[.int .i64 ((p : Int) + 1), .int .i64 xk] 2)).alloc (.cells #[.int .i64 xk, .int .i64 ((p : Int) + 1)] 2)) := (((Fr.refl [] _).alloc _).alloc _).alloc _
              have FW2 : Hid (Fr [] w ((((w.alloc (.cells #[.string f.name, .int .i64 f.ps, .int .i64 f.rs, .slice (some ⟨b, o, none⟩) n f.cc] 24)).alloc (.cells #[.int .i64 22, .int .i64 xa, .int .i64 xb, .int .i64 xc, .int .i64 xk, .slice xla xl.length xlc] 59)).alloc (.cells #[.int .i64 ((p : Int) + 1), .int .i64 xk] 2)).alloc (.cells #[.int .i64 xk, .int .i64 ((p : Int) + 1)] 2))) := (((HF0.out.alloc _).alloc _).alloc _)
              have LB : ((((w.alloc (.cells #[.string f.name, .int .i64 f.ps, .int .i64 f.rs, .slice (some ⟨b, o, none⟩) n f.cc] 24)).alloc (.cells #[.int .i64 22, .int .i64 xa, .int .i64 xb, .int .i64 xc, .int .i64 xk, .slice xla xl.length xlc] 59)).alloc (.cells #[.int .i64 ((p : Int) + 1), .int .i64 xk] 2)).alloc (.cells #[.int .i64 xk, .int .i64 ((p : Int) + 1)] 2)).heap[w.heap.size]? = some (.cells #[.string f.name, .int .i64 f.ps, .int .i64 f.rs, .slice (some ⟨b, o, none⟩) n f.cc] 24 (0, 0)) := (FR0.block _ (Array.getElem?_eq_some_iff.1 bx).1 (by simp)).trans bx
              have KN := two2 (((w.alloc (.cells #[.string f.name, .int .i64 f.ps, .int .i64 f.rs, .slice (some ⟨b, o, none⟩) n f.cc] 24)).alloc (.cells #[.int .i64 22, .int .i64 xa, .int .i64 xb, .int .i64 xc, .int .i64 xk, .slice xla xl.length xlc] 59)).alloc (.cells #[.int .i64 ((p : Int) + 1), .int .i64 xk] 2)) xk ((p : Int) + 1) (w.heap.size + 1 + 1 + 1) (by simp only [World.size_alloc])
              go_wp2
              generalize (((w.alloc (.cells #[.string f.name, .int .i64 f.ps, .int .i64 f.rs, .slice (some ⟨b, o, none⟩) n f.cc] 24)).alloc (.cells #[.int .i64 22, .int .i64 xa, .int .i64 xb, .int .i64 xc, .int .i64 xk, .slice xla xl.length xlc] 59)).alloc (.cells #[.int .i64 ((p : Int) + 1), .int .i64 xk] 2)).alloc (.cells #[.int .i64 xk, .int .i64 ((p : Int) + 1)] 2) = W2 at *
              obtain ⟨ns, hn0⟩ : ∃ ns, ns = [xk, ((p : Int) + 1)] := ⟨_, rfl⟩
              have hns : ns.length = 2 := by rw [hn0]; rfl
              rw [← hn0] at KN HFIN
              clear hn0 FR0
              have HNS : Hid (ns.length = 2) := hns
              clear hns
              go_loopw [7, 62] (fun v k wr => ∃ p' : Nat, p' ≤ 2 ∧ k = .int .i64 p' ∧ OR wr W2.heap.size v (keepN n (ns.take p')) ∧ Fr [] W2 wr) (fun _ k _ => 2 - (intOf k).toNat)
              case atStart => exact ⟨0, Nat.zero_le _, rfl, by simpa [keepN] using OR.nil _ _, Fr.refl _ _⟩
              case round =>
                obtain ⟨p', hp', rfl, ho, Fw⟩ := hrel
                have HFw : Hid (Fr [] W2 wr) := Fw
                by_cases hlt : p' < 2
                · have hlt' : p' < ns.length := by rw [HNS.out]; exact hlt
                  have HLT : Hid (p' < 2) := hlt
                  have hltI : (p' : Int) < 2 := by omega
                  clear hlt
                  have hx : ns[p']? = some (ns[p']'hlt') := List.getElem?_eq_getElem _
                  have HTK : Hid (keepN n (ns.take (p' + 1)) = keepN n (ns.take p') ++ (if inN n (ns[p']'hlt') then [ns[p']'hlt'] else [])) := by
                    unfold Hid
                    have h1 : ns.take (p' + 1) = ns.take p' ++ [ns[p']'hlt'] := by rw [List.take_add_one, hx]; rfl
                    rw [h1, keepN_snoc]
                  have HKT : Hid ((keepN n (ns.take p')).length ≤ 2) := by have := keepN_len n (ns.take p'); have h2 := HNS.out; simp at this; unfold Hid; omega
                  obtain ⟨b', o', hgk, hb', hc⟩ := (KN.fr Fw (by simp)) p' _ hx
                  injection hgk with hgk
                  injection hgk with hg1 hg2
                  subst hg1 hg2
                  simp only [Nat.zero_add] at hc
                  generalize ns[p']'hlt' = k at *
                  clear hx hlt'
                  have bw := (Fw.block _ (Array.getElem?_eq_some_iff.1 LB).1 (by simp)).trans LB
                  obtain ⟨a5, c5, hv, hlc, hnil⟩ := ho.slice
                  subst hv
                  have hlo := ho.lt
                  have q3 : wr.cell? ⟨w.heap.size, 3, none⟩ = some (.slice (some ⟨b, o, none⟩) n f.cc) := at_cells bw 3 rfl
                  have hszw : Hid (W2.heap.size ≤ wr.heap.size) := Fw.size
                  have HO : Hid (OR wr W2.heap.size (.slice a5 (keepN n (ns.take p')).length c5) (keepN n (ns.take p'))) := ho
                  unfold OR at ho
                  generalize keepN n (ns.take p') = K at *
                  have hKI : (K.length : Int) ≤ 2 := by have := HKT.out; omega
                  clear bw
                  by_cases h0 : 0 ≤ k
                  · by_cases h1 : k < n
                    · have HIN : Hid (inN n k = true) := by unfold Hid; simp [inN, h0, h1]
                      go_wp2_with (at_builtin; refine wpList_append_src _ rfl _ _ 30 rfl W2.heap.size 3 i3' (.int .i64 0) 1 8 Tryd.underlying30 hi hz hz1 hby rfl (by decide) (.slice a5 K.length c5) K.length (K.map (Value.int .i64)) rfl (ho.alloc _) (some ⟨wr.heap.size, 0, none⟩) 1 1 [.int .i64 k] rfl rfl (by simp) (fun ad h => by cases h; exact one_new wr _) (by simp [Value.oneCell']) (by unfold maxLen; omega) (by omega) (by have := hszw.out; simp; omega) ?_)
                      intro v3 w3 ho3 hg hl
                      have f3 : Fr (Value.slice a5 K.length c5).ownBlock.toList wr w3 := ((Fr.refl _ _).alloc _).trans (Fr.ofGrown hg)
                      have O3 : OR w3 W2.heap.size v3 (keepN n (ns.take (p' + 1))) := by unfold OR; rw [HTK.out, HIN.out]; simpa using ho3
                      have F3 : Fr [] W2 w3 := ((HFw.out.sub (T := (Value.slice a5 K.length c5).ownBlock.toList) (by simp)).trans f3).sub (fun k hk => .inr (hlo k (by simpa using hk)).1)
                      clear ho3 hg hl f3 ho hlo
                      go_wp2
                      go_roundw
                      case rel => exact ⟨p' + 1, HLT.out, by go_num, O3, F3⟩
                      case measure => simp [intOf]; omega
                    · have HIN : Hid (keepN n (ns.take (p' + 1)) = K) := by unfold Hid; rw [HTK.out]; simp [inN, h1]
                      clear ho hlo
                      go_wp2
                      go_roundw
                      case rel => exact ⟨p' + 1, HLT.out, by go_num, by rw [HIN.out]; exact HO.out, HFw.out⟩
                      case measure => simp [intOf]; omega
                  · have HIN : Hid (keepN n (ns.take (p' + 1)) = K) := by unfold Hid; rw [HTK.out]; simp [inN, h0]
                    have h0' : decide (0 ≤ k) = false := by simpa using h0
                    clear ho hlo
                    go_wp2
                    go_roundw
                    case rel => exact ⟨p' + 1, HLT.out, by go_num, by rw [HIN.out]; exact HO.out, HFw.out⟩
                    case measure => simp [intOf]; omega
                · have HE : Hid (ns.take p' = ns) := List.take_of_length_le (by rw [HNS.out]; omega)
                  have HO : Hid (OR wr W2.heap.size u7 (keepN n (ns.take p'))) := ho
                  clear ho
                  go_wp2
                  go_ret
                  refine ⟨u7, rfl, ?_, FW2.out.trans HFw.out⟩
                  have h5 := own_low HO.out FW2.out.size
                  rw [HE.out] at h5
                  rw [HFIN.out]
                  exact h5
            · have hq0 : decide (xk ≤ (p : Int)) = false := by simpa using e6
              have HFIN : Hid (rnextL f.code (p : Int) = keepN n [((p : Int) + 1), xk]) := by unfold Hid; rw [HN.out]; simp [rnext1, e5, e6]
              clear HN
              have FR0 : Fr [] (w.alloc (.cells #[.string f.name, .int .i64 f.ps, .int .i64 f.rs, .slice (some ⟨b, o, none⟩) n f.cc] 24)) (((w.alloc (.cells #[.string f.name, .int .i64 f.ps, .int .i64 f.rs, .slice (some ⟨b, o, none⟩) n f.cc] 24)).alloc (.cells #[.int .i64 22, .int .i64 xa, .int .i64 xb, .int .i64 xc, .int .i64 xk, .slice xla xl.length xlc] 59)).alloc (.cells #[.int .i64 ((p : Int) + 1), .int .i64 xk] 2)) := ((Fr.refl [] _).alloc _).alloc _
              have FW2 : Hid (Fr [] w (((w.alloc (.cells #[.string f.name, .int .i64 f.ps, .int .i64 f.rs, .slice (some ⟨b, o, none⟩) n f.cc] 24)).alloc (.cells #[.int .i64 22, .int .i64 xa, .int .i64 xb, .int .i64 xc, .int .i64 xk, .slice xla xl.length xlc] 59)).alloc (.cells #[.int .i64 ((p : Int) + 1), .int .i64 xk] 2))) := ((HF0.out.alloc _).alloc _)
              have LB : (((w.alloc (.cells #[.string f.name, .int .i64 f.ps, .int .i64 f.rs, .slice (some ⟨b, o, none⟩) n f.cc] 24)).alloc (.cells #[.int .i64 22, .int .i64 xa, .int .i64 xb, .int .i64 xc, .int .i64 xk, .slice xla xl.length xlc] 59)).alloc (.cells #[.int .i64 ((p : Int) + 1), .int .i64 xk] 2)).heap[w.heap.size]? = some (.cells #[.string f.name, .int .i64 f.ps, .int .i64 f.rs, .slice (some ⟨b, o, none⟩) n f.cc] 24 (0, 0)) := (FR0.block _ (Array.getElem?_eq_some_iff.1 bx).1 (by simp)).trans bx
              have KN := two2 ((w.alloc (.cells #[.string f.name, .int .i64 f.ps, .int .i64 f.rs, .slice (some ⟨b, o, none⟩) n f.cc] 24)).alloc (.cells #[.int .i64 22, .int .i64 xa, .int .i64 xb, .int .i64 xc, .int .i64 xk, .slice xla xl.length xlc] 59)) ((p : Int) + 1) xk (w.heap.size + 1 + 1) (by simp only [World.size_alloc])
              go_wp2
              generalize ((w.alloc (.cells #[.string f.name, .int .i64 f.ps, .int .i64 f.rs, .slice (some ⟨b, o, none⟩) n f.cc] 24)).alloc (.cells #[.int .i64 22, .int .i64 xa, .int .i64 xb, .int .i64 xc, .int .i64 xk, .slice xla xl.length xlc] 59)).alloc (.cells #[.int .i64 ((p : Int) + 1), .int .i64 xk] 2) = W2 at *
              obtain ⟨ns, hn0⟩ : ∃ ns, ns = [((p : Int) + 1), xk] := ⟨_, rfl⟩
              have hns : ns.length = 2 := by rw [hn0]; rfl
              rw [← hn0] at KN HFIN
              clear hn0 FR0
              have HNS : Hid (ns.length = 2) := hns
              clear hns
              go_loopw [7, 62] (fun v k wr => ∃ p' : Nat, p' ≤ 2 ∧ k = .int .i64 p' ∧ OR wr W2.heap.size v (keepN n (ns.take p')) ∧ Fr [] W2 wr) (fun _ k _ => 2 - (intOf k).toNat)
              case atStart => exact ⟨0, Nat.zero_le _, rfl, by simpa [keepN] using OR.nil _ _, Fr.refl _ _⟩
              case round =>
                obtain ⟨p', hp', rfl, ho, Fw⟩ := hrel
                have HFw : Hid (Fr [] W2 wr) := Fw
                by_cases hlt : p' < 2
                · have hlt' : p' < ns.length := by rw [HNS.out]; exact hlt
                  have HLT : Hid (p' < 2) := hlt
                  have hltI : (p' : Int) < 2 := by omega
                  clear hlt
                  have hx : ns[p']? = some (ns[p']'hlt') := List.getElem?_eq_getElem _
                  have HTK : Hid (keepN n (ns.take (p' + 1)) = keepN n (ns.take p') ++ (if inN n (ns[p']'hlt') then [ns[p']'hlt'] else [])) := by
                    unfold Hid
                    have h1 : ns.take (p' + 1) = ns.take p' ++ [ns[p']'hlt'] := by rw [List.take_add_one, hx]; rfl
                    rw [h1, keepN_snoc]
                  have HKT : Hid ((keepN n (ns.take p')).length ≤ 2) := by have := keepN_len n (ns.take p'); have h2 := HNS.out; simp at this; unfold Hid; omega
                  obtain ⟨b', o', hgk, hb', hc⟩ := (KN.fr Fw (by simp)) p' _ hx
                  injection hgk with hgk
                  injection hgk with hg1 hg2
                  subst hg1 hg2
                  simp only [Nat.zero_add] at hc
                  generalize ns[p']'hlt' = k at *
                  clear hx hlt'
                  have bw := (Fw.block _ (Array.getElem?_eq_some_iff.1 LB).1 (by simp)).trans LB
                  obtain ⟨a5, c5, hv, hlc, hnil⟩ := ho.slice
                  subst hv
                  have hlo := ho.lt
                  have q3 : wr.cell? ⟨w.heap.size, 3, none⟩ = some (.slice (some ⟨b, o, none⟩) n f.cc) := at_cells bw 3 rfl
                  have hszw : Hid (W2.heap.size ≤ wr.heap.size) := Fw.size
                  have HO : Hid (OR wr W2.heap.size (.slice a5 (keepN n (ns.take p')).length c5) (keepN n (ns.take p'))) := ho
                  unfold OR at ho
                  generalize keepN n (ns.take p') = K at *
                  have hKI : (K.length : Int) ≤ 2 := by have := HKT.out; omega
                  clear bw
                  by_cases h0 : 0 ≤ k
                  · by_cases h1 : k < n
                    · have HIN : Hid (inN n k = true) := by unfold Hid; simp [inN, h0, h1]
                      go_wp2_with (at_builtin; refine wpList_append_src _ rfl _ _ 30 rfl W2.heap.size 3 i3' (.int .i64 0) 1 8 Tryd.underlying30 hi hz hz1 hby rfl (by decide) (.slice a5 K.length c5) K.length (K.map (Value.int .i64)) rfl (ho.alloc _) (some ⟨wr.heap.size, 0, none⟩) 1 1 [.int .i64 k] rfl rfl (by simp) (fun ad h => by cases h; exact one_new wr _) (by simp [Value.oneCell']) (by unfold maxLen; omega) (by omega) (by have := hszw.out; simp; omega) ?_)
                      intro v3 w3 ho3 hg hl
                      have f3 : Fr (Value.slice a5 K.length c5).ownBlock.toList wr w3 := ((Fr.refl _ _).alloc _).trans (Fr.ofGrown hg)
                      have O3 : OR w3 W2.heap.size v3 (keepN n (ns.take (p' + 1))) := by unfold OR; rw [HTK.out, HIN.out]; simpa using ho3
                      have F3 : Fr [] W2 w3 := ((HFw.out.sub (T := (Value.slice a5 K.length c5).ownBlock.toList) (by simp)).trans f3).sub (fun k hk => .inr (hlo k (by simpa using hk)).1)
                      clear ho3 hg hl f3 ho hlo
                      go_wp2
                      go_roundw
                      case rel => exact ⟨p' + 1, HLT.out, by go_num, O3, F3⟩
                      case measure => simp [intOf]; omega
                    · have HIN : Hid (keepN n (ns.take (p' + 1)) = K) := by unfold Hid; rw [HTK.out]; simp [inN, h1]
                      clear ho hlo
                      go_wp2
                      go_roundw
                      case rel => exact ⟨p' + 1, HLT.out, by go_num, by rw [HIN.out]; exact HO.out, HFw.out⟩
                      case measure => simp [intOf]; omega
                  · have HIN : Hid (keepN n (ns.take (p' + 1)) = K) := by unfold Hid; rw [HTK.out]; simp [inN, h0]
                    have h0' : decide (0 ≤ k) = false := by simpa using h0
                    clear ho hlo
                    go_wp2
                    go_roundw
                    case rel => exact ⟨p' + 1, HLT.out, by go_num, by rw [HIN.out]; exact HO.out, HFw.out⟩
                    case measure => simp [intOf]; omega
                · have HE : Hid (ns.take p' = ns) := List.take_of_length_le (by rw [HNS.out]; omega)
                  have HO : Hid (OR wr W2.heap.size u7 (keepN n (ns.take p'))) := ho
                  clear ho
                  go_wp2
                  go_ret
                  refine ⟨u7, rfl, ?_, FW2.out.trans HFw.out⟩
                  have h5 := own_low HO.out FW2.out.size
                  rw [HE.out] at h5
                  rw [HFIN.out]
                  exact h5
        · have d2 : (xop == 22) = false := beq_int_false e2
          by_cases e3 : xop = 24
          · subst e3
            have HFIN : Hid (rnextL f.code (p : Int) = []) := by unfold Hid; rw [HN.out]; rfl
            clear HN 
            have FW2 : Hid (Fr [] w ((w.alloc (.cells #[.string f.name, .int .i64 f.ps, .int .i64 f.rs, .slice (some ⟨b, o, none⟩) n f.cc] 24)).alloc (.cells #[.int .i64 24, .int .i64 xa, .int .i64 xb, .int .i64 xc, .int .i64 xk, .slice xla xl.length xlc] 59))) := HF0.out.alloc _
            go_wp2
            generalize (w.alloc (.cells #[.string f.name, .int .i64 f.ps, .int .i64 f.rs, .slice (some ⟨b, o, none⟩) n f.cc] 24)).alloc (.cells #[.int .i64 24, .int .i64 xa, .int .i64 xb, .int .i64 xc, .int .i64 xk, .slice xla xl.length xlc] 59) = W2 at *
            go_loopw [7, 62] (fun v k wr => k = .int .i64 0 ∧ v = .slice none 0 0 ∧ wr = W2) (fun _ k _ => 0)
            case atStart => exact ⟨rfl, rfl, rfl⟩
            case round =>
              obtain ⟨rfl, rfl, rfl⟩ := hrel
              go_wp2
              go_ret
              exact ⟨_, rfl, by rw [HFIN.out]; exact OR.nil _ _, FW2.out⟩
          · have d3 : (xop == 24) = false := beq_int_false e3
            by_cases e4 : xop = 25
            · subst e4
              have HFIN : Hid (rnextL f.code (p : Int) = []) := by unfold Hid; rw [HN.out]; rfl
              clear HN 
              have FW2 : Hid (Fr [] w ((w.alloc (.cells #[.string f.name, .int .i64 f.ps, .int .i64 f.rs, .slice (some ⟨b, o, none⟩) n f.cc] 24)).alloc (.cells #[.int .i64 25, .int .i64 xa, .int .i64 xb, .int .i64 xc, .int .i64 xk, .slice xla xl.length xlc] 59))) := HF0.out.alloc _
              go_wp2
              generalize (w.alloc (.cells #[.string f.name, .int .i64 f.ps, .int .i64 f.rs, .slice (some ⟨b, o, none⟩) n f.cc] 24)).alloc (.cells #[.int .i64 25, .int .i64 xa, .int .i64 xb, .int .i64 xc, .int .i64 xk, .slice xla xl.length xlc] 59) = W2 at *
              go_loopw [7, 62] (fun v k wr => k = .int .i64 0 ∧ v = .slice none 0 0 ∧ wr = W2) (fun _ k _ => 0)
              case atStart => exact ⟨rfl, rfl, rfl⟩
              case round =>
                obtain ⟨rfl, rfl, rfl⟩ := hrel
                go_wp2
                go_ret
                exact ⟨_, rfl, by rw [HFIN.out]; exact OR.nil _ _, FW2.out⟩
            · have d4 : (xop == 25) = false := beq_int_false e4
              have HFIN : Hid (rnextL f.code (p : Int) = keepN n [(p : Int) + 1]) := by unfold Hid; rw [HN.out]; simp [rnext1, e1, e2, e3, e4]
              clear HN e1 e2 e3 e4
              have FW2 : Hid (Fr [] w (((w.alloc (.cells #[.string f.name, .int .i64 f.ps, .int .i64 f.rs, .slice (some ⟨b, o, none⟩) n f.cc] 24)).alloc (.cells #[.int .i64 xop, .int .i64 xa, .int .i64 xb, .int .i64 xc, .int .i64 xk, .slice xla xl.length xlc] 59)).alloc (.cells #[.int .i64 ((p : Int) + 1)] 2))) := (HF0.out.alloc _).alloc _
              have LB : (((w.alloc (.cells #[.string f.name, .int .i64 f.ps, .int .i64 f.rs, .slice (some ⟨b, o, none⟩) n f.cc] 24)).alloc (.cells #[.int .i64 xop, .int .i64 xa, .int .i64 xb, .int .i64 xc, .int .i64 xk, .slice xla xl.length xlc] 59)).alloc (.cells #[.int .i64 ((p : Int) + 1)] 2)).heap[w.heap.size]? = some (.cells #[.string f.name, .int .i64 f.ps, .int .i64 f.rs, .slice (some ⟨b, o, none⟩) n f.cc] 24 (0, 0)) := (((Fr.refl [] _).alloc _).alloc _ |>.block _ (Array.getElem?_eq_some_iff.1 bx).1 (by simp)).trans bx
              have KN := one2 ((w.alloc (.cells #[.string f.name, .int .i64 f.ps, .int .i64 f.rs, .slice (some ⟨b, o, none⟩) n f.cc] 24)).alloc (.cells #[.int .i64 xop, .int .i64 xa, .int .i64 xb, .int .i64 xc, .int .i64 xk, .slice xla xl.length xlc] 59)) ((p : Int) + 1) (w.heap.size + 1 + 1) (by simp only [World.size_alloc])
              go_wp2
              generalize ((w.alloc (.cells #[.string f.name, .int .i64 f.ps, .int .i64 f.rs, .slice (some ⟨b, o, none⟩) n f.cc] 24)).alloc (.cells #[.int .i64 xop, .int .i64 xa, .int .i64 xb, .int .i64 xc, .int .i64 xk, .slice xla xl.length xlc] 59)).alloc (.cells #[.int .i64 ((p : Int) + 1)] 2) = W2 at *
              obtain ⟨ns, hn0⟩ : ∃ ns, ns = [(p : Int) + 1] := ⟨_, rfl⟩
              have hns : ns.length = 1 := by rw [hn0]; rfl
              rw [← hn0] at KN HFIN
              clear hn0
              have HNS : Hid (ns.length = 1) := hns
              clear hns
              go_loopw [7, 62] (fun v k wr => ∃ p' : Nat, p' ≤ 1 ∧ k = .int .i64 p' ∧ OR wr W2.heap.size v (keepN n (ns.take p')) ∧ Fr [] W2 wr) (fun _ k _ => 1 - (intOf k).toNat)
              case atStart => exact ⟨0, Nat.zero_le _, rfl, by simpa [keepN] using OR.nil _ _, Fr.refl _ _⟩
              case round =>
                obtain ⟨p', hp', rfl, ho, Fw⟩ := hrel
                have HFw : Hid (Fr [] W2 wr) := Fw
                by_cases hlt : p' < 1
                · have hlt' : p' < ns.length := by rw [HNS.out]; exact hlt
                  have HLT : Hid (p' < 1) := hlt
                  have hltI : (p' : Int) < 1 := by omega
                  clear hlt
                  have hx : ns[p']? = some (ns[p']'hlt') := List.getElem?_eq_getElem _
                  have HTK : Hid (keepN n (ns.take (p' + 1)) = keepN n (ns.take p') ++ (if inN n (ns[p']'hlt') then [ns[p']'hlt'] else [])) := by
                    unfold Hid
                    have h1 : ns.take (p' + 1) = ns.take p' ++ [ns[p']'hlt'] := by rw [List.take_add_one, hx]; rfl
                    rw [h1, keepN_snoc]
                  have HKT : Hid ((keepN n (ns.take p')).length ≤ 2) := by have := keepN_len n (ns.take p'); have h2 := HNS.out; simp at this; unfold Hid; omega
                  obtain ⟨b', o', hgk, hb', hc⟩ := (KN.fr Fw (by simp)) p' _ hx
                  injection hgk with hgk
                  injection hgk with hg1 hg2
                  subst hg1 hg2
                  simp only [Nat.zero_add] at hc
                  generalize ns[p']'hlt' = k at *
                  clear hx hlt'
                  have bw := (Fw.block _ (Array.getElem?_eq_some_iff.1 LB).1 (by simp)).trans LB
                  obtain ⟨a5, c5, hv, hlc, hnil⟩ := ho.slice
                  subst hv
                  have hlo := ho.lt
                  have q3 : wr.cell? ⟨w.heap.size, 3, none⟩ = some (.slice (some ⟨b, o, none⟩) n f.cc) := at_cells bw 3 rfl
                  have hszw : Hid (W2.heap.size ≤ wr.heap.size) := Fw.size
                  have HO : Hid (OR wr W2.heap.size (.slice a5 (keepN n (ns.take p')).length c5) (keepN n (ns.take p'))) := ho
                  unfold OR at ho
                  generalize keepN n (ns.take p') = K at *
                  have hKI : (K.length : Int) ≤ 2 := by have := HKT.out; omega
                  clear bw
                  by_cases h0 : 0 ≤ k
                  · by_cases h1 : k < n
                    · have HIN : Hid (inN n k = true) := by unfold Hid; simp [inN, h0, h1]
                      go_wp2_with (at_builtin; refine wpList_append_src _ rfl _ _ 30 rfl W2.heap.size 3 i3' (.int .i64 0) 1 8 Tryd.underlying30 hi hz hz1 hby rfl (by decide) (.slice a5 K.length c5) K.length (K.map (Value.int .i64)) rfl (ho.alloc _) (some ⟨wr.heap.size, 0, none⟩) 1 1 [.int .i64 k] rfl rfl (by simp) (fun ad h => by cases h; exact one_new wr _) (by simp [Value.oneCell']) (by unfold maxLen; omega) (by omega) (by have := hszw.out; simp; omega) ?_)
                      intro v3 w3 ho3 hg hl
                      have f3 : Fr (Value.slice a5 K.length c5).ownBlock.toList wr w3 := ((Fr.refl _ _).alloc _).trans (Fr.ofGrown hg)
                      have O3 : OR w3 W2.heap.size v3 (keepN n (ns.take (p' + 1))) := by unfold OR; rw [HTK.out, HIN.out]; simpa using ho3
                      have F3 : Fr [] W2 w3 := ((HFw.out.sub (T := (Value.slice a5 K.length c5).ownBlock.toList) (by simp)).trans f3).sub (fun k hk => .inr (hlo k (by simpa using hk)).1)
                      clear ho3 hg hl f3 ho hlo
                      go_wp2
                      go_roundw
                      case rel => exact ⟨p' + 1, HLT.out, by go_num, O3, F3⟩
                      case measure => simp [intOf]; omega
                    · have HIN : Hid (keepN n (ns.take (p' + 1)) = K) := by unfold Hid; rw [HTK.out]; simp [inN, h1]
                      clear ho hlo
                      go_wp2
                      go_roundw
                      case rel => exact ⟨p' + 1, HLT.out, by go_num, by rw [HIN.out]; exact HO.out, HFw.out⟩
                      case measure => simp [intOf]; omega
                  · have HIN : Hid (keepN n (ns.take (p' + 1)) = K) := by unfold Hid; rw [HTK.out]; simp [inN, h0]
                    have h0' : decide (0 ≤ k) = false := by simpa using h0
                    clear ho hlo
                    go_wp2
                    go_roundw
                    case rel => exact ⟨p' + 1, HLT.out, by go_num, by rw [HIN.out]; exact HO.out, HFw.out⟩
                    case measure => simp [intOf]; omega
                · have HE : Hid (ns.take p' = ns) := List.take_of_length_le (by rw [HNS.out]; omega)
                  have HO : Hid (OR wr W2.heap.size u7 (keepN n (ns.take p'))) := ho
                  clear ho
                  go_wp2
                  go_ret
                  refine ⟨u7, rfl, ?_, FW2.out.trans HFw.out⟩
                  have h5 := own_low HO.out FW2.out.size
                  rw [HE.out] at h5
                  rw [HFIN.out]
                  exact h5

end Go.Proofs.YtajdnakpljgkpaaDoor
