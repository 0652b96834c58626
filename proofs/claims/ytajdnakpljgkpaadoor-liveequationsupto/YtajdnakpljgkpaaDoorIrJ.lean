/-
  Where a function may go on behind one of its instructions, by the program; conditions: the function lies as told.
-/
import Derived.Test.YtajdnakpljgkpaaDoorIrI
namespace Go.Proofs.YtajdnakpljgkpaaDoor
open Go.RowKit
set_option linter.unusedVariables false
set_option linter.unusedSimpArgs false

/-- Those of some numbers that are places. -/
def inN (n : Nat) (k : Int) : Bool := decide (0 ≤ k ∧ k < n)
def keepN (n : Nat) (l : List Int) : List Int := l.filter (inN n)
theorem keepN_snoc (n : Nat) (l : List Int) (k : Int) : keepN n (l ++ [k]) = keepN n l ++ (if inN n k then [k] else []) := by
  simp [keepN, List.filter_append, List.filter_cons]
theorem keepN_len (n : Nat) (l : List Int) : (keepN n l).length ≤ l.length := List.length_filter_le _ _

set_option maxRecDepth 100000 in
set_option maxHeartbeats 4000000 in
theorem places_any (f : Fu) (ns : List Int) (hns : ns.length ≤ 2) (B : Nat) (a : Option Addr) (c : Nat) (w : World) (hk : KAt B w a ns) (hB : B ≤ w.heap.size) (hcl : f.code.length ≤ 20000000000000) :
    Calls Tryd.prog 49 #[.agg f.arr, .slice a ns.length c] w fun e w' => ∃ v, e = .returned v ∧ OR w' w.heap.size v (dd2 (srt2 (keepN f.code.length ns))) ∧ Fr [] w w' := by
  obtain ⟨i3, hi, hz, hz1, hby⟩ := info_parts info3
  have F0 : Fr [] w (w.alloc (.cells f.arr 24)) := (Fr.refl _ _).alloc _
  have bx : (w.alloc (.cells f.arr 24)).heap[w.heap.size]? = some (.cells f.arr 24 (0, 0)) := heap_alloc_new w _
  have HKT : ∀ p, Hid ((keepN f.code.length (ns.take p)).length ≤ 2) := fun p => by have := keepN_len f.code.length (ns.take p); simp at this; unfold Hid; omega
  have HK0 : Hid (KAt B w a ns) := hk
  have HB : Hid (B ≤ w.heap.size) := hB
  have hnl : (ns.length : Int) ≤ 2 := by omega
  have hclI : (f.code.length : Int) ≤ 20000000000000 := by omega
  have HNL : Hid (ns.length = ns.length) := rfl
  unfold Fu.arr at *
  clear hk hB hcl
  go_enter Tryd.func49, Tryd.ntmps49
  go_wp2
  generalize w.alloc (.cells #[.string f.name, .int .i64 f.ps, .int .i64 f.rs, .slice f.ca f.code.length f.cc] 24) = W0 at *
  go_loopw [5, 10] (fun v k wr => ∃ p : Nat, p ≤ ns.length ∧ k = .int .i64 p ∧ OR wr w.heap.size v (keepN f.code.length (ns.take p)) ∧ Fr [] w wr ∧ wr.heap[w.heap.size]? = some (.cells #[.string f.name, .int .i64 f.ps, .int .i64 f.rs, .slice f.ca f.code.length f.cc] 24 (0, 0))) (fun _ k _ => ns.length - (intOf k).toNat)
  case atStart => exact ⟨0, Nat.zero_le _, rfl, by simpa [keepN] using OR.nil _ _, F0, bx⟩
  case round =>
    obtain ⟨p, hp, rfl, ho, Fw, bw⟩ := hrel
    clear F0 bx
    have HFw : Hid (Fr [] w wr) := Fw
    by_cases hlt : p < ns.length
    · have hx : ns[p]? = some ns[p] := List.getElem?_eq_getElem hlt
      have HTK : Hid (keepN f.code.length (ns.take (p + 1)) = keepN f.code.length (ns.take p) ++ (if inN f.code.length ns[p] then [ns[p]] else [])) := by
        unfold Hid
        have h1 : ns.take (p + 1) = ns.take p ++ [ns[p]] := by rw [List.take_add_one, hx]; rfl
        rw [h1, keepN_snoc]
      obtain ⟨b, o, rfl, hb, hc⟩ := (HK0.out.fr Fw (by simp)) p _ hx
      generalize ns[p] = k at *
      clear hx
      obtain ⟨a5, c5, hv, hlc, hnil⟩ := ho.slice
      subst hv
      have n0 : (Value.slice a5 (keepN f.code.length (ns.take p)).length c5).ownBlock ≠ some w.heap.size := own_ne ho bw (by decide)
      have hlo := ho.lt
      have hKl := HKT p
      have q3 : wr.cell? ⟨w.heap.size, 3, none⟩ = some (.slice f.ca f.code.length f.cc) := at_cells bw 3 rfl
      have hszw : Hid (w.heap.size ≤ wr.heap.size) := Fw.size
      have HO : Hid (OR wr w.heap.size (.slice a5 (keepN f.code.length (ns.take p)).length c5) (keepN f.code.length (ns.take p))) := ho
      unfold OR at ho
      generalize keepN f.code.length (ns.take p) = K at *
      have hKI : (K.length : Int) ≤ 2 := by have := hKl.out; omega
      by_cases h0 : 0 ≤ k
      · by_cases h1 : k < f.code.length
        · have HIN : Hid (inN f.code.length k = true) := by unfold Hid; simp [inN, h0, h1]
          go_wp2_with (at_builtin; refine wpList_append_src _ rfl _ _ 30 rfl w.heap.size 3 i3 (.int .i64 0) 1 8 Tryd.underlying30 hi hz hz1 hby rfl (by decide) (.slice a5 K.length c5) K.length (K.map (Value.int .i64)) rfl (ho.alloc _) (some ⟨wr.heap.size, 0, none⟩) 1 1 [.int .i64 k] rfl rfl (by simp) (fun ad h => by cases h; exact one_new wr _) (by simp [Value.oneCell']) (by unfold maxLen; omega) (by omega) (by have := hszw.out; simp; omega) ?_)
          intro v3 w3 ho3 hg hl
          have f3 : Fr (Value.slice a5 K.length c5).ownBlock.toList wr w3 := ((Fr.refl _ _).alloc _).trans (Fr.ofGrown hg)
          have b3 := (f3.block _ (Array.getElem?_eq_some_iff.1 bw).1 (by simpa using n0)).trans bw
          have O3 : OR w3 w.heap.size v3 (keepN f.code.length (ns.take (p + 1))) := by unfold OR; rw [HTK.out, HIN.out]; simpa using ho3
          have F3 : Fr [] w w3 := ((HFw.out.sub (T := (Value.slice a5 K.length c5).ownBlock.toList) (by simp)).trans f3).sub (fun k hk => .inr (hlo k (by simpa using hk)).1)
          clear ho3 hg hl f3 ho n0 hlo
          go_wp2
          go_roundw
          case rel => exact ⟨p + 1, by omega, by go_num, O3, F3, b3⟩
          case measure => simp [intOf]; omega
        · have HIN : Hid (keepN f.code.length (ns.take (p + 1)) = K) := by unfold Hid; rw [HTK.out]; simp [inN, h1]
          clear ho n0 hlo
          go_wp2
          go_roundw
          case rel => exact ⟨p + 1, by omega, by go_num, by rw [HIN.out]; exact HO.out, HFw.out, bw⟩
          case measure => simp [intOf]; omega
      · have HIN : Hid (keepN f.code.length (ns.take (p + 1)) = K) := by unfold Hid; rw [HTK.out]; simp [inN, h0]
        have h0' : decide (0 ≤ k) = false := by simpa using h0
        clear ho n0 hlo
        go_wp2
        go_roundw
        case rel => exact ⟨p + 1, by omega, by go_num, by rw [HIN.out]; exact HO.out, HFw.out, bw⟩
        case measure => simp [intOf]; omega
    · have HE : Hid (ns.take p = ns) := List.take_of_length_le (by omega)
      rw [HE.out] at ho
      have HL2 : Hid ((keepN f.code.length ns).length ≤ 2) := by have := (HKT p).out; rw [HE.out] at this; exact this
      have C1 := fun w' h => sort_any w.heap.size u5 _ HL2.out w' h
      have C2 := fun w' h => compact_any w.heap.size u5 (srt2 (keepN f.code.length ns)) (by rw [srt2_len]; exact HL2.out) w' h
      have HBk : Hid (∀ k, u5.ownBlock = some k → w.heap.size ≤ k) := fun k hk => (ho.lt k hk).1
      have HO : Hid (OR wr w.heap.size u5 (keepN f.code.length ns)) := ho
      clear ho
      go_wp2_with fail
      refine (C1 _ HO.out).mono ?_
      rintro e w1 ⟨rfl, ho1, f1⟩
      have HO1 : Hid (OR w1 w.heap.size u5 (srt2 (keepN f.code.length ns))) := ho1
      clear C1 ho1
      go_wp2_with fail
      refine (C2 _ HO1.out).mono ?_
      rintro e w2 ⟨v, rfl, ho2, f2⟩
      have HO2 : Hid (OR w2 w.heap.size v (dd2 (srt2 (keepN f.code.length ns)))) := ho2
      clear C2 ho2
      go_wp2
      go_ret
      refine ⟨v, rfl, HO2.out, ?_⟩
      exact (((HFw.out.sub (T := u5.ownBlock.toList) (by simp)).trans f1).trans f2).sub (fun k hk => .inr (HBk.out k (by simpa using hk)))
end Go.Proofs.YtajdnakpljgkpaaDoor
