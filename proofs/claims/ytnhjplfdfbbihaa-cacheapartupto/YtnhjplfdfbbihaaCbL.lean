/-
  A cache is made; the next of the picks with the parts as they lie; condition: the picks lie as told.
-/
import Derived.Test.YtnhjplfdfbbihaaCbK
namespace Go.Proofs.Ytnhjplfdfbbihaa
open Go.RowKit Go.Shelf Go.Maps Go.ChangeShapes
set_option linter.unusedVariables false
set_option linter.unusedSimpArgs false
def limP (t : Int) : Nat := min t.toNat 1000
theorem limP_le (t : Int) : limP t ≤ 1000 := Nat.min_le_right _ _
theorem new_cp {w1 : World} {B m : Nat} {pv : Value} {pk : List Int} {lim : Nat} (hB : B ≤ w1.heap.size) (hf : pk.length * 8 ≤ 140737488355328) (ho : w1.ownsRow B 3 1 pv pk.length (pk.map (Value.int .i64))) :
    CA ((((w1.alloc (.map #[] 0)).alloc (.map #[] 0)).alloc (.map #[] 0)).alloc (.cells #[.int .i64 lim, pv, .map (some w1.heap.size), .slice none 0 0, .map (some (w1.heap.size + 1)), .map (some (w1.heap.size + 2)), .int .i64 0, .int .i64 0] 64)) B (w1.heap.size + 3) m [] ⟨lim, pk, [], [], 0, 0⟩ := by
  obtain ⟨pa, pcap, rfl, _⟩ := own_slice ho
  have f1 : Fr [] (w1.alloc (.map #[] 0)) ((((w1.alloc (.map #[] 0)).alloc (.map #[] 0)).alloc (.map #[] 0)).alloc (.cells #[.int .i64 lim, .slice pa pk.length pcap, .map (some w1.heap.size), .slice none 0 0, .map (some (w1.heap.size + 1)), .map (some (w1.heap.size + 2)), .int .i64 0, .int .i64 0] 64)) := (((Fr.refl _ _).alloc _).alloc _).alloc _
  have f2 : Fr [] ((w1.alloc (.map #[] 0)).alloc (.map #[] 0)) ((((w1.alloc (.map #[] 0)).alloc (.map #[] 0)).alloc (.map #[] 0)).alloc (.cells #[.int .i64 lim, .slice pa pk.length pcap, .map (some w1.heap.size), .slice none 0 0, .map (some (w1.heap.size + 1)), .map (some (w1.heap.size + 2)), .int .i64 0, .int .i64 0] 64)) := ((Fr.refl _ _).alloc _).alloc _
  have f3 : Fr [] (((w1.alloc (.map #[] 0)).alloc (.map #[] 0)).alloc (.map #[] 0)) ((((w1.alloc (.map #[] 0)).alloc (.map #[] 0)).alloc (.map #[] 0)).alloc (.cells #[.int .i64 lim, .slice pa pk.length pcap, .map (some w1.heap.size), .slice none 0 0, .map (some (w1.heap.size + 1)), .map (some (w1.heap.size + 2)), .int .i64 0, .int .i64 0] 64)) := (Fr.refl _ _).alloc _
  have f0 : Fr [] w1 ((((w1.alloc (.map #[] 0)).alloc (.map #[] 0)).alloc (.map #[] 0)).alloc (.cells #[.int .i64 lim, .slice pa pk.length pcap, .map (some w1.heap.size), .slice none 0 0, .map (some (w1.heap.size + 1)), .map (some (w1.heap.size + 2)), .int .i64 0, .int .i64 0] 64)) := ((Fr.refl _ _).alloc _).trans f1
  have h1 := (HM.empty w1).fr f1 (by simp)
  have h2 := (SM.empty (w1.alloc (.map #[] 0))).fr f2 (by simp)
  have h3 := (SM.empty ((w1.alloc (.map #[] 0)).alloc (.map #[] 0))).fr f3 (by simp)
  have hb := heap_alloc_new (((w1.alloc (.map #[] 0)).alloc (.map #[] 0)).alloc (.map #[] 0)) (.cells #[.int .i64 lim, .slice pa pk.length pcap, .map (some w1.heap.size), .slice none 0 0, .map (some (w1.heap.size + 1)), .map (some (w1.heap.size + 2)), .int .i64 0, .int .i64 0] 64)
  simp only [World.size_alloc] at h2 h3 hb
  rw [show w1.heap.size + 1 + 1 = w1.heap.size + 2 from rfl] at h3 hb
  rw [show w1.heap.size + 2 + 1 = w1.heap.size + 3 from rfl] at hb
  generalize (((w1.alloc (.map #[] 0)).alloc (.map #[] 0)).alloc (.map #[] 0)).alloc (.cells #[.int .i64 lim, .slice pa pk.length pcap, .map (some w1.heap.size), .slice none 0 0, .map (some (w1.heap.size + 1)), .map (some (w1.heap.size + 2)), .int .i64 0, .int .i64 0] 64) = W at *
  exact ⟨⟨pa, pcap, w1.heap.size, .slice none 0 0, w1.heap.size + 1, w1.heap.size + 2, hb, SL.own (own_fr ho f0 (by simp)) rfl hf, h1.more (Nat.zero_le _), World.ownsRow_nil _ _ _ _, h2.more (Nat.zero_le _), h3.more (Nat.zero_le _), by simp, by omega, by omega, by omega, by omega, hB, by omega, by omega⟩, rfl⟩
set_option maxRecDepth 100000 in
set_option maxHeartbeats 2000000 in
theorem new_any {w : World} {B m : Nat} {pa : Option Addr} {pcap : Nat} {pk : List Int} (t : Int) (hs : SL w B 3 pa pk.length pcap 1 8 (pk.map (Value.int .i64))) :
    Calls Try.prog 9 #[.int .i64 t, .slice pa pk.length pcap] w fun e w' => ∃ c, e = .returned (.pointer (some ⟨c, 0, none⟩)) ∧ CA w' w.heap.size c m [] ⟨limP t, pk, [], [], 0, 0⟩ ∧ Fr [] w w' := by
  have C := clone22 hs (fun u hu => by obtain ⟨x, _, rfl⟩ := List.mem_map.1 hu; rfl)
  have hmm := @run_makeMap Try.prog
  have HF : Hid (pk.length * 8 ≤ 140737488355328) := hs.fit
  clear hs
  by_cases h0 : t < 0
  · have e : limP t = 0 := by unfold limP; omega
    have e1 : max t 0 = 0 := by omega
    have e2 : min (0 : Int) 1000 = 0 := by decide
    rw [e]
    clear e
    go_enter Try.func9, Try.ntmps9
    go_wp2_with (go_at_call 22; refine C.mono ?_; rintro e w1 ⟨v, rfl, ho, f⟩; obtain ⟨va, vc, rfl, _⟩ := own_slice ho; have HO : Hid (w1.ownsRow w.heap.size 3 1 (.slice va pk.length vc) pk.length (pk.map (Value.int .i64)) ∧ Fr [] w w1) := ⟨ho, f⟩; clear ho f C)
    go_ret
    refine ⟨w1.heap.size + 3, by simp, by simpa using new_cp (m := m) (lim := 0) HO.out.2.size HF.out HO.out.1, ((((HO.out.2.alloc _).alloc _).alloc _).alloc _)⟩
  · by_cases h1 : t ≤ 1000
    · obtain ⟨k, rfl⟩ : ∃ k : Nat, t = k := ⟨t.toNat, by omega⟩
      have e : limP k = k := by unfold limP; omega
      have e1 : max (k : Int) 0 = k := by omega
      have e2 : min (k : Int) 1000 = k := by omega
      rw [e]
      clear e
      go_enter Try.func9, Try.ntmps9
      go_wp2_with (go_at_call 22; refine C.mono ?_; rintro e w1 ⟨v, rfl, ho, f⟩; obtain ⟨va, vc, rfl, _⟩ := own_slice ho; have HO : Hid (w1.ownsRow w.heap.size 3 1 (.slice va pk.length vc) pk.length (pk.map (Value.int .i64)) ∧ Fr [] w w1) := ⟨ho, f⟩; clear ho f C)
      go_ret
      refine ⟨w1.heap.size + 3, by simp, by simpa using new_cp (m := m) (lim := k) HO.out.2.size HF.out HO.out.1, ((((HO.out.2.alloc _).alloc _).alloc _).alloc _)⟩
    · have e : limP t = 1000 := by unfold limP; omega
      have e1 : max t 0 = t := by omega
      have e2 : min t 1000 = 1000 := by omega
      rw [e]
      clear e
      go_enter Try.func9, Try.ntmps9
      go_wp2_with (go_at_call 22; refine C.mono ?_; rintro e w1 ⟨v, rfl, ho, f⟩; obtain ⟨va, vc, rfl, _⟩ := own_slice ho; have HO : Hid (w1.ownsRow w.heap.size 3 1 (.slice va pk.length vc) pk.length (pk.map (Value.int .i64)) ∧ Fr [] w w1) := ⟨ho, f⟩; clear ho f C)
      go_ret
      refine ⟨w1.heap.size + 3, by simp, by simpa using new_cp (m := m) (lim := 1000) HO.out.2.size HF.out HO.out.1, ((((HO.out.2.alloc _).alloc _).alloc _).alloc _)⟩
set_option maxRecDepth 100000 in
theorem pick_cp {w : World} {B c : Nat} {pa : Option Addr} {pcap hb : Nat} {ov : Value} {fb lb lim : Nat} {pk : List Int} {last top n : Nat} {rs : List Rt} {ms : List Mb} {F L : Int → Int → Option Int} (hp : CP w B c pa pcap hb ov fb lb lim pk last top n rs ms F L) {m : Nat} (hm : 0 < m) (hm2 : m ≤ 1000) (hpw : ∀ x ∈ pk, W64 x) :
    Calls Try.prog 30 #[.pointer (some ⟨c, 0, none⟩), .int .i64 m] w fun e w' => e = .returned (.int .i64 (pickP pk m : Nat)) ∧ (∃ pa' pcap', CP w' B c pa' pcap' hb ov fb lb lim pk.tail last top n rs ms F L) ∧ Fr [c] w w' := by
  cases hpk : pk with
  | nil =>
    have hn : pk.length = 0 := by rw [hpk]; rfl
    have k1 : w.cell? ⟨c, 1, none⟩ = some (.slice pa 0 pcap) := at_cells hp.blk 1 (by rw [hpk]; rfl)
    have HF : Hid (CP w B c pa pcap hb ov fb lb lim [] last top n rs ms F L) := by rw [hpk] at hp; exact hp
    clear hp hpw
    go_enter Try.func30, Try.ntmps30
    go_wp2
    go_ret
    exact ⟨rfl, ⟨_, _, HF.out⟩, Fr.refl _ _⟩
  | cons p q =>
    have hpick := hp.pick
    rw [hpk] at hpick
    obtain ⟨b, o, rfl, hc0, _⟩ := hpick.cell 0 (.int .i64 p) rfl
    rw [Nat.add_zero] at hc0
    have hle : q.length + 1 ≤ pcap := hpick.le
    have k1 : w.cell? ⟨c, 1, none⟩ = some (.slice (some ⟨b, o, none⟩) (q.length + 1) pcap) := at_cells hp.blk 1 (by rw [hpk]; rfl)
    have z1 : w.frozen? ⟨c, 1, none⟩ = false := frz hp.blk
    have hql : ¬ ((q.length : Int) + 1 = 0) := by omega
    have hmI : ¬ ((m : Int) = 0) := by omega
    have HP : Hid (CP w B c (some ⟨b, o, none⟩) pcap hb ov fb lb lim pk last top n rs ms F L) := hp
    have HPK : Hid (pk = p :: q) := hpk
    have HI : Hid (SL w B 3 (some ⟨b, o, none⟩) (q.length + 1) pcap 1 8 (Value.int .i64 p :: q.map (Value.int .i64))) := hpick
    clear hp hpk hpick
    go_enter Try.func30, Try.ntmps30
    go_upto_region 4 with fail
    have hb1 := Int.tmod_lt_of_pos p (show (0 : Int) < m by omega)
    have hb2 := Int.lt_tmod_of_pos p (show (0 : Int) < m by omega)
    have HR : Hid (p.tmod m = p.tmod m ∧ True) := ⟨rfl, trivial⟩
    generalize hr : p.tmod m = r at hb1 hb2 ⊢
    have HPP : Hid ((pickP (p :: q) m : Int) = if r < 0 then r + m else r) := by
      show ((pickP (p :: q) m : Nat) : Int) = _
      unfold pickP
      simp only [hr]
      split <;> omega
    clear hr HR
    go_upto_region 5 with fail
    have f1 : Fr [c] w (w.setCell ⟨c, 1, none⟩ (.slice (if pcap = 1 then some ⟨b, o, none⟩ else some ⟨b, o + 1, none⟩) q.length (pcap - 1))) := (Fr.refl _ _).setCell (.inl (by simp)) _
    have hb1 := set_blk (i := 1) (v := .slice (if pcap = 1 then some ⟨b, o, none⟩ else some ⟨b, o + 1, none⟩) q.length (pcap - 1)) HP.out.blk
    have HP1 : Hid (CP (w.setCell ⟨c, 1, none⟩ (.slice (if pcap = 1 then some ⟨b, o, none⟩ else some ⟨b, o + 1, none⟩) q.length (pcap - 1))) B c (if pcap = 1 then some ⟨b, o, none⟩ else some ⟨b, o + 1, none⟩) (pcap - 1) hb ov fb lb lim q last top n rs ms F L) := HP.out.setBlk f1 hb1 (SL.tail2 (m := 0) HI.out) rfl
    have HG : Hid (Fr [c] w (w.setCell ⟨c, 1, none⟩ (.slice (if pcap = 1 then some ⟨b, o, none⟩ else some ⟨b, o + 1, none⟩) q.length (pcap - 1)))) := f1
    clear f1 hb1 k1 z1 hc0 HP HI
    generalize w.setCell ⟨c, 1, none⟩ (.slice (if pcap = 1 then some ⟨b, o, none⟩ else some ⟨b, o + 1, none⟩) q.length (pcap - 1)) = w1 at *
    generalize (if pcap = 1 then some (⟨b, o, none⟩ : Addr) else some ⟨b, o + 1, none⟩) = pa' at *
    generalize pcap - 1 = pcc at *
    by_cases hneg : r < 0
    · go_wp2
      go_ret
      refine ⟨?_, ⟨_, _, HP1.out⟩, HG.out⟩
      rw [HPP.out, if_pos (by omega)]; rfl
    · go_wp2
      go_ret
      refine ⟨?_, ⟨_, _, HP1.out⟩, HG.out⟩
      rw [HPP.out, if_neg (by omega)]; rfl
end Go.Proofs.Ytnhjplfdfbbihaa
