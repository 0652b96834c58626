/-
  The next of the picks, as a place; condition: the cache lies as told.
-/
import Derived.Test.YtnhjplfdfbbihaaCbG
namespace Go.Proofs.Ytnhjplfdfbbihaa
open Go.RowKit Go.Shelf Go.Maps Go.ChangeShapes
set_option linter.unusedVariables false
set_option linter.unusedSimpArgs false
theorem SL.tail1 {w : World} {B b o n c m y : Nat} {e : TypeId} {x : Value} {xs : List Value} (h : SL w B e (some ⟨b, o, none⟩) (n + 1) c 1 y (x :: xs)) : SL w B e (some ⟨b, o + 1, none⟩) n (c - 1) 1 y xs :=
  ⟨h.ro, by have := h.len; simp at this; omega, fun e => (by cases e), by have := h.le; omega, by have := h.fit; rw [Nat.add_mul] at this; omega, fun j u hu => by
    obtain ⟨b', o', e1, hc, hb⟩ := h.cell (j + 1) u (by simpa using hu)
    cases e1
    exact ⟨b, o + 1, rfl, by rw [show o + 1 + j = o + (j + 1) by omega]; exact hc, hb⟩⟩
theorem SL.tail2 {w : World} {B b o n c m y : Nat} {e : TypeId} {x : Value} {xs : List Value} (h : SL w B e (some ⟨b, o, none⟩) (n + 1) c 1 y (x :: xs)) : SL w B e (if c = 1 then some ⟨b, o, none⟩ else some ⟨b, o + 1, none⟩) n (c - 1) 1 y xs := by
  split
  · rename_i hc
    have hle := h.le
    have hl := h.len
    obtain rfl : n = 0 := by omega
    simp at hl
    subst hl
    exact ⟨h.ro, by simp, fun e => (by cases e), by omega, by simp, fun j u hu => by simp at hu⟩
  · exact h.tail1 (m := m)
set_option maxRecDepth 100000 in
theorem pick_any {w : World} {B c n : Nat} {rs : List Rt} {S : Bk} (h : CA w B c n rs S) {m : Nat} (hm : 0 < m) (hm2 : m ≤ 1000) (hpw : ∀ x ∈ S.pk, W64 x) :
    Calls Try.prog 30 #[.pointer (some ⟨c, 0, none⟩), .int .i64 m] w fun e w' => e = .returned (.int .i64 (pickP S.pk m : Nat)) ∧ CA w' B c n rs { S with pk := S.pk.tail } ∧ Gm B pP true w w' := by
  obtain ⟨pa, pcap, hb, ov, fb, lb, hp⟩ := h.ex
  have habs := h.abs
  cases hpk : S.pk with
  | nil =>
    have hn : S.pk.length = 0 := by rw [hpk]; rfl
    have k1 : w.cell? ⟨c, 1, none⟩ = some (.slice pa 0 pcap) := at_cells hp.blk 1 (by rw [hpk]; rfl)
    have HF : Hid (CA w B c n rs { S with pk := [] }) := by
      have : ({ S with pk := [] } : Bk) = S := by rw [← hpk]
      show CA w B c n rs _
      rw [this]; exact h
    clear hp h habs hpw
    go_enter Try.func30, Try.ntmps30
    go_wp2
    go_ret
    exact ⟨rfl, HF.out, Gm.refl _ _ _ _⟩
  | cons p q =>
    have hpick := hp.pick
    rw [hpk] at hpick
    obtain ⟨b, o, rfl, hc0, _⟩ := hpick.cell 0 (.int .i64 p) rfl
    rw [Nat.add_zero] at hc0
    have hle : q.length + 1 ≤ pcap := hpick.le
    have k1 : w.cell? ⟨c, 1, none⟩ = some (.slice (some ⟨b, o, none⟩) (q.length + 1) pcap) := at_cells hp.blk 1 (by rw [hpk]; rfl)
    have z1 : w.frozen? ⟨c, 1, none⟩ = false := frz hp.blk
    have hql : ¬ ((q.length : Int) + 1 = 0) := by omega
    have hmI : ¬ ((m : Int) = 0) := by omega
    have HP : Hid (CP w B c (some ⟨b, o, none⟩) pcap hb ov fb lb S.lim S.pk S.last S.top n rs (rs.map mb) (failsF S.notes) (linksF S.notes)) := hp
    have HPK : Hid (S.pk = p :: q) := hpk
    have HI : Hid (SL w B 3 (some ⟨b, o, none⟩) (q.length + 1) pcap 1 8 (Value.int .i64 p :: q.map (Value.int .i64))) := hpick
    have HA : Hid (rs.map absR = S.rows) := habs
    clear hp hpk hpick h habs
    go_enter Try.func30, Try.ntmps30
    go_upto_region 4 with fail
    have hb1 := Int.tmod_lt_of_pos p (show (0 : Int) < m by omega)
    have hb2 := Int.lt_tmod_of_pos p (show (0 : Int) < m by omega)
    have HR : Hid (p.tmod m = p.tmod m ∧ True) := ⟨rfl, trivial⟩
    generalize hr : p.tmod m = r at hb1 hb2 ⊢
    have HPP : Hid ((pickP (p :: q) m : Int) = if r < 0 then r + m else r) := by
      show ((pickP (p :: q) m : Nat) : Int) = _
      unfold pickP
      simp only [hr]
      split <;> omega
    clear hr HR
    go_upto_region 5 with fail
    have f1 : Fr [c] w (w.setCell ⟨c, 1, none⟩ (.slice (if pcap = 1 then some ⟨b, o, none⟩ else some ⟨b, o + 1, none⟩) q.length (pcap - 1))) := (Fr.refl _ _).setCell (.inl (by simp)) _
    have hb1 := set_blk (i := 1) (v := .slice (if pcap = 1 then some ⟨b, o, none⟩ else some ⟨b, o + 1, none⟩) q.length (pcap - 1)) HP.out.blk
    have HP1 : Hid (CP (w.setCell ⟨c, 1, none⟩ (.slice (if pcap = 1 then some ⟨b, o, none⟩ else some ⟨b, o + 1, none⟩) q.length (pcap - 1))) B c (if pcap = 1 then some ⟨b, o, none⟩ else some ⟨b, o + 1, none⟩) (pcap - 1) hb ov fb lb S.lim q S.last S.top n rs (rs.map mb) (failsF S.notes) (linksF S.notes)) := HP.out.setBlk f1 hb1 (SL.tail2 (m := 0) HI.out) rfl
    have HG : Hid (Gm B pP true w (w.setCell ⟨c, 1, none⟩ (.slice (if pcap = 1 then some ⟨b, o, none⟩ else some ⟨b, o + 1, none⟩) q.length (pcap - 1)))) := HP.out.gmBlk f1
    clear f1 hb1 k1 z1 hc0 HP HI
    generalize w.setCell ⟨c, 1, none⟩ (.slice (if pcap = 1 then some ⟨b, o, none⟩ else some ⟨b, o + 1, none⟩) q.length (pcap - 1)) = w1 at *
    generalize (if pcap = 1 then some (⟨b, o, none⟩ : Addr) else some ⟨b, o + 1, none⟩) = pa' at *
    generalize pcap - 1 = pcc at *
    by_cases hneg : r < 0
    · go_wp2
      go_ret
      refine ⟨?_, ⟨⟨_, _, _, _, _, _, HP1.out⟩, HA.out⟩, HG.out⟩
      rw [HPP.out, if_pos (by omega)]; rfl
    · go_wp2
      go_ret
      refine ⟨?_, ⟨⟨_, _, _, _, _, _, HP1.out⟩, HA.out⟩, HG.out⟩
      rw [HPP.out, if_neg (by omega)]; rfl
end Go.Proofs.Ytnhjplfdfbbihaa
