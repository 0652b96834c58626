/-
  How deep nodes stand, by the program; condition: the list lies as told.
-/
import Derived.Test.YtekjfddcbcijdaaGreatDoorParX
import Derived.Laws.OwnMore
namespace Go.Proofs.YtekjfddcbcijdaaGreatDoor
open Go.RowKit
set_option linter.unusedVariables false
set_option linter.unusedSimpArgs false

/-- A node: kind, text, where its kids' row lies and its room, the kids' numbers, place. -/
structure Nd where
  kind : Int
  text : ByteArray
  a : Option Addr
  c : Nat
  ks : List Int
  pl : Int


def KAt (B : Nat) (w : World) (a : Option Addr) (ks : List Int) : Prop := ∀ (j : Nat) (k : Int), ks[j]? = some k → ∃ b o, a = some ⟨b, o, none⟩ ∧ b < B ∧ w.cell? ⟨b, o + j, none⟩ = some (.int .i64 k)
/-- A node's four cells. -/
structure NCell (B : Nat) (w : World) (b o : Nat) (x : Nd) : Prop where
  c0 : w.cell? ⟨b, o, none⟩ = some (.int .i64 x.kind)
  c1 : w.cell? ⟨b, o + 1, none⟩ = some (.string x.text)
  c2 : w.cell? ⟨b, o + 2, none⟩ = some (.slice x.a x.ks.length x.c)
  c3 : w.cell? ⟨b, o + 3, none⟩ = some (.int .i64 x.pl)
  k : KAt B w x.a x.ks
  kl : x.ks.length ≤ maxLen
  kc : x.ks.length ≤ x.c
  kn : x.a = none → x.c = 0
/-- Nodes in a row. -/
def NAt (B : Nat) (w : World) (a : Option Addr) (L : List Nd) : Prop := ∀ (i : Nat) (x : Nd), L[i]? = some x → ∃ b o, a = some ⟨b, o, none⟩ ∧ b < B ∧ NCell B w b (o + i * 4) x

theorem KAt.fr {B : Nat} {S : List Nat} {w w' : World} {a : Option Addr} {ks : List Int} (h : KAt B w a ks) (f : Fr S w w') (hS : ∀ k, k ∈ S → B ≤ k) : KAt B w' a ks := fun j k hk => by
  obtain ⟨b, o, e, hb, hc⟩ := h j k hk
  exact ⟨b, o, e, hb, f.cell1 hc (fun hm => by have := hS _ hm; simp at this; omega)⟩
theorem NCell.fr {B : Nat} {S : List Nat} {w w' : World} {b o : Nat} {x : Nd} (h : NCell B w b o x) (f : Fr S w w') (hb : b < B) (hS : ∀ k, k ∈ S → B ≤ k) : NCell B w' b o x := by
  have hn : b ∉ S := fun hm => by have := hS _ hm; omega
  exact ⟨f.cell1 h.c0 hn, f.cell1 h.c1 hn, f.cell1 h.c2 hn, f.cell1 h.c3 hn, h.k.fr f hS, h.kl, h.kc, h.kn⟩
theorem NAt.fr {B : Nat} {S : List Nat} {w w' : World} {a : Option Addr} {L : List Nd} (h : NAt B w a L) (f : Fr S w w') (hS : ∀ k, k ∈ S → B ≤ k) : NAt B w' a L := fun i x hx => by
  obtain ⟨b, o, e, hb, hc⟩ := h i x hx
  exact ⟨b, o, e, hb, hc.fr f hb hS⟩


/-- How deep: of each node, behind its kids'. -/
def kidD (D : List Nat) (n : Nat) : List Int → Nat → Nat
  | [], d => d
  | k :: r, d => kidD D n r (if 0 ≤ k ∧ k < n then max d (1 + D.getD k.toNat 0) else d)
def depths (L : List Nd) : Nat → List Nat
  | 0 => []
  | n + 1 => depths L n ++ [match L[n]? with | some x => kidD (depths L n) n x.ks 1 | none => 0]
def deepL (L : List Nd) : Nat := (depths L L.length).getD (L.length - 1) 0

theorem depths_length (L : List Nd) : ∀ n, (depths L n).length = n
  | 0 => rfl
  | n + 1 => by simp [depths, depths_length L n]
theorem kidD_le {D : List Nat} {n m : Nat} (hD : ∀ d ∈ D, d ≤ m) : ∀ (ks : List Int) (d : Nat), d ≤ m + 1 → kidD D n ks d ≤ m + 1
  | [], d, h => h
  | k :: r, d, h => by
    refine kidD_le hD r _ ?_
    split
    · have : D.getD k.toNat 0 ≤ m := by
        rw [List.getD_eq_getElem?_getD]
        cases hq : D[k.toNat]? with
        | none => simp
        | some q => simpa using hD q (List.mem_of_getElem? hq)
      omega
    · exact h
theorem depths_le (L : List Nd) : ∀ n, ∀ d ∈ depths L n, d ≤ n
  | 0, d, h => by simp [depths] at h
  | n + 1, d, h => by
    simp only [depths, List.mem_append, List.mem_singleton] at h
    rcases h with h | h
    · have := depths_le L n d h; omega
    · rw [h]
      split
      · exact kidD_le (depths_le L n) _ _ (by omega)
      · omega
theorem getD_le {l : List Nat} {m : Nat} (h : ∀ d ∈ l, d ≤ m) (i : Nat) : l.getD i 0 ≤ m := by
  rw [List.getD_eq_getElem?_getD]
  cases hq : l[i]? with
  | none => simp
  | some q => simpa using h q (List.mem_of_getElem? hq)
theorem deepL_le (L : List Nd) : deepL L ≤ L.length := getD_le (depths_le L L.length) _

/-- A row of numbers, of its own. -/
def IB (w : World) (g : Nat) (D : List Int) : Prop := w.heap[g]? = some (.cells (D.map (Value.int .i64)).toArray 3 (0, 0))
theorem IB.fr {w w' : World} {g : Nat} {D : List Int} {S : List Nat} (h : IB w g D) (f : Fr S w w') (hg : g ∉ S) : IB w' g D :=
  (f.block g (Array.getElem?_eq_some_iff.1 h).1 hg).trans h
theorem IB.lt {w : World} {g : Nat} {D : List Int} (h : IB w g D) : g < w.heap.size := (Array.getElem?_eq_some_iff.1 h).1
theorem IB.fz {w : World} {g : Nat} {D : List Int} (h : IB w g D) (i : Nat) : w.frozen? ⟨g, i, none⟩ = false := by unfold IB at h; simp [World.frozen?, h]
theorem IB.cell {w : World} {g : Nat} {D : List Int} (h : IB w g D) {i : Nat} {v : Int} (hi : D[i]? = some v) : w.cell? ⟨g, i, none⟩ = some (.int .i64 v) := by
  unfold IB at h
  simp [World.cell?, h, hi]
theorem IB.set {w : World} {g : Nat} {D : List Int} (h : IB w g D) (i : Nat) (v : Int) : IB (w.setCell ⟨g, i, none⟩ (.int .i64 v)) g (D.set i v) := by
  unfold IB
  rw [heap_setCell_same _ _ _ _ _ _ h]
  congr 2
  simp [List.map_set]

theorem made_one (z : Value) (n : Nat) : madeCells #[z] n = (List.replicate n z).toArray := by
  apply Array.ext'
  rw [toList_madeCells_one]
/-- Rows that are made. -/
theorem make_ints (w : World) (n : Nat) (h : n ≤ 35184372088832) : (Instr.makeSlice 28 (.int .i64 n) (.int .i64 n)).run Tryz.prog w = .ok (.slice (some ⟨w.heap.size, 0, none⟩) n n) (w.alloc (.cells ((List.replicate n (0 : Int)).map (Value.int .i64)).toArray 3)) := by
  obtain ⟨i, hi, hz, hs, hb⟩ := info_parts info3
  have := run_make (P := Tryz.prog) w 28 3 i (.int .i64 0) Tryz.underlying28 hi hz .i64 .i64 n n (by omega) (Int.le_refl _) (by rw [hb]; omega) (by omega)
  rw [this, hs]
  simp [Value.cells, made_one]
/-- The row of depths while node i is at work. -/
def rowD (L : List Nd) (len i : Nat) (d : Int) : List Int := (depths L i).map (fun (n : Nat) => (n : Int)) ++ d :: List.replicate (len - i - 1) 0
theorem rowD_at {L : List Nd} {len i : Nat} {d : Int} : (rowD L len i d)[i]? = some d := by
  unfold rowD
  rw [List.getElem?_append_right (by simp [depths_length])]
  simp [depths_length]
theorem rowD_low {L : List Nd} {len i k : Nat} {d : Int} (h : k < i) : (rowD L len i d)[k]? = some (((depths L i).getD k 0 : Nat) : Int) := by
  unfold rowD
  rw [List.getElem?_append_left (by simp [depths_length]; exact h)]
  simp [List.getD_eq_getElem?_getD, depths_length, h]
theorem rowD_set {L : List Nd} {len i : Nat} {d d' : Int} : (rowD L len i d).set i d' = rowD L len i d' := by
  unfold rowD
  rw [List.set_append_right _ _ (by simp [depths_length])]
  simp [depths_length]
theorem rowD_next {L : List Nd} {len i : Nat} {x : Nd} (hx : L[i]? = some x) (hl : i + 1 < len) : rowD L len i ((kidD (depths L i) i x.ks 1 : Nat) : Int) = rowD L len (i + 1) 0 := by
  unfold rowD
  rw [depths, hx]
  simp only [List.map_append, List.map_cons, List.map_nil, List.append_assoc, List.singleton_append]
  rw [show len - i - 1 = (len - (i + 1) - 1) + 1 by omega, List.replicate_succ]
theorem rowD_zero {L : List Nd} {len : Nat} (h : 0 < len) : List.replicate len (0 : Int) = rowD L len 0 0 := by
  unfold rowD
  simp only [depths, List.map_nil, List.nil_append]
  rw [show len = (len - 0 - 1) + 1 by omega, List.replicate_succ]
  simp
theorem rowD_end {L : List Nd} {len : Nat} {x : Nd} (hl : L.length = len) (hx : L[len - 1]? = some x) (h : 0 < len) : kidD (depths L (len - 1)) (len - 1) x.ks 1 = deepL L := by
  unfold deepL
  rw [hl]
  conv => rhs; rw [show len = len - 1 + 1 by omega]
  rw [depths, hx]
  simp [List.getD_eq_getElem?_getD, depths_length]

set_option maxRecDepth 100000 in
set_option maxHeartbeats 2000000 in
theorem deep_any (B : Nat) (L : List Nd) (w : World) (a : Option Addr) (len cap : Nat) (hlen : L.length = len) (hL : NAt B w a L) (hm : len ≤ 2600000000000) (hB : B ≤ w.heap.size) :
    Calls Tryz.prog 10 #[.slice a len cap] w fun e w' => e = .returned (.int .i64 (deepL L)) ∧ Fr [] w w' := by
  have HL : Hid (L.length = len) := hlen
  have HB : Hid (B ≤ w.heap.size) := hB
  clear hB
  by_cases h0 : len = 0
  · have : L = [] := by rw [← List.length_eq_zero_iff, hlen, h0]
    subst this h0
    go_enter Tryz.func10, Tryz.ntmps10
    go_wp2
    go_ret
    exact ⟨rfl, Fr.refl _ _⟩
  · clear hlen
    have hmk := make_ints w len (by omega)
    have I0 : IB (w.alloc (.cells ((List.replicate len (0 : Int)).map (Value.int .i64)).toArray 3)) w.heap.size (rowD L len 0 0) := by rw [← rowD_zero (by omega)]; exact heap_alloc_new w _
    have f0 : Fr [] w (w.alloc (.cells ((List.replicate len (0 : Int)).map (Value.int .i64)).toArray 3)) := (Fr.refl _ _).alloc _
    generalize w.alloc (.cells ((List.replicate len (0 : Int)).map (Value.int .i64)).toArray 3) = w0 at *
    have hpos : 0 < len := by omega
    have h0' : ((len : Int) == 0) = false := beq_int_false (by omega)
    clear h0
    go_enter Tryz.func10, Tryz.ntmps10
    go_wp2
    go_loopw [15] (fun i wr => ∃ p : Nat, p ≤ len ∧ i = .int .i64 p ∧ Fr [] w wr ∧ (p < len → IB wr w.heap.size (rowD L len p 0)) ∧ (p = len → IB wr w.heap.size (rowD L len (len - 1) (deepL L : Nat)))) (fun i _ => len - (intOf i).toNat)
    case atStart => exact ⟨0, Nat.zero_le _, rfl, f0, fun _ => I0, fun h => by omega⟩
    case round =>
      obtain ⟨p, hp, rfl, fw, hI, hJ⟩ := hrel
      clear I0 hmk
      by_cases hlt : p < len
      · have hI := hI hlt
        clear hJ
        have hx : L[p]? = some (L[p]'(by rw [HL.out]; exact hlt)) := List.getElem?_eq_getElem _
        generalize L[p]'(by rw [HL.out]; exact hlt) = x at hx
        have HX : Hid (∀ m : Nat, p + 1 < len → kidD (depths L p) p x.ks 1 = m → rowD L len p (m : Nat) = rowD L len (p + 1) 0) := fun m h e => by rw [← e]; exact rowD_next hx h
        have HY : Hid (∀ m : Nat, p + 1 = len → kidD (depths L p) p x.ks 1 = m → rowD L len p (m : Nat) = rowD L len (len - 1) (deepL L : Nat)) := fun m h e => by
          have hp1 : p = len - 1 := by omega
          subst hp1
          rw [← e, rowD_end HL.out hx (by omega)]
        obtain ⟨b, o, rfl, hb, hN⟩ := (hL.fr fw (by simp)) p x hx
        obtain ⟨kind, text, xa, xc, ks, pl⟩ := x
        simp only at HX HY
        have hc0 := hI.cell rowD_at
        have hfz := hI.fz p
        have hI1 := hI.set p 1
        rw [rowD_set] at hI1
        have fw1 := fw.setCell (p := ⟨w.heap.size, p, none⟩) (.inr (Nat.le_refl _)) (.int .i64 1)
        have hbw : b ≠ w.heap.size := by have := HB.out; omega
        have f1 : Fr [w.heap.size] wr (wr.setCell ⟨w.heap.size, p, none⟩ (.int .i64 1)) := (Fr.refl _ _).setCell (p := ⟨w.heap.size, p, none⟩) (.inl (by simp)) _
        have hN1 := hN.fr f1 hb (by simpa using HB.out)
        have n2 : _ = some (Value.slice xa ks.length xc) := hN1.c2
        have hkl : ks.length ≤ maxLen := hN1.kl
        have hkk : KAt B _ xa ks := hN1.k
        unfold maxLen at hkl
        clear hI hN f1 hN1 hx
        have hb1 : ∀ d ∈ depths L p, d ≤ p := depths_le L p
        have HD : ∀ r : Nat, Hid ((depths L p).getD r 0 ≤ p) := fun r => getD_le hb1 r
        clear hb1
        go_wp2
        generalize wr.setCell ⟨w.heap.size, p, none⟩ (.int .i64 1) = w1 at *
        go_loopw [27] (fun j wq => ∃ q d : Nat, q ≤ ks.length ∧ j = .int .i64 q ∧ Fr [w.heap.size] w1 wq ∧ Fr [] w wq ∧ IB wq w.heap.size (rowD L len p (d : Nat)) ∧ d ≤ p + 1 ∧ Hid (kidD (depths L p) p (ks.drop q) d = kidD (depths L p) p ks 1)) (fun j _ => ks.length - (intOf j).toNat)
        case atStart => exact ⟨0, 1, Nat.zero_le _, rfl, Fr.refl _ _, fw1, hI1, by omega, rfl⟩
        case round =>
          obtain ⟨q, d, hq, rfl, fq, fqw, hIq, hd, he⟩ := hrel
          clear hI1 hc0 hfz n2
          by_cases hql : q < ks.length
          · have hk : ks[q]? = some ks[q] := List.getElem?_eq_getElem hql
            have hdr := List.drop_eq_getElem_cons hql
            generalize ks[q] = k at hk hdr
            obtain ⟨kb, ko, rfl, hkb, hcell⟩ := (hkk.fr fq (by simpa using HB.out)) q k hk
            have HE : Hid (kidD (depths L p) p (ks.drop (q + 1)) (if 0 ≤ k ∧ k < (p : Int) then max d (1 + (depths L p).getD k.toNat 0) else d) = kidD (depths L p) p ks 1) := by unfold Hid; rw [← he.out, hdr]; rfl
            clear hk hdr he
            by_cases h1 : k < 0
            · rw [if_neg (by omega)] at HE
              have HE2 : Hid _ := HE.out
              clear HE
              go_wp2
              go_roundw
              case rel => exact ⟨q + 1, d, hql, by go_num, fq, fqw, hIq, hd, HE2⟩
              case measure => simp [intOf]; omega
            · by_cases h2 : (p : Int) ≤ k
              · rw [if_neg (by omega)] at HE
                have HE2 : Hid _ := HE.out
                clear HE
                go_wp2
                go_roundw
                case rel => exact ⟨q + 1, d, hql, by go_num, fq, fqw, hIq, hd, HE2⟩
                case measure => simp [intOf]; omega
              · obtain ⟨r, rfl⟩ := Int.eq_ofNat_of_zero_le (show 0 ≤ k by omega)
                have hr : r < p := by omega
                rw [if_pos (by omega)] at HE
                simp only [Int.toNat_natCast] at HE
                have HE2 : Hid _ := HE.out
                clear HE
                have c1 := hIq.cell rowD_at
                have c2 := hIq.cell (rowD_low hr)
                have z1 := hIq.fz p
                have hS := hIq.set p ((max d (1 + (depths L p).getD r 0) : Nat) : Int)
                rw [rowD_set] at hS
                have hD := (HD r).out
                generalize (depths L p).getD r 0 = D at *
                go_wp2
                go_region
                have ev : max (d : Int) (1 + (D : Int)) = ((max d (1 + D) : Nat) : Int) := by omega
                rw [ev]
                have hmx : max d (1 + D) ≤ p + 1 := by omega
                have gq := (fq.setCell (p := ⟨w.heap.size, p, none⟩) (.inl (by simp)) (.int .i64 ((max d (1 + D) : Nat) : Int))).drew
                have gw := (fqw.setCell (p := ⟨w.heap.size, p, none⟩) (.inr (Nat.le_refl _)) (.int .i64 ((max d (1 + D) : Nat) : Int))).drew
                have hS' := hS.fr ((Fr.refl [] _).drew) (by simp)
                clear hS c1 c2 z1
                go_wp2
                go_roundw
                case rel => exact ⟨q + 1, _, hql, by go_num, gq, gw, hS', hmx, HE2⟩
                case measure => simp [intOf]; omega
          · have HE : Hid (d = kidD (depths L p) p ks 1) := by unfold Hid; rw [← he.out, List.drop_of_length_le (by omega)]; rfl
            go_wp2
            go_roundw
            case rel =>
              refine ⟨p + 1, hlt, by go_num, fqw, fun h => ?_, fun h => ?_⟩
              · rw [← HX.out d h HE.out.symm]; exact hIq
              · rw [← HY.out d h HE.out.symm]; exact hIq
            case measure => simp [intOf]; omega
      · have hpe : p = len := by omega
        have hI := hJ hpe
        have hx : L[len - 1]? = some (L[len - 1]'(by rw [HL.out]; omega)) := List.getElem?_eq_getElem _
        have hc := hI.cell rowD_at
        go_wp2
        go_ret
        exact ⟨rfl, fw⟩
end Go.Proofs.YtekjfddcbcijdaaGreatDoor
