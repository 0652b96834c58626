/-
  The document's cache as it lies: it is made, a key is looked for, whether a trace is held; condition: the cache lies as told.
-/
import Derived.Test.YtnhjplfdfbbihaaCcB
namespace Go.Proofs.Ytnhjplfdfbbihaa
open Go.RowKit Go.Shelf Go.Maps Go.ChangeShapes
set_option linter.unusedVariables false
set_option linter.unusedSimpArgs false
def Nt.cl (n : Nt) : List Value := [.int .i64 n.id, .int .i64 n.op, .int .i64 n.f, .int .i64 n.to]
def flatN (L : List Nt) : List Value := L.flatMap Nt.cl
theorem flatN_len (L : List Nt) : (flatN L).length = L.length * 4 := flat_len (fun x _ => rfl)
def flatR (L : List Rt) : List Value := L.flatMap evl
theorem flatR_len (L : List Rt) : (flatR L).length = L.length * 18 := flat_len (fun x _ => evl_len x)
/-- The document's cache, in parts. -/
structure RP (w : World) (B c : Nat) (rv nv : Value) (lim : Nat) (pa : Option Addr) (pcap : Nat) (pf : List Int) (used last top : Nat) (rs : List Rt) (ns : List Nt) : Prop where
  blk : w.heap[c]? = some (.cells #[rv, nv, .int .i64 lim, .slice pa pf.length pcap, .int .i64 used, .int .i64 last, .int .i64 top] 48 (0, 0))
  rows : w.ownsRow B 52 18 rv rs.length (flatR rs)
  notes : w.ownsRow B 101 4 nv ns.length (flatN ns)
  pick : SL w B 3 pa pf.length pcap 1 8 (pf.map (Value.int .i64))
  trs : ∀ r ∈ rs, TrOk w B r.2
  cB : B ≤ c
theorem RP.fr0 {w w' : World} {B c : Nat} {rv nv : Value} {lim : Nat} {pa : Option Addr} {pcap : Nat} {pf : List Int} {used last top : Nat} {rs : List Rt} {ns : List Nt} (h : RP w B c rv nv lim pa pcap pf used last top rs ns) (f : Fr [] w w') : RP w' B c rv nv lim pa pcap pf used last top rs ns :=
  ⟨(f.block c (Array.getElem?_eq_some_iff.1 h.blk).1 (by simp)).trans h.blk, own_fr h.rows f (by simp), own_fr h.notes f (by simp), h.pick.fr f (Away.nil _ _), fun r hr => (h.trs r hr).fr0 f, h.cB⟩
theorem RP.gm {w w' : World} {B c : Nat} {rv nv : Value} {lim : Nat} {pa : Option Addr} {pcap : Nat} {pf : List Int} {used last top : Nat} {rs : List Rt} {ns : List Nt} (h : RP w B c rv nv lim pa pcap pf used last top rs ns) (f : Gm B pP true w w') : RP w' B c rv nv lim pa pcap pf used last top rs ns :=
  ⟨(f.block c (Array.getElem?_eq_some_iff.1 h.blk).1 (.inr (.inl ⟨_, _, _, h.blk, rfl⟩))).trans h.blk, own_gm h.rows f rfl, own_gm h.notes f rfl, h.pick.gm f pP_ro, fun r hr => (h.trs r hr).gm f pP_ro, h.cB⟩
/-- The document's cache, as it lies. -/
structure RA (w : World) (B c : Nat) (rs : List Rt) (S : Bk) : Prop where
  ex : ∃ rv nv pa pcap pf used, RP w B c rv nv S.lim pa pcap pf used S.last S.top rs S.notes ∧ pf.drop used = S.pk ∧ used ≤ pf.length
  abs : rs.map absR = S.rows
theorem RA.fr0 {w w' : World} {B c : Nat} {rs : List Rt} {S : Bk} (h : RA w B c rs S) (f : Fr [] w w') : RA w' B c rs S := by
  obtain ⟨rv, nv, pa, pcap, pf, used, hp, h1⟩ := h.ex
  exact ⟨⟨_, _, _, _, _, _, hp.fr0 f, h1⟩, h.abs⟩
theorem RA.gm {w w' : World} {B c : Nat} {rs : List Rt} {S : Bk} (h : RA w B c rs S) (f : Gm B pP true w w') : RA w' B c rs S := by
  obtain ⟨rv, nv, pa, pcap, pf, used, hp, h1⟩ := h.ex
  exact ⟨⟨_, _, _, _, _, _, hp.gm f, h1⟩, h.abs⟩
theorem info52 : (Try.prog.info? 52).map (·.size) = some 18 := by kernel_rfl
theorem info101 : (Try.prog.info? 101).map (·.size) = some 4 := by kernel_rfl
theorem rowR_at {w : World} {B g c n : Nat} {L : List Rt} (h : w.ownsRow B 52 18 (.slice (some ⟨g, 0, none⟩) n c) L.length (flatR L)) {i : Nat} {x : Rt} (hx : L[i]? = some x) : w.rangeAt g (i * 18) (evl x) := fun j v hv => by
  have hj : j < 18 := by have := (List.getElem?_eq_some_iff.1 hv).1; rw [evl_len] at this; exact this
  have h2 := flat_at (f := evl) (fun x _ => evl_len x) hx j hj
  obtain ⟨g', c', e1, hc, _⟩ := own_cells h (h2.trans hv)
  cases e1
  exact hc
theorem key_range52 {w : World} {b : Nat} {r : Rt} {t : TypeId} (h : w.heap[b]? = some (.cells (evl r).toArray t (0, 0))) : w.rangeAt b 1 (kc r.2.k).toList := fun j v hv => by
  rw [Nat.add_comm]
  refine at_cells h (j + 1) ?_
  have hj : j < 10 := by have := (List.getElem?_eq_some_iff.1 hv).1; rw [kcl_len] at this; exact this
  simp only [evl, List.getElem?_toArray, List.getElem?_cons_succ]
  rw [Tr.cl, List.getElem?_append_left (by simp [kl0_len]; exact hj)]
  simpa [kc] using hv
theorem wpList_eql29 {ops : Array Oper} {rest : List Oper} {o : Oper} {act : Act} {w : World} {Q : Exit → Act → World → Prop} (hg : o.guard = none) (x y : Operand) (hop : o.op = .binOp .eql 29 x y 29) {a b : Ky} (ha : kw a) (hb : kw b) (hx : act.eval x = .agg (kc a)) (hy : act.eval y = .agg (kc b)) (r : Bool) (hr : decide (a = b) = r) (h : wpList Try.prog ops Q rest (act.put o.dst (.bool r)) w) : wpList Try.prog ops Q (o :: rest) act w := by
  subst hr
  exact wpList_bin hg .eql 29 x y hop _ _ _ hx hy (guard29 _ _ _ _ _) (eql29 w ha hb) h
theorem RA.len {w : World} {B c n : Nat} {rs : List Rt} {S : Bk} (h : RA w B c rs S) (ho : Ok S n) : rs.length ≤ 1000 := rs_len h.abs ho
def fidx (o : Option Nat) : Int := match o with
  | some i => i
  | none => -1
set_option maxRecDepth 100000 in
set_option maxHeartbeats 2000000 in
theorem rnew_any {w : World} {B : Nat} (hB : B ≤ w.heap.size) {pa : Option Addr} {pcap : Nat} {pk : List Int} (t : Int) (hs : SL w B 3 pa pk.length pcap 1 8 (pk.map (Value.int .i64))) :
    Calls Try.prog 10 #[.int .i64 t, .slice pa pk.length pcap] w fun e w' => ∃ c, e = .returned (.pointer (some ⟨c, 0, none⟩)) ∧ RA w' B c [] ⟨limP t, pk, [], [], 0, 0⟩ ∧ Fr [] w w' := by
  have key : ∀ lim : Nat, RA (w.alloc (.cells #[.slice none 0 0, .slice none 0 0, .int .i64 lim, .slice pa pk.length pcap, .int .i64 0, .int .i64 0, .int .i64 0] 48)) B w.heap.size [] ⟨lim, pk, [], [], 0, 0⟩ := fun lim =>
    ⟨⟨.slice none 0 0, .slice none 0 0, pa, pcap, pk, 0, ⟨heap_alloc_new w _, World.ownsRow_nil _ _ _ _, World.ownsRow_nil _ _ _ _, hs.fr ((Fr.refl _ _).alloc _) (Away.nil _ _), by simp, hB⟩, rfl, Nat.zero_le _⟩, rfl⟩
  have HK : Hid (∀ lim : Nat, RA (w.alloc (.cells #[.slice none 0 0, .slice none 0 0, .int .i64 lim, .slice pa pk.length pcap, .int .i64 0, .int .i64 0, .int .i64 0] 48)) B w.heap.size [] ⟨lim, pk, [], [], 0, 0⟩) := key
  clear hs key
  by_cases h0 : t < 0
  · have e : limP t = 0 := by unfold limP; omega
    have e1 : max t 0 = 0 := by omega
    have e2 : min (0 : Int) 1000 = 0 := by decide
    rw [e]
    clear e
    go_enter Try.func10, Try.ntmps10
    go_wp2
    go_ret
    exact ⟨w.heap.size, by simp, by simpa using HK.out 0, (Fr.refl _ _).alloc _⟩
  · by_cases h1 : t ≤ 1000
    · obtain ⟨k, rfl⟩ : ∃ k : Nat, t = k := ⟨t.toNat, by omega⟩
      have e : limP k = k := by unfold limP; omega
      have e1 : max (k : Int) 0 = k := by omega
      have e2 : min (k : Int) 1000 = k := by omega
      rw [e]
      clear e
      go_enter Try.func10, Try.ntmps10
      go_wp2
      go_ret
      exact ⟨w.heap.size, by simp, by simpa using HK.out k, (Fr.refl _ _).alloc _⟩
    · have e : limP t = 1000 := by unfold limP; omega
      have e1 : max t 0 = t := by omega
      have e2 : min t 1000 = 1000 := by omega
      rw [e]
      clear e
      go_enter Try.func10, Try.ntmps10
      go_wp2
      go_ret
      exact ⟨w.heap.size, by simp, by simpa using HK.out 1000, (Fr.refl _ _).alloc _⟩
set_option maxRecDepth 100000 in
set_option maxHeartbeats 4000000 in
theorem find_any {w : World} {B c n : Nat} {rs : List Rt} {S : Bk} (h : RA w B c rs S) (ho : Ok S n) {k : Ky} (hk : kw k) :
    Calls Try.prog 36 #[.pointer (some ⟨c, 0, none⟩), .agg (kc k)] w fun e w' => e = .returned (.int .i64 (fidx (kfind S.rows k))) ∧ Fr [] w w' := by
  have hlen := h.len ho
  have habs := h.abs
  obtain ⟨rv, nv, pa, pcap, pf, used, hp, _⟩ := (h.fr0 ((Fr.refl [] w).alloc (.cells (kc k) 29))).ex
  obtain ⟨ra, rc, rfl, _⟩ := own_slice hp.rows
  have k0 : (w.alloc (.cells (kc k) 29)).cell? ⟨c, 0, none⟩ = some (.slice ra rs.length rc) := at_cells hp.blk 0 rfl
  have hkw : ∀ r ∈ rs, kw r.2.k := fun r hr => (ho.ok _ (mem_row habs hr)).kw
  have HO : Hid ((w.alloc (.cells (kc k) 29)).ownsRow B 52 18 (.slice ra rs.length rc) rs.length (flatR rs) ∧ Fr [] w (w.alloc (.cells (kc k) 29)) ∧ kw k ∧ ∀ r ∈ rs, kw r.2.k) := ⟨hp.rows, (Fr.refl _ _).alloc _, hk, hkw⟩
  have HX : Hid ((w.alloc (.cells (kc k) 29)).heap[w.heap.size]? = some (.cells (kc k) 29 (0, 0))) := heap_alloc_new w _
  have hl2 : kfind S.rows k = rs.findIdx? (fun r => decide (r.2.k = k)) := by unfold kfind; rw [← habs, List.findIdx?_map]; rfl
  have HL : Hid (kfind S.rows k = rs.findIdx? (fun r => decide (r.2.k = k))) := hl2
  have hlI : (rs.length : Int) ≤ 1000 := by omega
  clear h hp habs hkw hl2 ho hk hlen
  go_enter Try.func36, Try.ntmps36
  go_upto_region 1 with fail
  generalize w.alloc (.cells (kc k) 29) = V at *
  generalize w.heap.size = kb at *
  have F0 : Hid (Fr [] V V) := Fr.refl _ _
  go_wp2
  go_loopw [12] (fun i wr => ∃ p : Nat, p ≤ rs.length ∧ i = .int .i64 p ∧ Hid (Fr [] V wr ∧ ∀ j r, j < p → rs[j]? = some r → r.2.k ≠ k)) (fun i _ => rs.length - (intOf i).toNat)
  case atStart => exact ⟨0, Nat.zero_le _, rfl, F0.out, fun j r hj => by omega⟩
  case round =>
    obtain ⟨p, hp, rfl, F⟩ := hrel
    by_cases hlt : p < rs.length
    · have hltI : (p : Int) < rs.length := by omega
      obtain ⟨r, hr⟩ : ∃ r, rs[p]? = some r := ⟨_, List.getElem?_eq_getElem hlt⟩
      obtain ⟨g, rfl⟩ : ∃ g, ra = some ⟨g, 0, none⟩ := by
        obtain ⟨g, c', e1, _⟩ := own_cells HO.out.1 (j := p * 18) (List.getElem?_eq_getElem (by rw [flatR_len]; omega))
        cases e1; exact ⟨g, rfl⟩
      have R1 : Hid (wr.rangeAt g (p * 18) (evl r)) := rowR_at (own_fr HO.out.1 F.out.1 (by simp)) hr
      have bA := heap_alloc_new wr (.cells #[.int .i64 0, .int .i64 0, .int .i64 0, .int .i64 0, .int .i64 0, .int .i64 0, .int .i64 0, .int .i64 0, .int .i64 0, .int .i64 0, .int .i64 0, .int .i64 0, .int .i64 0, .slice none 0 0, .slice none 0 0, .slice none 0 0, .slice none 0 0, .slice none 0 0] 52)
      have FB : Fr [] wr ((wr.alloc (.cells #[.int .i64 0, .int .i64 0, .int .i64 0, .int .i64 0, .int .i64 0, .int .i64 0, .int .i64 0, .int .i64 0, .int .i64 0, .int .i64 0, .int .i64 0, .int .i64 0, .int .i64 0, .slice none 0 0, .slice none 0 0, .slice none 0 0, .slice none 0 0, .slice none 0 0] 52)).setRow wr.heap.size (evl r).toArray) := ((Fr.refl _ _).alloc _).setRow (.inr (Nat.le_refl _)) _
      have bB := setRow_heap (wr.alloc (.cells #[.int .i64 0, .int .i64 0, .int .i64 0, .int .i64 0, .int .i64 0, .int .i64 0, .int .i64 0, .int .i64 0, .int .i64 0, .int .i64 0, .int .i64 0, .int .i64 0, .int .i64 0, .slice none 0 0, .slice none 0 0, .slice none 0 0, .slice none 0 0, .slice none 0 0] 52)) wr.heap.size _ (evl r).toArray _ _ bA
      have HA : Hid ((wr.alloc (.cells #[.int .i64 0, .int .i64 0, .int .i64 0, .int .i64 0, .int .i64 0, .int .i64 0, .int .i64 0, .int .i64 0, .int .i64 0, .int .i64 0, .int .i64 0, .int .i64 0, .int .i64 0, .slice none 0 0, .slice none 0 0, .slice none 0 0, .slice none 0 0, .slice none 0 0] 52)).heap[wr.heap.size]? = some (.cells #[.int .i64 0, .int .i64 0, .int .i64 0, .int .i64 0, .int .i64 0, .int .i64 0, .int .i64 0, .int .i64 0, .int .i64 0, .int .i64 0, .int .i64 0, .int .i64 0, .int .i64 0, .slice none 0 0, .slice none 0 0, .slice none 0 0, .slice none 0 0, .slice none 0 0] 52 (0, 0))) := bA
      have RK : Hid (((wr.alloc (.cells #[.int .i64 0, .int .i64 0, .int .i64 0, .int .i64 0, .int .i64 0, .int .i64 0, .int .i64 0, .int .i64 0, .int .i64 0, .int .i64 0, .int .i64 0, .int .i64 0, .int .i64 0, .slice none 0 0, .slice none 0 0, .slice none 0 0, .slice none 0 0, .slice none 0 0] 52)).setRow wr.heap.size (evl r).toArray).rangeAt wr.heap.size 1 (kc r.2.k).toList) := key_range52 bB
      have RX : Hid (((wr.alloc (.cells #[.int .i64 0, .int .i64 0, .int .i64 0, .int .i64 0, .int .i64 0, .int .i64 0, .int .i64 0, .int .i64 0, .int .i64 0, .int .i64 0, .int .i64 0, .int .i64 0, .int .i64 0, .slice none 0 0, .slice none 0 0, .slice none 0 0, .slice none 0 0, .slice none 0 0] 52)).setRow wr.heap.size (evl r).toArray).rangeAt kb 0 (kc k).toList) := range_block (((F.out.1.trans FB).block _ (Array.getElem?_eq_some_iff.1 HX.out).1 (by simp)).trans HX.out)
      have HF : Hid (Fr [] V ((wr.alloc (.cells #[.int .i64 0, .int .i64 0, .int .i64 0, .int .i64 0, .int .i64 0, .int .i64 0, .int .i64 0, .int .i64 0, .int .i64 0, .int .i64 0, .int .i64 0, .int .i64 0, .int .i64 0, .slice none 0 0, .slice none 0 0, .slice none 0 0, .slice none 0 0, .slice none 0 0] 52)).setRow wr.heap.size (evl r).toArray)) := F.out.1.trans FB
      have HR : Hid (rs[p]? = some r ∧ kw r.2.k ∧ kw k ∧ ∀ j r, j < p → rs[j]? = some r → r.2.k ≠ k) := ⟨hr, HO.out.2.2.2 _ (List.mem_of_getElem? hr), HO.out.2.2.1, F.out.2⟩
      clear bA bB FB hr F
      go_upto_region 4 with (first
        | refine wpList_load_mid rfl 52 (.tmp 15) rfl g (p * 18) rfl (evl r) _ R1.out Try.underlying52 rfl (by rw [info52, evl_len]) ?_
        | refine wpList_store_row rfl 52 (.tmp 6) (.tmp 16) rfl wr.heap.size (evl r).toArray rfl rfl 52 _ HA.out (by rw [info52, evl_size]) (by rw [evl_size]; rfl) (evl_one r) ?_)
      generalize (wr.alloc (.cells #[.int .i64 0, .int .i64 0, .int .i64 0, .int .i64 0, .int .i64 0, .int .i64 0, .int .i64 0, .int .i64 0, .int .i64 0, .int .i64 0, .int .i64 0, .int .i64 0, .int .i64 0, .slice none 0 0, .slice none 0 0, .slice none 0 0, .slice none 0 0, .slice none 0 0] 52)).setRow wr.heap.size (evl r).toArray = X at *
      generalize wr.heap.size = bx at *
      by_cases heq : r.2.k = k
      · have HE : Hid (decide (r.2.k = k) = true) := by show decide _ = true; simp [heq]
        go_upto_region 5 with (first
          | refine wpList_ld29 rfl (.tmp 18) rfl bx 1 rfl r.2.k RK.out ?_
          | refine wpList_ld29 rfl (.tmp 3) rfl kb 0 rfl k RX.out ?_
          | refine wpList_eql29 rfl (.tmp 19) (.tmp 20) rfl HR.out.2.1 HR.out.2.2.1 rfl rfl true HE.out ?_)
        have HFI : Hid (fidx (kfind S.rows k) = p) := by
          show fidx (kfind S.rows k) = p
          have : rs.findIdx? (fun r => decide (r.2.k = k)) = some p := by
            obtain ⟨h1, h2⟩ := List.getElem?_eq_some_iff.1 HR.out.1
            rw [List.findIdx?_eq_some_iff_getElem]
            refine ⟨h1, by rw [h2]; simp [heq], fun j hj => ?_⟩
            have := HR.out.2.2.2 j _ hj (List.getElem?_eq_getElem (by omega))
            simpa using this
          rw [HL.out, this]
          rfl
        clear RK RX R1 HA HR heq HE
        go_wp2
        go_ret
        exact ⟨by rw [HFI.out]; rfl, HO.out.2.1.trans HF.out⟩
      · have HE : Hid (decide (r.2.k = k) = false) := by show decide _ = false; simp [heq]
        have HN : Hid (Fr [] V X ∧ ∀ j r, j < p + 1 → rs[j]? = some r → r.2.k ≠ k) := ⟨HF.out, fun j r' hj hr' => by
          rcases Nat.lt_or_ge j p with h | h
          · exact HR.out.2.2.2 j r' h hr'
          · obtain rfl : j = p := by omega
            rw [HR.out.1] at hr'
            cases hr'
            exact heq⟩
        go_wp2_with (first
          | refine wpList_ld29 rfl (.tmp 18) rfl bx 1 rfl r.2.k RK.out ?_
          | refine wpList_ld29 rfl (.tmp 3) rfl kb 0 rfl k RX.out ?_
          | refine wpList_eql29 rfl (.tmp 19) (.tmp 20) rfl HR.out.2.1 HR.out.2.2.1 rfl rfl false HE.out ?_)
        clear RK RX R1 HA HR heq HE HF
        go_roundw
        case rel => exact ⟨p + 1, hlt, by go_num, HN⟩
        case measure => simp [intOf]; omega
    · obtain rfl : p = rs.length := by omega
      have HFI : Hid (fidx (kfind S.rows k) = -1 ∧ Fr [] w wr) := by
        refine ⟨?_, HO.out.2.1.trans F.out.1⟩
        have : rs.findIdx? (fun r => decide (r.2.k = k)) = none := by
          rw [List.findIdx?_eq_none_iff]
          intro r hr
          obtain ⟨j, hj⟩ := List.getElem?_of_mem hr
          have := F.out.2 j r (List.getElem?_eq_some_iff.1 hj).1 hj
          simpa using this
        rw [HL.out, this]
        rfl
      clear F
      go_wp2
      go_ret
      exact ⟨by rw [HFI.out.1]; rfl, HFI.out.2⟩
set_option maxRecDepth 100000 in
set_option maxHeartbeats 4000000 in
theorem held_r {w : World} {B c n : Nat} {rs : List Rt} {S : Bk} (h : RA w B c rs S) (ho : Ok S n) (i : Int) :
    Calls Try.prog 38 #[.pointer (some ⟨c, 0, none⟩), .int .i64 i] w fun e w' => e = .returned (.bool (heldB S i)) ∧ Fr [] w w' := by
  have hlen := h.len ho
  have habs := h.abs
  obtain ⟨rv, nv, pa, pcap, pf, used, hp, _⟩ := h.ex
  obtain ⟨ra, rc, rfl, _⟩ := own_slice hp.rows
  have k0 : w.cell? ⟨c, 0, none⟩ = some (.slice ra rs.length rc) := at_cells hp.blk 0 rfl
  have HO : Hid (w.ownsRow B 52 18 (.slice ra rs.length rc) rs.length (flatR rs)) := hp.rows
  have hl2 : heldB S i = rs.any (fun r => decide (r.1 = i)) := by unfold heldB; rw [← habs, List.any_map]; rfl
  have HL : Hid (heldB S i = rs.any (fun r => decide (r.1 = i))) := hl2
  have hlI : (rs.length : Int) ≤ 1000 := by omega
  have F0 : Hid (Fr [] w w) := Fr.refl _ _
  clear h hp habs hl2 ho hlen
  go_enter Try.func38, Try.ntmps38
  go_wp2
  go_loopw [12] (fun i' wr => ∃ p : Nat, p ≤ rs.length ∧ i' = .int .i64 p ∧ Hid (Fr [] w wr ∧ ∀ j r, j < p → rs[j]? = some r → r.1 ≠ i)) (fun i _ => rs.length - (intOf i).toNat)
  case atStart => exact ⟨0, Nat.zero_le _, rfl, F0.out, fun j r hj => by omega⟩
  case round =>
    obtain ⟨p, hp, rfl, F⟩ := hrel
    clear F0
    by_cases hlt : p < rs.length
    · have hltI : (p : Int) < rs.length := by omega
      obtain ⟨r, hr⟩ : ∃ r, rs[p]? = some r := ⟨_, List.getElem?_eq_getElem hlt⟩
      obtain ⟨g, rfl⟩ : ∃ g, ra = some ⟨g, 0, none⟩ := by
        obtain ⟨g, c', e1, _⟩ := own_cells HO.out (j := p * 18) (List.getElem?_eq_getElem (by rw [flatR_len]; omega))
        cases e1; exact ⟨g, rfl⟩
      have R1 : Hid (wr.rangeAt g (p * 18) (evl r)) := rowR_at (own_fr HO.out F.out.1 (by simp)) hr
      have bA := heap_alloc_new wr (.cells #[.int .i64 0, .int .i64 0, .int .i64 0, .int .i64 0, .int .i64 0, .int .i64 0, .int .i64 0, .int .i64 0, .int .i64 0, .int .i64 0, .int .i64 0, .int .i64 0, .int .i64 0, .slice none 0 0, .slice none 0 0, .slice none 0 0, .slice none 0 0, .slice none 0 0] 52)
      have FB : Fr [] wr ((wr.alloc (.cells #[.int .i64 0, .int .i64 0, .int .i64 0, .int .i64 0, .int .i64 0, .int .i64 0, .int .i64 0, .int .i64 0, .int .i64 0, .int .i64 0, .int .i64 0, .int .i64 0, .int .i64 0, .slice none 0 0, .slice none 0 0, .slice none 0 0, .slice none 0 0, .slice none 0 0] 52)).setRow wr.heap.size (evl r).toArray) := ((Fr.refl _ _).alloc _).setRow (.inr (Nat.le_refl _)) _
      have bB := setRow_heap (wr.alloc (.cells #[.int .i64 0, .int .i64 0, .int .i64 0, .int .i64 0, .int .i64 0, .int .i64 0, .int .i64 0, .int .i64 0, .int .i64 0, .int .i64 0, .int .i64 0, .int .i64 0, .int .i64 0, .slice none 0 0, .slice none 0 0, .slice none 0 0, .slice none 0 0, .slice none 0 0] 52)) wr.heap.size _ (evl r).toArray _ _ bA
      have HA : Hid ((wr.alloc (.cells #[.int .i64 0, .int .i64 0, .int .i64 0, .int .i64 0, .int .i64 0, .int .i64 0, .int .i64 0, .int .i64 0, .int .i64 0, .int .i64 0, .int .i64 0, .int .i64 0, .int .i64 0, .slice none 0 0, .slice none 0 0, .slice none 0 0, .slice none 0 0, .slice none 0 0] 52)).heap[wr.heap.size]? = some (.cells #[.int .i64 0, .int .i64 0, .int .i64 0, .int .i64 0, .int .i64 0, .int .i64 0, .int .i64 0, .int .i64 0, .int .i64 0, .int .i64 0, .int .i64 0, .int .i64 0, .int .i64 0, .slice none 0 0, .slice none 0 0, .slice none 0 0, .slice none 0 0, .slice none 0 0] 52 (0, 0))) := bA
      have kx : ((wr.alloc (.cells #[.int .i64 0, .int .i64 0, .int .i64 0, .int .i64 0, .int .i64 0, .int .i64 0, .int .i64 0, .int .i64 0, .int .i64 0, .int .i64 0, .int .i64 0, .int .i64 0, .int .i64 0, .slice none 0 0, .slice none 0 0, .slice none 0 0, .slice none 0 0, .slice none 0 0] 52)).setRow wr.heap.size (evl r).toArray).cell? ⟨wr.heap.size, 0, none⟩ = some (.int .i64 r.1) := at_cells bB 0 rfl
      have HF : Hid (Fr [] w ((wr.alloc (.cells #[.int .i64 0, .int .i64 0, .int .i64 0, .int .i64 0, .int .i64 0, .int .i64 0, .int .i64 0, .int .i64 0, .int .i64 0, .int .i64 0, .int .i64 0, .int .i64 0, .int .i64 0, .slice none 0 0, .slice none 0 0, .slice none 0 0, .slice none 0 0, .slice none 0 0] 52)).setRow wr.heap.size (evl r).toArray)) := F.out.1.trans FB
      have HR : Hid (rs[p]? = some r ∧ ∀ j r, j < p → rs[j]? = some r → r.1 ≠ i) := ⟨hr, F.out.2⟩
      clear bA bB FB hr F
      go_upto_region 4 with (first
        | refine wpList_load_mid rfl 52 (.tmp 14) rfl g (p * 18) rfl (evl r) _ R1.out Try.underlying52 rfl (by rw [info52, evl_len]) ?_
        | refine wpList_store_row rfl 52 (.tmp 6) (.tmp 15) rfl wr.heap.size (evl r).toArray rfl rfl 52 _ HA.out (by rw [info52, evl_size]) (by rw [evl_size]; rfl) (evl_one r) ?_)
      clear R1 HA
      generalize (wr.alloc (.cells #[.int .i64 0, .int .i64 0, .int .i64 0, .int .i64 0, .int .i64 0, .int .i64 0, .int .i64 0, .int .i64 0, .int .i64 0, .int .i64 0, .int .i64 0, .int .i64 0, .int .i64 0, .slice none 0 0, .slice none 0 0, .slice none 0 0, .slice none 0 0, .slice none 0 0] 52)).setRow wr.heap.size (evl r).toArray = X at *
      generalize wr.heap.size = bx at *
      by_cases heq : r.1 = i
      · have HE : Hid (heldB S i = true) := by
          show heldB S i = true
          rw [HL.out, List.any_eq_true]
          exact ⟨r, List.mem_of_getElem? HR.out.1, by simp [heq]⟩
        generalize r.1 = ri at *
        subst heq
        go_wp2
        go_ret
        exact ⟨by rw [HE.out]; rfl, HF.out⟩
      · have HN : Hid (Fr [] w X ∧ ∀ j r, j < p + 1 → rs[j]? = some r → r.1 ≠ i) := ⟨HF.out, fun j r' hj hr' => by
          rcases Nat.lt_or_ge j p with h | h
          · exact HR.out.2 j r' h hr'
          · obtain rfl : j = p := by omega
            rw [HR.out.1] at hr'
            cases hr'
            exact heq⟩
        generalize r.1 = ri at *
        clear HR HF
        go_wp2
        go_roundw
        case rel => exact ⟨p + 1, hlt, by go_num, HN⟩
        case measure => simp [intOf]; omega
    · obtain rfl : p = rs.length := by omega
      have HFI : Hid (heldB S i = false ∧ Fr [] w wr) := by
        refine ⟨?_, F.out.1⟩
        rw [HL.out, List.any_eq_false]
        intro r hr
        obtain ⟨j, hj⟩ := List.getElem?_of_mem hr
        have := F.out.2 j r (List.getElem?_eq_some_iff.1 hj).1 hj
        simpa using this
      clear F
      go_wp2
      go_ret
      exact ⟨by rw [HFI.out.1]; rfl, HFI.out.2⟩
end Go.Proofs.Ytnhjplfdfbbihaa
