/-
  A trace is looked at whole: pure, and the judge; conditions: the trace and the judge lie as told.
-/
import Derived.Test.YtkogfgbgmifcnaaDoorTcP
namespace Go.Proofs.YtkogfgbgmifcnaaDoor
open Go.RowKit Go.Shelf Go.Maps Go.ChangeShapes
set_option linter.unusedVariables false
set_option linter.unusedSimpArgs false
def linksOk (nv : Nat) : Nat → List AE → Bool
  | _, [] => true
  | n, e :: r => linkOk nv n e && linksOk nv (n + 1) r
def opsP (a : AT) : MK → Nat → List AE → Option Int
  | _, _, [] => none
  | m, i, e :: r => if opOk a m i (e.p.headD 0) e.l (e.q.getD 0 0) (e.q.getD 1 0) (e.q.getD 2 0) then opsP a (walkP a m (e.q.getD 2 0)).2 (i + 1) r else some (i : Int)
def MK.start (a : AT) : MK := ⟨List.replicate a.links.length false, List.replicate a.virts.length false⟩
def restOk (a : AT) : Bool := ((decide (0 ≤ a.k.2.1) && decide (a.k.2.1 ≤ 4)) && insOk (-1) a.ins) && backOk a a.ops.length
/-- Where a trace is wrong: an operation, or how many there are. -/
def wholeP (a : AT) : Option Int := if linksOk a.virts.length 0 a.links && a.virts.all (virtOk a.virts.length) then (match opsP a (MK.start a) 0 a.ops with
  | some i => some i
  | none => if restOk a then none else some (a.ops.length : Int)) else some (a.ops.length : Int)
theorem linksOk_drop {nv : Nat} {L : List AE} {n q : Nat} {e : AE} (h : L[q]? = some e) : linksOk nv n (L.drop q) = (linkOk nv n e && linksOk nv (n + 1) (L.drop (q + 1))) := by
  obtain ⟨hq, rfl⟩ := List.getElem?_eq_some_iff.1 h
  rw [List.drop_eq_getElem_cons hq]
  rfl
theorem opsP_drop {a : AT} {L : List AE} {m : MK} {q : Nat} {e : AE} (h : L[q]? = some e) : opsP a m q (L.drop q) = if opOk a m q (e.p.headD 0) e.l (e.q.getD 0 0) (e.q.getD 1 0) (e.q.getD 2 0) then opsP a (walkP a m (e.q.getD 2 0)).2 (q + 1) (L.drop (q + 1)) else some (q : Int) := by
  obtain ⟨hq, rfl⟩ := List.getElem?_eq_some_iff.1 h
  rw [List.drop_eq_getElem_cons hq]
  rfl
theorem linksOk_at {nv : Nat} : ∀ {L : List AE} {n q : Nat} {e : AE}, linksOk nv n L = true → L[q]? = some e → linkOk nv (n + q) e = true
  | [], n, q, e, _, h => by simp at h
  | x :: r, n, 0, e, hl, h => by
    simp at h
    subst h
    simp only [linksOk, Bool.and_eq_true] at hl
    exact hl.1
  | x :: r, n, q + 1, e, hl, h => by
    simp only [linksOk, Bool.and_eq_true] at hl
    have := linksOk_at (n := n + 1) (q := q) hl.2 (by simpa using h)
    rw [show n + (q + 1) = n + 1 + q by omega]
    exact this
theorem good_of {a : AT} (h1 : linksOk a.virts.length 0 a.links = true) (h2 : a.virts.all (virtOk a.virts.length) = true) (hw : ATOk a) : GoodT a := by
  refine ⟨fun n e he => ?_, fun x hx => ?_, fun x hx => ?_⟩
  · have := linksOk_at h1 he
    simp only [linkOk, Bool.and_eq_true, decide_eq_true_eq] at this
    omega
  · rcases hx with ⟨e, he, hx⟩ | ⟨e, he, hx⟩
    · obtain ⟨i, hi⟩ := List.getElem?_of_mem he
      have := linksOk_at h1 hi
      simp only [linkOk, Bool.and_eq_true] at this
      exact List.all_eq_true.1 this.2 x hx
    · have := List.all_eq_true.1 h2 e he
      simp only [virtOk, Bool.and_eq_true] at this
      exact List.all_eq_true.1 this.2 x hx
  · rcases hx with ⟨e, he, hx⟩ | ⟨e, he, hx⟩
    · exact hw.lw e he x hx
    · exact hw.vw e he x hx
theorem Tr.jc_set17 (t : Tr) (p q : Int) (wp : Value) : (t.jc p wp).setIfInBounds 17 (.int .i64 q) = t.jc q wp := by
  obtain ⟨⟨x0, x1, x2, x3, x4, x5, x6, x7, x8, x9⟩, _, _, _, _, _, _, _, _, _, _, _, _, _, _, _, _, _⟩ := t; rfl
theorem Tr.jc_set18 (t : Tr) (p : Int) (wp wq : Value) : (t.jc p wp).setIfInBounds 18 wq = t.jc p wq := by
  obtain ⟨⟨x0, x1, x2, x3, x4, x5, x6, x7, x8, x9⟩, _, _, _, _, _, _, _, _, _, _, _, _, _, _, _, _, _⟩ := t; rfl
theorem JB.set17 {w : World} {jb : Nat} {t : Tr} {p : Int} {wp : Value} (h : JB w jb t p wp) (q : Int) : JB (w.setCell ⟨jb, 17, none⟩ (.int .i64 q)) jb t q wp := by
  have := set_cells 17 (.int .i64 q) h
  rw [Tr.jc_set17] at this
  exact this
theorem JB.set18 {w : World} {jb : Nat} {t : Tr} {p : Int} {wp : Value} (h : JB w jb t p wp) (wq : Value) : JB (w.setCell ⟨jb, 18, none⟩ wq) jb t p wq := by
  have := set_cells 18 wq h
  rw [Tr.jc_set18] at this
  exact this
theorem Tr.at_kn (t : Tr) : t.arr[1]? = some (.int .i64 t.k.2.1) := by
  obtain ⟨⟨x0, x1, x2, x3, x4, x5, x6, x7, x8, x9⟩, _, _, _, _, _, _, _, _, _, _, _, _, _, _, _, _, _⟩ := t; rfl
theorem JB.range {w : World} {jb : Nat} {t : Tr} {p : Int} {wp : Value} (h : JB w jb t p wp) : w.rangeAt jb 0 t.cl := fun j v hv => by
  rw [Nat.zero_add]
  exact at_cells h j (t.jc_arr p wp (by simpa [Tr.arr] using hv))
theorem wpList_ld57 {ops : Array Oper} {rest : List Oper} {o : Oper} {a : Act} {w : World} {Q : Exit → Act → World → Prop} (hgd : o.guard = none) (x : Operand) (ho : o.op = .load 57 x)
    (g : Nat) (hx : a.eval x = .pointer (some ⟨g, 0, none⟩)) (A : Array Value) (hA : A.size = 5) (hg : w.heap[g]? = some (.cells A 57 (0, 0)))
    (h : wpList Tryd.prog ops Q rest (a.put o.dst (.agg A)) w) : wpList Tryd.prog ops Q (o :: rest) a w :=
  wpList_load_row hgd 57 x ho g hx 57 A (0, 0) _ hg Tryd.underlying57 rfl (by rw [hA]; exact info57) h
theorem wpList_ld59 {ops : Array Oper} {rest : List Oper} {o : Oper} {a : Act} {w : World} {Q : Exit → Act → World → Prop} (hgd : o.guard = none) (x : Operand) (ho : o.op = .load 59 x)
    (g : Nat) (hx : a.eval x = .pointer (some ⟨g, 0, none⟩)) (A : Array Value) (hA : A.size = 2) (hg : w.heap[g]? = some (.cells A 59 (0, 0)))
    (h : wpList Tryd.prog ops Q rest (a.put o.dst (.agg A)) w) : wpList Tryd.prog ops Q (o :: rest) a w :=
  wpList_load_row hgd 59 x ho g hx 59 A (0, 0) _ hg Tryd.underlying59 rfl (by rw [hA]; exact info59) h
set_option maxRecDepth 100000 in
set_option maxHeartbeats 16000000 in
theorem whole70 {w0 w : World} {B : Nat} {t : Tr} {jb : Nat} {p0 : Int} (sp : TellSpec t) (hF : Fr [] w0 w) (ht : Tab w0) (hT : TrOk w0 B t) (ha : ATOk t.abs) (hj : JB w jb t p0 (.pointer none)) (hlo : w0.heap.size ≤ jb) :
    Calls Tryd.prog 70 #[.pointer (some ⟨jb, 0, none⟩)] w fun e w' => Fr [] w0 w' ∧ ((wholeP t.abs = none ∧ e = .returned (.tuple #[])) ∨ (∃ i, wholeP t.abs = some i ∧ e = thrown i)) := by
  obtain ⟨R, hR⟩ : ∃ R : Ending → World → Prop, R = fun e w' => Fr [] w0 w' ∧ ((wholeP t.abs = none ∧ e = .returned (.tuple #[])) ∨ (∃ i, wholeP t.abs = some i ∧ e = thrown i)) := ⟨_, rfl⟩
  rw [← hR]
  have HNO : Hid (∀ i w', wholeP t.abs = some i → Fr [] w0 w' → R (thrown i) w') := by
    intro i w' h f
    rw [hR]
    exact ⟨f, .inr ⟨i, h, rfl⟩⟩
  have HYE : Hid (wholeP t.abs = none → ∀ w', Fr [] w0 w' → R (.returned (.tuple #[])) w') := by
    intro h w' f
    rw [hR]
    exact ⟨f, .inl ⟨h, rfl⟩⟩
  clear hR
  have c13 : w.cell? ⟨jb, 13, none⟩ = some (.slice t.oa t.ops.length t.oc) := at_cells hj 13 (t.jc_arr p0 _ t.at_ops)
  have c17 : w.cell? ⟨jb, 17, none⟩ = some (.int .i64 p0) := at_cells hj 17 (t.jc_at p0 _)
  have z17 : w.frozen? ⟨jb, 17, none⟩ = false := frz hj
  have nO : (t.ops.length : Int) ≤ 140737488355328 := by have := hT.ops.fit; omega
  have nL : (t.links.length : Int) ≤ 140737488355328 := by have := hT.links.fit; omega
  have nV : (t.virts.length : Int) ≤ 140737488355328 := by have := hT.virts.fit; omega
  have HG : Hid (TellSpec t ∧ Tab w0 ∧ TrOk w0 B t ∧ ATOk t.abs ∧ w0.heap.size ≤ jb) := ⟨sp, ht, hT, ha, hlo⟩
  have HNL : Hid (t.ops.length = t.abs.ops.length ∧ t.links.length = t.abs.links.length ∧ t.virts.length = t.abs.virts.length) := ⟨by simp [Tr.abs], by simp [Tr.abs], by simp [Tr.abs]⟩
  have HW : Hid (Fr [] w0 w ∧ JB w jb t p0 (.pointer none)) := ⟨hF, hj⟩
  clear sp hF ht hT ha hj hlo
  go_enter Tryd.func70, Tryd.ntmps70
  go_upto_region 1 with fail
  have F1 : Fr [] w0 (w.setCell ⟨jb, 17, none⟩ (.int .i64 t.ops.length)) := HW.out.1.setCell (.inr HG.out.2.2.2.2) _
  have J1 := HW.out.2.set17 t.ops.length
  generalize w.setCell ⟨jb, 17, none⟩ (.int .i64 t.ops.length) = W1 at *
  have HW1 : Hid (Fr [] w0 W1 ∧ JB W1 jb t t.ops.length (.pointer none)) := ⟨F1, J1⟩
  have c14 : W1.cell? ⟨jb, 14, none⟩ = some (.slice t.la t.links.length t.lc) := at_cells J1 14 (t.jc_arr _ _ t.at_links)
  clear c13 c17 z17 F1 J1 HW
  go_upto_region 2 with fail
  go_loopw [23] (fun i wr => ∃ q : Nat, q ≤ t.links.length ∧ i = .int .i64 q ∧ Hid (Fr [] W1 wr ∧ (linksOk t.abs.virts.length 0 t.abs.links = linksOk t.abs.virts.length q (t.abs.links.drop q)))) (fun i _ => t.links.length - (intOf i).toNat)
  case atStart => exact ⟨0, Nat.zero_le _, rfl, Fr.refl _ _, rfl⟩
  case round =>
    obtain ⟨q, hq, rfl, F⟩ := hrel
    by_cases hlt : q < t.links.length
    · have hpI : (q : Int) < t.links.length := by omega
      have HTw : Hid (TrOk wr B t) := HG.out.2.2.1.fr0 (HW1.out.1.trans F.out.1)
      obtain ⟨e, he⟩ : ∃ e, t.links[q]? = some e := ⟨_, List.getElem?_eq_getElem hlt⟩
      have hea : t.abs.links[q]? = some e.abs := by show (t.links.map El.abs)[q]? = _; simp [he]
      have hlw := HG.out.2.2.2.1.lw e.abs (List.mem_of_getElem? hea)
      have ok1 := HTw.out.linkl e (List.mem_of_getElem? he)
      obtain ⟨b, o, e1, r1, _⟩ := HTw.out.links.elem (f := El.cl) (fun x hx => El.cl_len (HTw.out.linkl x hx)) (by omega) he
      obtain ⟨ep, eq, a, c, l⟩ := e
      obtain ⟨up, fn, pc, it, rfl⟩ := len4 ok1.hp
      obtain rfl := List.eq_nil_of_length_eq_zero ok1.hq
      change ∀ s ∈ l, s.w at hlw
      have SL1 := ok1.sl
      simp only at SL1
      have RT : Hid (wr.rangeAt b (o + q * 5) [.int .i64 up, .int .i64 fn, .int .i64 pc, .int .i64 it, .slice a l.length c]) := r1
      have hI : Hid ((Tryd.prog.info? 57).map (·.size) = some ([.int .i64 up, .int .i64 fn, .int .i64 pc, .int .i64 it, .slice a l.length c] : List Value).length) := info57
      rw [e1]
      have bA := heap_alloc_new wr (.cells #[.int .i64 0, .int .i64 0, .int .i64 0, .int .i64 0, .slice none 0 0] 57)
      have FA : Fr [] wr ((wr.alloc (.cells #[.int .i64 0, .int .i64 0, .int .i64 0, .int .i64 0, .slice none 0 0] 57)).setRow wr.heap.size ([.int .i64 up, .int .i64 fn, .int .i64 pc, .int .i64 it, .slice a l.length c] : List Value).toArray) := ((Fr.refl _ _).alloc _).setRow (.inr (Nat.le_refl _)) _
      have bB := setRow_heap (wr.alloc (.cells #[.int .i64 0, .int .i64 0, .int .i64 0, .int .i64 0, .slice none 0 0] 57)) wr.heap.size _ ([.int .i64 up, .int .i64 fn, .int .i64 pc, .int .i64 it, .slice a l.length c] : List Value).toArray _ _ bA
      have HA : Hid ((wr.alloc (.cells #[.int .i64 0, .int .i64 0, .int .i64 0, .int .i64 0, .slice none 0 0] 57)).heap[wr.heap.size]? = some (.cells #[.int .i64 0, .int .i64 0, .int .i64 0, .int .i64 0, .slice none 0 0] 57 (0, 0))) := bA
      have HBx : Hid (((wr.alloc (.cells #[.int .i64 0, .int .i64 0, .int .i64 0, .int .i64 0, .slice none 0 0] 57)).setRow wr.heap.size ([.int .i64 up, .int .i64 fn, .int .i64 pc, .int .i64 it, .slice a l.length c] : List Value).toArray).heap[wr.heap.size]? = some (.cells ([.int .i64 up, .int .i64 fn, .int .i64 pc, .int .i64 it, .slice a l.length c] : List Value).toArray 57 (0, 0)) ∧ Fr [] W1 ((wr.alloc (.cells #[.int .i64 0, .int .i64 0, .int .i64 0, .int .i64 0, .slice none 0 0] 57)).setRow wr.heap.size ([.int .i64 up, .int .i64 fn, .int .i64 pc, .int .i64 it, .slice a l.length c] : List Value).toArray)) := ⟨bB, F.out.1.trans FA⟩
      have HJS : ∀ w', Fr [] W1 w' → JS w' B t jb t.ops.length (.pointer none) := fun w' f => ⟨HG.out.2.1.fr0 (HW1.out.1.trans f), HG.out.2.2.1.fr0 (HW1.out.1.trans f), HW1.out.2.fr0 f⟩
      have SLx := SL1.fr FA (Away.nil _ _)
      have C3 := link91 (up := up) (fn := fn) (pc := pc) (it := it) (HJS _ HBx.out.2) q (by omega) (SLx) hlw
      rw [HNL.out.2.2] at C3
      unfold Jd at C3
      have HQ : Hid (t.abs.links[q]? = some ⟨[up, fn, pc, it], [], l⟩ ∧ (linksOk t.abs.virts.length 0 t.abs.links = linksOk t.abs.virts.length q (t.abs.links.drop q))) := ⟨hea, F.out.2⟩
      clear he ok1 r1 e1 bA bB FA hea hlw SL1 SLx HTw F HJS
      go_upto_region 4 with (first
        | refine wpList_load_mid rfl 57 (.tmp 26) rfl b (o + q * 5) rfl [.int .i64 up, .int .i64 fn, .int .i64 pc, .int .i64 it, .slice a l.length c] _ RT.out Tryd.underlying57 rfl hI.out ?_
        | refine wpList_store_row rfl 57 (.tmp 3) (.tmp 27) rfl wr.heap.size ([.int .i64 up, .int .i64 fn, .int .i64 pc, .int .i64 it, .slice a l.length c] : List Value).toArray rfl rfl 57 _ HA.out info57 rfl (by simp [Value.oneCell']) ?_)
      clear RT HA hI
      generalize (wr.alloc (.cells #[.int .i64 0, .int .i64 0, .int .i64 0, .int .i64 0, .slice none 0 0] 57)).setRow wr.heap.size ([.int .i64 up, .int .i64 fn, .int .i64 pc, .int .i64 it, .slice a l.length c] : List Value).toArray = X at *
      generalize wr.heap.size = bx at *
      cases ho : linkOk t.abs.virts.length q ⟨[up, fn, pc, it], [], l⟩ with
      | true =>
        rw [ho] at C3
        simp only [if_true] at C3
        have HQ2 : Hid (linksOk t.abs.virts.length 0 t.abs.links = linksOk t.abs.virts.length (q + 1) (t.abs.links.drop (q + 1))) := by unfold Hid; rw [HQ.out.2, linksOk_drop HQ.out.1, ho]; rfl
        clear ho HQ
        go_wp2_with (first
          | refine wpList_ld57 rfl (.tmp 3) rfl bx rfl ([.int .i64 up, .int .i64 fn, .int .i64 pc, .int .i64 it, .slice a l.length c] : List Value).toArray rfl HBx.out.1 ?_
          | (go_at_call 91; refine C3.mono ?_; rintro e w9 ⟨rfl, f9⟩; have HF9 : Hid (Fr [] W1 w9) := HBx.out.2.trans f9; clear f9 C3))
        go_roundw
        case rel => exact ⟨q + 1, hlt, by go_num, HF9.out, HQ2.out⟩
        case measure => simp [intOf]; omega
      | false =>
        rw [ho] at C3
        simp only [Bool.false_eq_true, if_false, thrown] at C3
        have HE : Hid (wholeP t.abs = some (t.ops.length : Int)) := by
          unfold Hid wholeP
          rw [HQ.out.2, linksOk_drop HQ.out.1, ho, HNL.out.1]
          rfl
        clear ho
        go_wp2_with (first
          | refine wpList_ld57 rfl (.tmp 3) rfl bx rfl ([.int .i64 up, .int .i64 fn, .int .i64 pc, .int .i64 it, .slice a l.length c] : List Value).toArray rfl HBx.out.1 ?_
          | (go_at_call 91; refine C3.mono ?_; rintro e w9 ⟨rfl, f9⟩; have HF9 : Hid (Fr [] W1 w9) := HBx.out.2.trans f9; clear f9 C3))
        exact ⟨rfl, HNO.out _ _ HE.out (HW1.out.1.trans HF9.out)⟩
    · obtain rfl : q = t.links.length := by omega
      have HLK : Hid (linksOk t.abs.virts.length 0 t.abs.links = true) := by unfold Hid; rw [F.out.2, HNL.out.2.1, List.drop_length]; rfl
      have HFL : Hid (Fr [] W1 wr) := F.out.1
      have c15 : wr.cell? ⟨jb, 15, none⟩ = some (.slice t.va t.virts.length t.vc) := at_cells (HW1.out.2.fr0 HFL.out) 15 (t.jc_arr _ _ t.at_virts)
      clear F c14 hq hlt
      go_upto_region 7 with fail
      clear c15
      go_loopw [39] (fun i wr => ∃ q : Nat, q ≤ t.virts.length ∧ i = .int .i64 q ∧ Hid (Fr [] W1 wr ∧ (∀ j y, j < q → t.abs.virts[j]? = some y → virtOk t.abs.virts.length y = true))) (fun i _ => t.virts.length - (intOf i).toNat)
      case atStart => exact ⟨0, Nat.zero_le _, rfl, HFL.out, fun j y hj => by omega⟩
      case round =>
        obtain ⟨q, hq, rfl, F⟩ := hrel
        by_cases hlt : q < t.virts.length
        · have hpI : (q : Int) < t.virts.length := by omega
          have HTw : Hid (TrOk wr B t) := HG.out.2.2.1.fr0 (HW1.out.1.trans F.out.1)
          obtain ⟨e, he⟩ : ∃ e, t.virts[q]? = some e := ⟨_, List.getElem?_eq_getElem hlt⟩
          have hea : t.abs.virts[q]? = some e.abs := by show (t.virts.map El.abs)[q]? = _; simp [he]
          have hlw := HG.out.2.2.2.1.vw e.abs (List.mem_of_getElem? hea)
          have ok1 := HTw.out.virtl e (List.mem_of_getElem? he)
          obtain ⟨b, o, e1, r1, _⟩ := HTw.out.virts.elem (f := El.cl) (fun x hx => El.cl_len (HTw.out.virtl x hx)) (by omega) he
          obtain ⟨ep, eq, a, c, l⟩ := e
          obtain ⟨rc, rfl⟩ := len1 ok1.hp
          obtain rfl := List.eq_nil_of_length_eq_zero ok1.hq
          change ∀ s ∈ l, s.w at hlw
          have SL1 := ok1.sl
          simp only at SL1
          have RT : Hid (wr.rangeAt b (o + q * 2) [.int .i64 rc, .slice a l.length c]) := r1
          have hI : Hid ((Tryd.prog.info? 59).map (·.size) = some ([.int .i64 rc, .slice a l.length c] : List Value).length) := info59
          rw [e1]
          have bA := heap_alloc_new wr (.cells #[.int .i64 0, .slice none 0 0] 59)
          have FA : Fr [] wr ((wr.alloc (.cells #[.int .i64 0, .slice none 0 0] 59)).setRow wr.heap.size ([.int .i64 rc, .slice a l.length c] : List Value).toArray) := ((Fr.refl _ _).alloc _).setRow (.inr (Nat.le_refl _)) _
          have bB := setRow_heap (wr.alloc (.cells #[.int .i64 0, .slice none 0 0] 59)) wr.heap.size _ ([.int .i64 rc, .slice a l.length c] : List Value).toArray _ _ bA
          have HA : Hid ((wr.alloc (.cells #[.int .i64 0, .slice none 0 0] 59)).heap[wr.heap.size]? = some (.cells #[.int .i64 0, .slice none 0 0] 59 (0, 0))) := bA
          have HBx : Hid (((wr.alloc (.cells #[.int .i64 0, .slice none 0 0] 59)).setRow wr.heap.size ([.int .i64 rc, .slice a l.length c] : List Value).toArray).heap[wr.heap.size]? = some (.cells ([.int .i64 rc, .slice a l.length c] : List Value).toArray 59 (0, 0)) ∧ Fr [] W1 ((wr.alloc (.cells #[.int .i64 0, .slice none 0 0] 59)).setRow wr.heap.size ([.int .i64 rc, .slice a l.length c] : List Value).toArray)) := ⟨bB, F.out.1.trans FA⟩
          have HJS : ∀ w', Fr [] W1 w' → JS w' B t jb t.ops.length (.pointer none) := fun w' f => ⟨HG.out.2.1.fr0 (HW1.out.1.trans f), HG.out.2.2.1.fr0 (HW1.out.1.trans f), HW1.out.2.fr0 f⟩
          have SLx := SL1.fr FA (Away.nil _ _)
          have C3 := virt92 (rc := rc) (HJS _ HBx.out.2) (SLx) hlw
          rw [HNL.out.2.2] at C3
          unfold Jd at C3
          have HQ : Hid (t.abs.virts[q]? = some ⟨[rc], [], l⟩ ∧ (∀ j y, j < q → t.abs.virts[j]? = some y → virtOk t.abs.virts.length y = true)) := ⟨hea, F.out.2⟩
          clear he ok1 r1 e1 bA bB FA hea hlw SL1 SLx HTw F HJS
          go_upto_region 9 with (first
            | refine wpList_load_mid rfl 59 (.tmp 41) rfl b (o + q * 2) rfl [.int .i64 rc, .slice a l.length c] _ RT.out Tryd.underlying59 rfl hI.out ?_
            | refine wpList_store_row rfl 59 (.tmp 5) (.tmp 42) rfl wr.heap.size ([.int .i64 rc, .slice a l.length c] : List Value).toArray rfl rfl 59 _ HA.out info59 rfl (by simp [Value.oneCell']) ?_)
          clear RT HA hI
          generalize (wr.alloc (.cells #[.int .i64 0, .slice none 0 0] 59)).setRow wr.heap.size ([.int .i64 rc, .slice a l.length c] : List Value).toArray = X at *
          generalize wr.heap.size = bx at *
          cases ho : virtOk t.abs.virts.length ⟨[rc], [], l⟩ with
          | true =>
            rw [ho] at C3
            simp only [if_true] at C3
            have HQ2 : Hid (∀ j y, j < q + 1 → t.abs.virts[j]? = some y → virtOk t.abs.virts.length y = true) := ahead_next HQ.out.2 HQ.out.1 ho
            clear ho HQ
            go_wp2_with (first
              | refine wpList_ld59 rfl (.tmp 5) rfl bx rfl ([.int .i64 rc, .slice a l.length c] : List Value).toArray rfl HBx.out.1 ?_
              | (go_at_call 92; refine C3.mono ?_; rintro e w9 ⟨rfl, f9⟩; have HF9 : Hid (Fr [] W1 w9) := HBx.out.2.trans f9; clear f9 C3))
            go_roundw
            case rel => exact ⟨q + 1, hlt, by go_num, HF9.out, HQ2.out⟩
            case measure => simp [intOf]; omega
          | false =>
            rw [ho] at C3
            simp only [Bool.false_eq_true, if_false, thrown] at C3
            have HE : Hid (wholeP t.abs = some (t.ops.length : Int)) := by
              unfold Hid wholeP
              rw [all_not HQ.out.1 ho, HNL.out.1]
              simp
            clear ho
            go_wp2_with (first
              | refine wpList_ld59 rfl (.tmp 5) rfl bx rfl ([.int .i64 rc, .slice a l.length c] : List Value).toArray rfl HBx.out.1 ?_
              | (go_at_call 92; refine C3.mono ?_; rintro e w9 ⟨rfl, f9⟩; have HF9 : Hid (Fr [] W1 w9) := HBx.out.2.trans f9; clear f9 C3))
            exact ⟨rfl, HNO.out _ _ HE.out (HW1.out.1.trans HF9.out)⟩
        · obtain rfl : q = t.virts.length := by omega
          have HVS : Hid (t.abs.virts.all (virtOk t.abs.virts.length) = true) := all_take (fun j x hj hx => F.out.2 j x (by rw [HNL.out.2.2]; exact hj) hx)
          have HGD : Hid (GoodT t.abs) := good_of HLK.out HVS.out HG.out.2.2.2.1
          have FV := HW1.out.1.trans F.out.1
          have JV := HW1.out.2.fr0 F.out.1
          have CF := walkOf62 (HG.out.2.2.1.fr0 FV)
          have c18 : wr.cell? ⟨jb, 18, none⟩ = some (.pointer none) := at_cells JV 18 (t.jc_wp _ _)
          have HV : Hid (Fr [] w0 wr ∧ JB wr jb t t.ops.length (.pointer none) ∧ wr.rangeAt jb 0 t.cl ∧ jb < wr.heap.size) := ⟨FV, JV, JV.range, at_lt JV⟩
          clear F FV JV HFL hq hlt HW1 c18
          go_upto_region 12 with (first
            | refine wpList_load_mid rfl 33 (.tmp 50) rfl jb 0 rfl t.cl _ HV.out.2.2.1 Tryd.underlying33 rfl (by rw [t.cl_len]; exact info33) ?_
            | (go_at_call 62; refine CF.mono ?_; rintro e Wv ⟨wb, lk, vk, rfl, hwk, fv, h1, h2, h3⟩; have c18 : Wv.cell? ⟨jb, 18, none⟩ = some (.pointer none) := at_cells (HV.out.2.1.fr0 fv) 18 (t.jc_wp _ _); have z18 : Wv.frozen? ⟨jb, 18, none⟩ = false := frz (HV.out.2.1.fr0 fv); have HX0 : Hid (WK Wv wb lk vk t (MK.start t.abs) ∧ Fr [] wr Wv ∧ wr.heap.size ≤ wb ∧ wr.heap.size ≤ lk ∧ wr.heap.size ≤ vk) := ⟨by unfold MK.start; rw [← HNL.out.2.1, ← HNL.out.2.2]; exact hwk, fv, h1, h2, h3⟩; clear hwk fv h1 h2 h3 CF))
          clear c18 z18
          have hjl := HV.out.2.2.2
          have hx0 := HX0.out
          have hlo := HG.out.2.2.2.2
          have F3 : Fr [jb] Wv (Wv.setCell ⟨jb, 18, none⟩ (.pointer (some ⟨wb, 0, none⟩))) := (Fr.refl _ _).setCell (.inl (by simp)) _
          have HB3 : Hid (Fr [] w0 (Wv.setCell ⟨jb, 18, none⟩ (.pointer (some ⟨wb, 0, none⟩))) ∧ JB (Wv.setCell ⟨jb, 18, none⟩ (.pointer (some ⟨wb, 0, none⟩))) jb t t.ops.length (.pointer (some ⟨wb, 0, none⟩)) ∧ WK (Wv.setCell ⟨jb, 18, none⟩ (.pointer (some ⟨wb, 0, none⟩))) wb lk vk t (MK.start t.abs) ∧ (jb < wb ∧ jb < lk ∧ jb < vk)) := ⟨(HV.out.1.trans HX0.out.2.1).setCell (.inr hlo) _, (HV.out.2.1.fr0 HX0.out.2.1).set18 _, HX0.out.1.fr F3 (by simp; omega) (by simp; omega) (by simp; omega), by omega, by omega, by omega⟩
          clear F3 hx0 HX0 HV hjl hlo
          generalize Wv.setCell ⟨jb, 18, none⟩ (.pointer (some ⟨wb, 0, none⟩)) = W3 at *
          have c13 : W3.cell? ⟨jb, 13, none⟩ = some (.slice t.oa t.ops.length t.oc) := at_cells HB3.out.2.1 13 (t.jc_arr _ _ t.at_ops)
          go_upto_region 13 with fail
          clear c13
          go_loopw [61] (fun i wr => ∃ (q : Nat) (m : MK) (p : Int), q ≤ t.ops.length ∧ i = .int .i64 q ∧ Hid (Fr [] w0 wr ∧ JB wr jb t p (.pointer (some ⟨wb, 0, none⟩)) ∧ WK wr wb lk vk t m ∧ opsP t.abs (MK.start t.abs) 0 t.abs.ops = opsP t.abs m q (t.abs.ops.drop q))) (fun i _ => t.ops.length - (intOf i).toNat)
          case atStart => exact ⟨0, _, _, Nat.zero_le _, rfl, HB3.out.1, HB3.out.2.1, HB3.out.2.2.1, rfl⟩
          case round =>
            obtain ⟨q, m, p, hq, rfl, F⟩ := hrel
            by_cases hlt : q < t.ops.length
            · have hpI : (q : Int) < t.ops.length := by omega
              obtain ⟨e, he⟩ : ∃ e, t.ops[q]? = some e := ⟨_, List.getElem?_eq_getElem hlt⟩
              have hea : t.abs.ops[q]? = some e.abs := by show (t.ops.map El.abs)[q]? = _; simp [he]
              have hlw := HG.out.2.2.2.1.ow e.abs (List.mem_of_getElem? hea)
              have ok1 := HG.out.2.2.1.opl e (List.mem_of_getElem? he)
              obtain ⟨b, ob, e1, r1, _⟩ := (HG.out.2.2.1.fr0 F.out.1).ops.elem (f := El.cl) (fun x hx => El.cl_len ((HG.out.2.2.1.fr0 F.out.1).opl x hx)) (by omega) he
              obtain ⟨ep, eq, a, c, l⟩ := e
              obtain ⟨o, rfl⟩ := len1 ok1.hp
              obtain ⟨k, cc, sn, rfl⟩ := len3 ok1.hq
              change ∀ s ∈ l, s.w at hlw
              have SL1 := ok1.sl
              simp only at SL1
              have RT : Hid (wr.rangeAt b (ob + q * 5) [.int .i64 o, .slice a l.length c, .int .i64 k, .int .i64 cc, .int .i64 sn]) := r1
              have hI : Hid ((Tryd.prog.info? 48).map (·.size) = some ([.int .i64 o, .slice a l.length c, .int .i64 k, .int .i64 cc, .int .i64 sn] : List Value).length) := info48
              rw [e1]
              have bA := heap_alloc_new wr (.cells #[.int .i64 0, .slice none 0 0, .int .i64 0, .int .i64 0, .int .i64 0] 48)
              have FA : Fr [] wr ((wr.alloc (.cells #[.int .i64 0, .slice none 0 0, .int .i64 0, .int .i64 0, .int .i64 0] 48)).setRow wr.heap.size ([.int .i64 o, .slice a l.length c, .int .i64 k, .int .i64 cc, .int .i64 sn] : List Value).toArray) := ((Fr.refl _ _).alloc _).setRow (.inr (Nat.le_refl _)) _
              have bB := setRow_heap (wr.alloc (.cells #[.int .i64 0, .slice none 0 0, .int .i64 0, .int .i64 0, .int .i64 0] 48)) wr.heap.size _ ([.int .i64 o, .slice a l.length c, .int .i64 k, .int .i64 cc, .int .i64 sn] : List Value).toArray _ _ bA
              have HA : Hid ((wr.alloc (.cells #[.int .i64 0, .slice none 0 0, .int .i64 0, .int .i64 0, .int .i64 0] 48)).heap[wr.heap.size]? = some (.cells #[.int .i64 0, .slice none 0 0, .int .i64 0, .int .i64 0, .int .i64 0] 48 (0, 0))) := bA
              have hjl := at_lt F.out.2.1
              have HBx : Hid (((wr.alloc (.cells #[.int .i64 0, .slice none 0 0, .int .i64 0, .int .i64 0, .int .i64 0] 48)).setRow wr.heap.size ([.int .i64 o, .slice a l.length c, .int .i64 k, .int .i64 cc, .int .i64 sn] : List Value).toArray).heap[wr.heap.size]? = some (.cells ([.int .i64 o, .slice a l.length c, .int .i64 k, .int .i64 cc, .int .i64 sn] : List Value).toArray 48 (0, 0)) ∧ Fr [] w0 ((wr.alloc (.cells #[.int .i64 0, .slice none 0 0, .int .i64 0, .int .i64 0, .int .i64 0] 48)).setRow wr.heap.size ([.int .i64 o, .slice a l.length c, .int .i64 k, .int .i64 cc, .int .i64 sn] : List Value).toArray) ∧ JB ((wr.alloc (.cells #[.int .i64 0, .slice none 0 0, .int .i64 0, .int .i64 0, .int .i64 0] 48)).setRow wr.heap.size ([.int .i64 o, .slice a l.length c, .int .i64 k, .int .i64 cc, .int .i64 sn] : List Value).toArray) jb t p (.pointer (some ⟨wb, 0, none⟩)) ∧ WK ((wr.alloc (.cells #[.int .i64 0, .slice none 0 0, .int .i64 0, .int .i64 0, .int .i64 0] 48)).setRow wr.heap.size ([.int .i64 o, .slice a l.length c, .int .i64 k, .int .i64 cc, .int .i64 sn] : List Value).toArray) wb lk vk t m ∧ jb < wr.heap.size) := ⟨bB, F.out.1.trans FA, F.out.2.1.fr0 FA, F.out.2.2.1.fr0 FA, hjl⟩
              have HQ : Hid (t.abs.ops[q]? = some ⟨[o], [k, cc, sn], l⟩ ∧ opsP t.abs (MK.start t.abs) 0 t.abs.ops = opsP t.abs m q (t.abs.ops.drop q)) := ⟨hea, F.out.2.2.2⟩
              have HSL : Hid (SL w0 B 51 a l.length c 4 32 (flatS l) ∧ (∀ s ∈ l, s.w)) := ⟨SL1, hlw⟩
              clear he ok1 r1 e1 bA bB FA hea hlw SL1 F hjl
              go_upto_region 15 with (first
                | refine wpList_load_mid rfl 48 (.tmp 64) rfl b (ob + q * 5) rfl [.int .i64 o, .slice a l.length c, .int .i64 k, .int .i64 cc, .int .i64 sn] _ RT.out Tryd.underlying48 rfl hI.out ?_
                | refine wpList_store_row rfl 48 (.tmp 7) (.tmp 65) rfl wr.heap.size ([.int .i64 o, .slice a l.length c, .int .i64 k, .int .i64 cc, .int .i64 sn] : List Value).toArray rfl rfl 48 _ HA.out info48 rfl (by simp [Value.oneCell']) ?_)
              clear RT HA hI
              generalize (wr.alloc (.cells #[.int .i64 0, .slice none 0 0, .int .i64 0, .int .i64 0, .int .i64 0] 48)).setRow wr.heap.size ([.int .i64 o, .slice a l.length c, .int .i64 k, .int .i64 cc, .int .i64 sn] : List Value).toArray = X at *
              generalize wr.heap.size = bx at *
              have c17 : X.cell? ⟨jb, 17, none⟩ = some (.int .i64 p) := at_cells HBx.out.2.2.1 17 (t.jc_at p _)
              have z17 : X.frozen? ⟨jb, 17, none⟩ = false := frz HBx.out.2.2.1
              go_upto_region 16 with fail
              have F4 : Fr [jb] X (X.setCell ⟨jb, 17, none⟩ (.int .i64 q)) := (Fr.refl _ _).setCell (.inl (by simp)) _
              have hne := HB3.out.2.2.2
              have hbx := HBx.out.2.2.2.2
              have HB4 : Hid ((X.setCell ⟨jb, 17, none⟩ (.int .i64 q)).heap[bx]? = some (.cells ([.int .i64 o, .slice a l.length c, .int .i64 k, .int .i64 cc, .int .i64 sn] : List Value).toArray 48 (0, 0)) ∧ Fr [] w0 (X.setCell ⟨jb, 17, none⟩ (.int .i64 q)) ∧ JB (X.setCell ⟨jb, 17, none⟩ (.int .i64 q)) jb t q (.pointer (some ⟨wb, 0, none⟩)) ∧ WK (X.setCell ⟨jb, 17, none⟩ (.int .i64 q)) wb lk vk t m) := ⟨(F4.block _ (at_lt HBx.out.1) (by simp; omega)).trans HBx.out.1, HBx.out.2.1.setCell (.inr HG.out.2.2.2.2) _, HBx.out.2.2.1.set17 q, HBx.out.2.2.2.1.fr F4 (by simp; omega) (by simp; omega) (by simp; omega)⟩
              clear F4 hbx HBx c17 z17
              generalize X.setCell ⟨jb, 17, none⟩ (.int .i64 q) = X4 at *
              have hlo := HG.out.2.2.2.2
              have C3 := operation93 HG.out.1 HB4.out.2.1 HG.out.2.1 HG.out.2.2.1 HGD.out HB4.out.2.2.1 HB4.out.2.2.2 ⟨hlo, by omega, by omega, by omega⟩ (by omega) (o := o) (k := k) (cc := cc) (sn := sn) HSL.out.1 HSL.out.2
              clear hne hlo
              cases ho : opOk t.abs m q o l k cc sn with
              | true =>
                rw [ho] at C3
                have HQ2 : Hid (opsP t.abs (MK.start t.abs) 0 t.abs.ops = opsP t.abs (walkP t.abs m sn).2 (q + 1) (t.abs.ops.drop (q + 1))) := by
                  unfold Hid
                  rw [HQ.out.2, opsP_drop HQ.out.1]
                  show (if opOk t.abs m q o l k cc sn = true then _ else _) = _
                  rw [ho]
                  rfl
                clear ho HQ HSL
                go_wp2_with (first
                  | refine wpList_ld48 rfl (.tmp 7) rfl bx rfl ([.int .i64 o, .slice a l.length c, .int .i64 k, .int .i64 cc, .int .i64 sn] : List Value).toArray rfl HB4.out.1 ?_
                  | (go_at_call 93; refine C3.mono ?_; rintro e w9 ⟨f9, ⟨_, rfl, j9, wk9⟩ | ⟨h9, _⟩⟩; rotate_left; cases h9; have HD : Hid (Fr [] w0 w9 ∧ JB w9 jb t q (.pointer (some ⟨wb, 0, none⟩)) ∧ WK w9 wb lk vk t (walkP t.abs m sn).2) := ⟨f9, j9, wk9⟩; clear f9 j9 wk9 C3))
                go_roundw
                case rel => exact ⟨q + 1, _, _, hlt, by go_num, HD.out.1, HD.out.2.1, HD.out.2.2, HQ2.out⟩
                case measure => simp [intOf]; omega
              | false =>
                rw [ho] at C3
                have HE : Hid (wholeP t.abs = some (q : Int)) := by
                  unfold Hid wholeP
                  rw [HLK.out, HVS.out, HQ.out.2, opsP_drop HQ.out.1]
                  have e9 : (if opOk t.abs m q ((⟨[o], [k, cc, sn], l⟩ : AE).p.headD 0) (⟨[o], [k, cc, sn], l⟩ : AE).l ((⟨[o], [k, cc, sn], l⟩ : AE).q.getD 0 0) ((⟨[o], [k, cc, sn], l⟩ : AE).q.getD 1 0) ((⟨[o], [k, cc, sn], l⟩ : AE).q.getD 2 0) = true then opsP t.abs (walkP t.abs m ((⟨[o], [k, cc, sn], l⟩ : AE).q.getD 2 0)).2 (q + 1) (t.abs.ops.drop (q + 1)) else some (q : Int)) = some (q : Int) := by
                    show (if opOk t.abs m q o l k cc sn = true then _ else _) = _
                    rw [ho]
                    rfl
                  rw [e9]
                  rfl
                clear ho HQ HSL
                unfold thrown at C3 HNO
                go_wp2_with (first
                  | refine wpList_ld48 rfl (.tmp 7) rfl bx rfl ([.int .i64 o, .slice a l.length c, .int .i64 k, .int .i64 cc, .int .i64 sn] : List Value).toArray rfl HB4.out.1 ?_
                  | (go_at_call 93; refine C3.mono ?_; rintro e w9 ⟨f9, ⟨h9, _⟩ | ⟨_, rfl⟩⟩; cases h9))
                exact ⟨rfl, HNO.out _ _ HE.out f9⟩
            · obtain rfl : q = t.ops.length := by omega
              have HWP : Hid (wholeP t.abs = if restOk t.abs then none else some (t.ops.length : Int)) := by
                unfold Hid wholeP
                rw [HLK.out, HVS.out, F.out.2.2.2, HNL.out.1, List.drop_length]
                rfl
              have c13 : wr.cell? ⟨jb, 13, none⟩ = some (.slice t.oa t.ops.length t.oc) := at_cells F.out.2.1 13 (t.jc_arr _ _ t.at_ops)
              have c17 : wr.cell? ⟨jb, 17, none⟩ = some (.int .i64 p) := at_cells F.out.2.1 17 (t.jc_at p _)
              have z17 : wr.frozen? ⟨jb, 17, none⟩ = false := frz F.out.2.1
              have F5 : Fr [] w0 (wr.setCell ⟨jb, 17, none⟩ (.int .i64 t.ops.length)) := F.out.1.setCell (.inr HG.out.2.2.2.2) _
              have J5 := F.out.2.1.set17 t.ops.length
              clear F HLK HVS HGD HB3
              go_upto_region 19 with fail
              clear c13 c17 z17
              generalize wr.setCell ⟨jb, 17, none⟩ (.int .i64 t.ops.length) = W5 at *
              have HJS : ∀ w', Fr [] W5 w' → JS w' B t jb t.ops.length (.pointer (some ⟨wb, 0, none⟩)) := fun w' f => ⟨HG.out.2.1.fr0 (F5.trans f), HG.out.2.2.1.fr0 (F5.trans f), J5.fr0 f⟩
              have c1 : W5.cell? ⟨jb, 1, none⟩ = some (.int .i64 t.k.2.1) := at_cells J5 1 (t.jc_arr _ _ t.at_kn)
              have CA := within_any (HJS _ (Fr.refl _ _)).jb t.k.2.1 0 4
              have CB := inputs95 (HJS _ (Fr.refl _ _))
              have HF5 : Hid (Fr [] w0 W5) := F5
              have HBW : Hid (∀ s ∈ t.back, s.w) := HG.out.2.2.2.1.bw
              have HRO : Hid (restOk t.abs = (((decide (0 ≤ t.k.2.1) && decide (t.k.2.1 ≤ 4)) && insOk (-1) t.ins) && backOk t.abs t.ops.length)) := by unfold Hid restOk; rw [← HNL.out.1]; rfl
              unfold Jd at CB
              clear F5 J5
              obtain h1 | h1 : (decide (0 ≤ t.k.2.1) && decide (t.k.2.1 ≤ 4)) = false ∨ (decide (0 ≤ t.k.2.1) && decide (t.k.2.1 ≤ 4)) = true := by cases (decide (0 ≤ t.k.2.1) && decide (t.k.2.1 ≤ 4)) <;> simp
              · rw [h1] at CA
                simp only [Bool.false_eq_true, if_false, thrown] at CA
                have HE : Hid (wholeP t.abs = some (t.ops.length : Int)) := by unfold Hid; rw [HWP.out, HRO.out, h1]; rfl
                clear CB h1 HJS
                go_wp2_with (go_at_call 94; refine CA.mono ?_; rintro e w9 ⟨rfl, rfl⟩)
                exact ⟨rfl, HNO.out _ _ HE.out HF5.out⟩
              rw [h1] at CA
              simp only [if_true] at CA
              obtain h2 | h2 : insOk (-1) t.ins = false ∨ insOk (-1) t.ins = true := by cases insOk (-1) t.ins <;> simp
              · rw [h2] at CB
                simp only [Bool.false_eq_true, if_false, thrown] at CB
                have HE : Hid (wholeP t.abs = some (t.ops.length : Int)) := by unfold Hid; rw [HWP.out, HRO.out, h1, h2]; rfl
                clear h1 h2 HJS
                go_wp2_with (first
                  | (go_at_call 94; refine CA.mono ?_; rintro e w9 ⟨rfl, e9⟩; have e9 := e9.symm; subst e9)
                  | (go_at_call 95; refine CB.mono ?_; rintro e w9 ⟨rfl, f9⟩))
                exact ⟨rfl, HNO.out _ _ HE.out (HF5.out.trans f9)⟩
              rw [h2] at CB
              simp only [if_true] at CB
              have CD := fun w' f => back96 (HJS w' f) (Int.le_refl _) HBW.out
              unfold Jd at CD
              obtain h3 | h3 : backOk t.abs t.ops.length = false ∨ backOk t.abs t.ops.length = true := by cases backOk t.abs t.ops.length <;> simp
              · rw [h3] at CD
                simp only [Bool.false_eq_true, if_false, thrown] at CD
                have HE : Hid (wholeP t.abs = some (t.ops.length : Int)) := by unfold Hid; rw [HWP.out, HRO.out, h1, h2, h3]; rfl
                clear h1 h2 h3 HJS
                go_wp2_with (first
                  | (go_at_call 94; refine CA.mono ?_; rintro e w9 ⟨rfl, e9⟩; have e9 := e9.symm; subst e9)
                  | (go_at_call 95; refine CB.mono ?_; rintro e w9 ⟨rfl, f9⟩; have CD2 := CD _ f9)
                  | (go_at_call 96; refine CD2.mono ?_; rintro e w8 ⟨rfl, f8⟩))
                exact ⟨rfl, HNO.out _ _ HE.out ((HF5.out.trans f9).trans f8)⟩
              · rw [h3] at CD
                simp only [if_true] at CD
                have HE : Hid (wholeP t.abs = none) := by unfold Hid; rw [HWP.out, HRO.out, h1, h2, h3]; rfl
                clear h1 h2 h3 HJS
                go_wp2_with (first
                  | (go_at_call 94; refine CA.mono ?_; rintro e w9 ⟨rfl, e9⟩; have e9 := e9.symm; subst e9)
                  | (go_at_call 95; refine CB.mono ?_; rintro e w9 ⟨rfl, f9⟩; have CD2 := CD _ f9)
                  | (go_at_call 96; refine CD2.mono ?_; rintro e w8 ⟨rfl, f8⟩))
                go_end0
                exact HYE.out HE.out _ ((HF5.out.trans f9).trans f8)
end Go.Proofs.YtkogfgbgmifcnaaDoor
