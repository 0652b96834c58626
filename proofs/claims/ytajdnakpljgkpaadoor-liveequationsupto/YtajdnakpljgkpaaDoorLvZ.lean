/-
  Which registers are live ahead of each instruction, by the program, as lists; conditions: the function lies as told, the tables as the program's text lays them.
-/
import Derived.Test.YtajdnakpljgkpaaDoorLvW
import Derived.Test.YtajdnakpljgkpaaDoorLvY
import Derived.Deep.WholeRow
namespace Go.Proofs.YtajdnakpljgkpaaDoor
open Go.RowKit Go.Shelf
set_option linter.unusedVariables false
set_option linter.unusedSimpArgs false
attribute [local go_sem] Oper.semAt_some store_func

def mkD (r : Nat) : Deferred := { target := .collected r, args := #[] }
/-- Marks of loops that are over: they are taken on the way out. -/
theorem leave_marks {fn : Func} {tmps : Array Value} {v : Value} {R : Ending → World → Prop} (hres : ∀ w, (results fn tmps).run Tryd.prog w = .ok v w) : ∀ (rs : List Nat) (X : World), rs.Nodup → (∀ r ∈ rs, X.heap[r]? = some (.deferred (some []))) → (∀ X', Fr rs X X' → R (.returned v) X') → LeavesInM Fence.wide 0 Tryd.prog fn tmps R (rs.map mkD) .returning X
  | [], X, _, _, h => ⟨_, hres X, h X (Fr.refl _ _)⟩
  | r :: rs, X, hn, hd, h => by
    have h1 := hd r (by simp)
    rw [List.nodup_cons] at hn
    refine ⟨by simp, .inl ⟨_, _, rfl, run_takeDeferred h1, ?_⟩⟩
    refine leave_marks hres rs _ hn.2 (fun q hq => ?_) (fun X' hF => h X' (((Fr.putObj (.deferred none)).sub (fun k hk => .inl (by simp at hk; simp [hk]))).trans (hF.sub (fun k hk => .inl (by simp [hk])))))
    have hqr : q ≠ r := fun e => hn.1 (by rw [← e]; exact hq)
    exact (World.putObj_heap_other hqr).trans (hd q (by simp [hq]))

/-- Lists of numbers in a row of one's own. -/
def LL (w : World) (base : Nat) (v : Value) (R : List (List Int)) : Prop :=
  ∃ vs : List Value, w.ownsRow base 30 1 v R.length vs ∧ ∀ (i : Nat) (K : List Int), R[i]? = some K → ∃ a c, vs[i]? = some (.slice a K.length c) ∧ OR w base (.slice a K.length c) K
theorem LL.fr {w w' : World} {base : Nat} {v : Value} {R : List (List Int)} {S : List Nat} (h : LL w base v R) (f : Fr S w w') (hS : ∀ k, k ∈ S → k < base ∨ w.heap.size ≤ k ∨ ∀ c t z, w.heap[k]? ≠ some (.cells c t z)) : LL w' base v R := by
  obtain ⟨vs, ho, hk⟩ := h
  have key : ∀ {e : TypeId} {u : Value} {n : Nat} {xs : List Value}, w.ownsRow base e 1 u n xs → w'.ownsRow base e 1 u n xs := fun {e u n xs} h1 => own_fr h1 f (fun k hk hm => by
    have h2 := h1.lt k hk
    rcases hS k hm with h3 | h3 | h3
    · omega
    · omega
    · rcases h1.2 with ⟨e1, _⟩ | ⟨g, cap, cur, e1, _, hg, _⟩
      · rw [e1] at hk; simp [Value.ownBlock] at hk
      · rw [e1] at hk
        simp [Value.ownBlock] at hk
        subst hk
        exact h3 _ _ _ hg)
  exact ⟨vs, key ho, fun i K hK => by obtain ⟨a, c, h1, h2⟩ := hk i K hK; exact ⟨a, c, h1, key h2⟩⟩
theorem LL.nil {w : World} {base : Nat} {v : Value} (h : w.ownsRow base 30 1 v 0 []) : LL w base v [] := ⟨[], h, fun i K hK => by simp at hK⟩

def tabL (P : Nat → Pl) (N : Nat) : List (List Int) := (List.range N).map (fun i => (regsN (P i).s 16).map (fun r : Nat => (r : Int)))
theorem tabL_at (P : Nat → Pl) {N i : Nat} (h : i < N) : (tabL P N)[i]? = some ((regsN (P i).s 16).map (fun r : Nat => (r : Int))) := by simp [tabL, h]
theorem tabL_take (P : Nat → Pl) {N i : Nat} (h : i < N) : (tabL P N).take (i + 1) = (tabL P N).take i ++ [(regsN (P i).s 16).map (fun r : Nat => (r : Int))] := by
  rw [List.take_add_one, tabL_at P h]
  rfl
theorem tabL_len (P : Nat → Pl) (N : Nat) : (tabL P N).length = N := by simp [tabL]
theorem regsN_len (s : Nat → Nat) : (regsN s 16).length ≤ 1024 := by
  rw [regsN_eq]
  have := List.length_filter_le (hasS s) (List.range (16 * 64))
  simpa using this

theorem under27 : Tryd.prog.underlying 27 = some (.slice 30) := by kernel_rfl
theorem info30 : (Tryd.prog.info? 30).map (fun i => (i.zero, i.size, i.bytes)) = some (some (.slice none 0 0), 1, 24) := by kernel_rfl
theorem make_ll (w : World) (n : Nat) (h : n ≤ 2000000) : ∃ M, (Instr.makeSlice 27 (.int .i64 0) (.int .i64 n)).run Tryd.prog w = .ok (.slice (some ⟨w.heap.size, 0, none⟩) 0 n) (w.alloc (.cells M 30)) ∧ M.size = n := by
  obtain ⟨i, hi, hz, hs, hb⟩ := info_parts info30
  have := run_make (P := Tryd.prog) w 27 30 i _ under27 hi hz .i64 .i64 0 n (by omega) (by omega) (by rw [hb]; omega) (by omega)
  rw [hs] at this
  exact ⟨_, this, by rw [size_madeCells]; simp⟩
theorem own_made (w : World) (n : Nat) (M : Array Value) (hM : M.size = n) (h : n ≤ 2000000) (base : Nat) (hb : base ≤ w.heap.size) : (w.alloc (.cells M 30)).ownsRow base 30 1 (.slice (some ⟨w.heap.size, 0, none⟩) 0 n) 0 [] :=
  ⟨rfl, .inr ⟨w.heap.size, n, M, rfl, hb, heap_alloc_new w _, Nat.zero_le _, by unfold maxLen; omega, by omega, by simp⟩⟩

section
variable {F : Fence} {nF : Nat} {P : Program}
/-- A whole array is read, in a fence. -/
theorem in_load {ops : Array Oper} {rest : List Oper} {op : Oper} {a : Act} {w : World} {Q : Exit → Act → World → Prop} (hgd : op.guard = none) (ty : TypeId) (x : Operand) (ho : op.op = .load ty x)
    (b o : Nat) (hx : a.eval x = .pointer (some ⟨b, o, none⟩)) (cs : List Value) (d : TypeDesc) (hc : w.rangeAt b o cs)
    (hu : P.underlying ty = some d) (hd : d.isRow = true) (hi : (P.info? ty).map (·.size) = some cs.length)
    (h : wpListIn F nF P ops Q rest (a.put op.dst (.agg cs.toArray)) w) : wpListIn F nF P ops Q (op :: rest) a w := by
  refine wpListIn_plain hgd fun K hK => ?_
  unfold Oper.wpIn
  refine ⟨by simp [Oper.about, ho], ?_⟩
  rw [Oper.semAt_plain F _ _ (by rw [ho]; intro c hc'; cases hc')]
  simp only [execOp, ho, hx, Instr.loadAt, Instr.sureAddr, Sem.run_bind, Sem.run_pure, Result.andThen_ok, run_loadVar_mid w b o ty cs d hc hu hd hi]
  exact hK _ _ h
/-- A whole array is laid into a block, in a fence. -/
theorem in_store {ops : Array Oper} {rest : List Oper} {op : Oper} {a : Act} {w : World} {Q : Exit → Act → World → Prop} (hgd : op.guard = none) (ty : TypeId) (x y : Operand) (ho : op.op = .store ty x y)
    (g : Nat) (cells : Array Value) (hx : a.eval x = .pointer (some ⟨g, 0, none⟩)) (hy : a.eval y = .agg cells)
    (t : TypeId) (old : Array Value) (hg : w.heap[g]? = some (.cells old t (0, 0))) (hi : (P.info? ty).map (·.size) = some cells.size)
    (hold : old.size = cells.size) (h1 : cells.all (·.oneCell') = true)
    (h : wpListIn F nF P ops Q rest (a.put op.dst undef) (w.setRow g cells)) : wpListIn F nF P ops Q (op :: rest) a w := by
  refine wpListIn_plain hgd fun K hK => ?_
  unfold Oper.wpIn
  refine ⟨by simp [Oper.about, ho], ?_⟩
  rw [Oper.semAt_plain F _ _ (by rw [ho]; intro c hc'; cases hc')]
  simp only [execOp, ho, hx, hy, Instr.storeAt, Instr.sureAddr, Sem.run_bind, Sem.run_pure, Result.andThen_ok, run_storeVar_row w g t ty old cells hg hi hold h1]
  exact hK _ _ h
end
/-- A place's cells. -/
def pcL (p : Pl) : List Value := setL p.s ++ [.int .i64 p.wr, frV p, .bool p.wt]
theorem pcL_len (p : Pl) : (pcL p).length = 19 := by simp [pcL, setL_len]
theorem pcL_range {X : World} {bp N i : Nat} {P : Nat → Pl} (h : X.rowIs bp 69 (N * 19) (plc P)) (hi : i < N) : X.rangeAt bp (i * 19) (pcL (P i)) := by
  intro j v hv
  have hj : j < 19 := by have := (List.getElem?_eq_some_iff.1 hv).1; rw [pcL_len] at this; exact this
  rw [h.cell (by omega), ← hv]
  by_cases h1 : j < 16
  · rw [plc_s _ _ _ h1, pcL, List.getElem?_append_left (by rw [setL_len]; exact h1), setL_at _ h1]
  · rw [pcL, List.getElem?_append_right (by rw [setL_len]; omega), setL_len]
    have : j = 16 ∨ j = 17 ∨ j = 18 := by omega
    rcases this with rfl | rfl | rfl
    · rw [plc_wr]; rfl
    · rw [plc_fr]; rfl
    · rw [plc_wt]; rfl
theorem pcL_one (p : Pl) : (pcL p).toArray.all (·.oneCell') = true := by
  rw [Array.all_eq_true_iff_forall_mem]
  intro v hv
  simp only [pcL, List.mem_toArray, List.mem_append, List.mem_cons, List.mem_nil_iff, or_false] at hv
  rcases hv with h | rfl | rfl | rfl
  · unfold setL at h
    simp at h
    obtain ⟨i, _, rfl⟩ := h
    rfl
  · rfl
  · rfl
  · rfl
theorem pcL_set {X : World} {b : Nat} {p : Pl} (h : X.heap[b]? = some (.cells (pcL p).toArray 69 (0, 0))) : X.rangeAt b 0 (setL p.s) := by
  intro j v hv
  have hj : j < 16 := by have := (List.getElem?_eq_some_iff.1 hv).1; rw [setL_len] at this; exact this
  rw [Nat.zero_add]
  refine at_cells h j ?_
  rw [List.getElem?_toArray, pcL, List.getElem?_append_left (by rw [setL_len]; exact hj)]
  exact hv
theorem under69 : ∃ fs, Tryd.prog.underlying 69 = some (.struct fs) := ⟨_, Tryd.underlying69⟩
theorem info69s : (Tryd.prog.info? 69).map (·.size) = some 19 := by kernel_rfl
theorem own_two {w : World} {B1 B2 n1 n2 s1 s2 : Nat} {e1 e2 : TypeId} {v1 v2 : Value} {x1 x2 : List Value} (h1 : w.ownsRow B1 e1 s1 v1 n1 x1) (h2 : w.ownsRow B2 e2 s2 v2 n2 x2) (hne : e2 ≠ e1) {k : Nat} (hk : v1.ownBlock = some k) : v2.ownBlock ≠ some k := by
  intro h3
  rcases h2.2 with ⟨rfl, _⟩ | ⟨g, cap, cur, rfl, _, hg, _⟩
  · simp [Value.ownBlock] at h3
  · simp [Value.ownBlock] at h3
    subst h3
    exact own_ne h1 hg hne hk
theorem LL.snoc {w w4 : World} {base : Nat} {v v' : Value} {R : List (List Int)} {vs : List Value} {K : List Int} {a : Option Addr} {c : Nat} (ho : w.ownsRow base 30 1 v R.length vs) (hk : ∀ (i : Nat) (K : List Int), R[i]? = some K → ∃ a c, vs[i]? = some (.slice a K.length c) ∧ OR w base (.slice a K.length c) K) (f : Fr v.ownBlock.toList w w4) (ho4 : w4.ownsRow base 30 1 v' (R.length + 1) (vs ++ [.slice a K.length c])) (hK : OR w base (.slice a K.length c) K) : LL w4 base v' (R ++ [K]) := by
  have key : ∀ {u : Value} {Z : List Int}, OR w base u Z → OR w4 base u Z := fun h1 => own_fr h1 f (fun k hk hm => by
    simp at hm
    exact own_two h1 ho (by decide) hk hm)
  have hlen : vs.length = R.length := by have := ho.1; simpa using this
  refine ⟨vs ++ [.slice a K.length c], by simpa using ho4, fun i Z hZ => ?_⟩
  by_cases hi : i < R.length
  · rw [List.getElem?_append_left hi] at hZ
    obtain ⟨a', c', h1, h2⟩ := hk i Z hZ
    exact ⟨a', c', by rw [List.getElem?_append_left (by omega)]; exact h1, key h2⟩
  · have hi2 : i = R.length := by
      have := (List.getElem?_eq_some_iff.1 hZ).1
      simp at this
      omega
    subst hi2
    simp at hZ
    subst hZ
    exact ⟨a, c, by rw [← hlen]; simp, key hK⟩
/-- What Tables keeps from round to round. -/
structure TS (w : World) (bp N : Nat) (P : Nat → Pl) (X : World) (i : Nat) (lv : Value) (rs : List Nat) : Prop where
  fr : Fr [] w X
  row : X.rowIs bp 69 (N * 19) (plc P)
  ll : LL X w.heap.size lv ((tabL P N).take i)
  nd : rs.Nodup
  mks : ∀ r, r ∈ rs → w.heap.size ≤ r ∧ X.heap[r]? = some (.deferred (some []))
  bpn : w.heap.size ≤ bp
/-- What holds while a set's registers are told. -/
def GT (X4 : World) (bl : Nat) (rec : LoopState → Option Code → Loop) (RL : List Nat) (j : Nat) (Y : World) : Prop :=
  Kp bl bl X4.heap.size X4 Y ∧ Y.heap[X4.heap.size]? = some (.deferred (some [])) ∧ Y.heap[X4.heap.size + 1]? = some (.loop (rec .ready none)) ∧ ∃ a c, Y.heap[bl]? = some (.cells #[.slice a (RL.take j).length c] 30 (0, 0)) ∧ OR Y (X4.heap.size + 2) (.slice a (RL.take j).length c) ((RL.take j).map (fun r : Nat => (r : Int)))
theorem blk3 (w : World) (o o' o'' : Obj) : (((w.alloc o).alloc o').alloc o'').heap[w.heap.size + 2]? = some o'' := by
  have h := heap_alloc_new ((w.alloc o).alloc o') o''
  rw [show ((w.alloc o).alloc o').heap.size = w.heap.size + 2 from by simp] at h
  exact h

set_option maxRecDepth 100000 in
set_option maxHeartbeats 8000000 in
theorem tables_any (B : Nat) (f : Fu) (w : World) (hf : FuOk B w f) (hB : B ≤ w.heap.size) (hN : f.code.length ≤ 2000000) (hl : ∀ x ∈ f.code, x.l.length ≤ 8000000000000) (T : Tabs w) :
    Calls Tryd.prog 9 #[.agg f.arr] w fun e w' => ∃ v P, e = .returned v ∧ LL w' w.heap.size v (tabL P f.code.length) ∧ Least f.code f.rs (fun i r => hasS (P i).s r = true) ∧ Fr [] w w' := by
  have f1 : Fr [] w (w.alloc (.cells f.arr 24)) := (Fr.refl _ _).alloc _
  have b1 := heap_alloc_new w (.cells f.arr 24)
  obtain ⟨M, hmk, hMs⟩ := make_ll (w.alloc (.cells f.arr 24)) f.code.length hN
  have f2 : Fr [] (w.alloc (.cells f.arr 24)) ((w.alloc (.cells f.arr 24)).alloc (.cells M 30)) := (Fr.refl _ _).alloc _
  have own0 := own_made (w.alloc (.cells f.arr 24)) f.code.length M hMs hN w.heap.size (by simp)
  have B1 := f2.at b1 (by simp)
  have F2 := f1.trans f2
  have C22 := reckoned_any B f _ (hf.fr F2 (by simp)) (Nat.le_trans hB F2.size) hN hl (T.fr F2 (by simp))
  have hkc := hf.kc
  have hNI : (f.code.length : Int) ≤ 2000000 := by omega
  have HF2 : Hid _ := F2
  have HT : Hid (Tabs w) := T
  simp only [World.size_alloc] at hmk own0
  obtain ⟨name, ps, rs, ca, cc, L⟩ := f
  unfold Fu.arr at *
  simp only at *
  generalize hn : L.length = N at *
  have HL : Hid (L.length = N) := hn
  clear hf T f1 f2 hn hl b1 F2
  refine callsIn_wide.1 (callsIn_of_wp_marks (n := 0) Tryd.func9 rfl trivial ?_ rfl)
  simp only [Tryd.ntmps9, List.size_toArray, List.length_cons, List.length_nil, Nat.reduceAdd, Nat.reduceSub, Array.replicate_succ, Array.replicate_zero, List.push_toArray, List.append_toArray, List.nil_append, List.cons_append]
  gi_wp2
  refine ⟨trivial, rfl, (callsIn_wide.2 C22).mono ?_⟩
  rintro e X0 ⟨bp, P, rfl, hP, hbp, f3⟩
  simp only [World.size_alloc] at hbp
  have HP : Hid _ := hP
  have HFX : Hid (Fr [] w X0) := HF2.out.trans f3
  have HLL : Hid (LL X0 w.heap.size (.slice (some ⟨w.heap.size + 1, 0, none⟩) 0 N) []) := (LL.nil own0).fr f3 (by simp)
  have hrow : X0.rowIs bp 69 (N * 19) (plc P) := by have := hP.row; rw [HL.out] at this; exact this
  have HOK : Hid (∀ i, i < N → okS (P i).s) := fun i hi => hP.ok i (by rw [HL.out]; exact hi)
  have S0 : TS w bp N P X0 0 (.slice (some ⟨w.heap.size + 1, 0, none⟩) 0 N) [] := ⟨HFX.out, hrow, by simpa using HLL.out, List.nodup_nil, by simp, by omega⟩
  clear hP f3 own0 B1 C22 hmk hrow HLL HF2 hMs
  gi_wp2
  refine wpIn_loop (fun a' w' => ∃ (u5 u6 u7 u16 u17 u18 u19 u20 u21 u22 u23 u24 u25 u26 u27 u28 u29 u30 u31 : Value) (i : Nat) (lv : Value) (rm : List Nat), (TS w bp N P w' i lv rm ∧ Hid (rm.length = i) ∧ Hid (i ≤ N)) ∧ a' = { tmps := #[.agg #[.string name, .int .i64 ps, .int .i64 rs, .slice ca N cc], .pointer (some ⟨w.heap.size, 0, none⟩), .slice none 0 0, lv, undef, u5, u6, u7, .pointer (some ⟨w.heap.size, 3, none⟩), .slice ca N cc, .int .i64 N, .slice (some ⟨w.heap.size + 1, 0, none⟩) 0 N, .agg #[.string name, .int .i64 ps, .int .i64 rs, .slice ca N cc], .slice (some ⟨bp, 0, none⟩) N N, .int .i64 N, .int .i64 i, u16, u17, u18, u19, u20, u21, u22, u23, u24, u25, u26, u27, u28, u29, u30, u31, undef], defers := rm.map mkD }) (fun a' _ => N - a'.defers.length) ?_ ?_
  · repeat apply Exists.intro
    exact ⟨⟨S0, rfl, Nat.zero_le _⟩, rfl⟩
  · rintro _ X ⟨u5, u6, u7, u16, u17, u18, u19, u20, u21, u22, u23, u24, u25, u26, u27, u28, u29, u30, u31, i, lv, rm, ⟨S, hrl, hi⟩, rfl⟩
    clear S0 HFX
    by_cases hlt : i < N
    · have hiI : (i : Int) < N := by omega
      obtain ⟨fs, hu69⟩ := under69
      have r1 := pcL_range S.row hlt
      have z1 := heap_alloc_new X (.cells z19 69)
      have HSR : Hid ((X.alloc (.cells z19 69)).setRow X.heap.size (pcL (P i)).toArray = X.alloc (.cells (pcL (P i)).toArray 69)) := World.setRow_alloc_new X z19 _ 69
      have i1 : (Tryd.prog.info? 69).map (·.size) = some (pcL (P i)).length := by rw [pcL_len]; exact info69s
      have HL1 : Hid ((pcL (P i)).toArray.size = 19) := by unfold Hid; simp [pcL_len]
      have HO1 : Hid _ := pcL_one (P i)
      have HHU : Hid _ := hu69
      have HR1 : Hid _ := r1
      have HI1 : Hid _ := i1
      clear r1 i1 hu69
      unfold z19 at z1 HSR
      have g1 : Fr [] X (X.alloc (.cells (pcL (P i)).toArray 69)) := (Fr.refl _ _).alloc _
      have g2 : Fr [] (X.alloc (.cells (pcL (P i)).toArray 69)) ((X.alloc (.cells (pcL (P i)).toArray 69)).alloc (.cells #[.slice none 0 0] 30)) := (Fr.refl _ _).alloc _
      have HR2 : Hid (((X.alloc (.cells (pcL (P i)).toArray 69)).alloc (.cells #[.slice none 0 0] 30)).rangeAt X.heap.size 0 (setL (P i).s)) := pcL_set (g2.at (heap_alloc_new X _) (by simp))
      have bl2 := blk2 X (.cells (pcL (P i)).toArray 69) (.cells #[.slice none 0 0] 30)
      have hsz2 : ((X.alloc (.cells (pcL (P i)).toArray 69)).alloc (.cells #[.slice none 0 0] 30)).heap.size = X.heap.size + 2 := by simp
      have HG2 : Hid (Fr [] X ((X.alloc (.cells (pcL (P i)).toArray 69)).alloc (.cells #[.slice none 0 0] 30))) := g1.trans g2
      have HI2 : Hid ((Tryd.prog.info? 67).map (·.size) = some (setL (P i).s).length) := by unfold Hid; rw [setL_len]; exact info67
      clear g1 g2
      gi_wp2_with (first
        | refine in_load rfl 69 (.tmp 17) rfl bp (i * 19) rfl (pcL (P i)) _ HR1.out HHU.out rfl HI1.out ?_
        | (refine in_store rfl 69 (.tmp 5) (.tmp 18) rfl X.heap.size (pcL (P i)).toArray rfl rfl 69 _ z1 (by rw [HL1.out]; exact info69s) (by rw [HL1.out]; rfl) HO1.out ?_; rw [HSR.out])
        | refine in_load rfl 67 (.tmp 19) rfl X.heap.size 0 rfl (setL (P i).s) (.array 16 65) HR2.out under67 rfl HI2.out ?_)
      refine ⟨trivial, rfl, (callsIn_wide.2 (regset_any (P i).s _)).mono ?_⟩
      rintro e X3 ⟨rfl, rfl⟩
      clear z1 HSR HR1 HI1 HL1 HO1 HHU HR2 HI2
      have hok := HOK.out i hlt
      have HTL : Hid ((tabL P N).take (i + 1) = (tabL P N).take i ++ [(regsN (P i).s 16).map (fun r : Nat => (r : Int))]) := tabL_take P hlt
      have HRLn : Hid ((regsN (P i).s 16).length ≤ 1024) := regsN_len _
      generalize hss : (P i).s = s at *
      clear hss
      generalize (X.alloc (.cells (pcL (P i)).toArray 69)).alloc (.cells #[.slice none 0 0] 30) = X2 at *
      rw [hsz2]
      have f3 : Fr [] X2 (X2.alloc (.cells (setA s) 67)) := (Fr.refl _ _).alloc _
      have bx3 := heap_alloc_new X2 (.cells (setA s) 67)
      rw [hsz2] at bx3
      have bl3 := f3.at bl2 (by simp)
      have HG3 : Hid (Fr [] X (X2.alloc (.cells (setA s) 67))) := HG2.out.trans f3
      have hsz3 : (X2.alloc (.cells (setA s) 67)).heap.size = X.heap.size + 3 := by simp [hsz2]
      clear f3 bl2 HG2 hsz2
      generalize X2.alloc (.cells (setA s) 67) = X3 at *
      gi_wp2
      refine range_outer (gf := 46) (lb := #[.pointer (some ⟨X.heap.size + 2, 0, none⟩)]) rfl (enters_of Tryd.func46 (by kernel_rfl) rfl) ?_
      intro rec hYr
      show CallsIn Fence.wide 0 Tryd.prog 46 #[.func (.yield (X3.heap.size + 1)) #[] #[], .pointer (some ⟨X.heap.size + 2, 0, none⟩)] _ _
      have f5 : Fr [] X3 ((X3.alloc (.deferred (some []))).alloc (.loop (rec .ready none))) := ((Fr.refl _ _).alloc _).alloc _
      have hL5 := blk2 X3 (.deferred (some [])) (.loop (rec .ready none))
      have hD5 : ((X3.alloc (.deferred (some []))).alloc (.loop (rec .ready none))).heap[X3.heap.size]? = some (.deferred (some [])) := (Below.heap_alloc _ _ _ (by simp)).trans (heap_alloc_new X3 _)
      generalize (X3.alloc (.deferred (some []))).alloc (.loop (rec .ready none)) = X5 at *
      have G0 : GT X3 (X.heap.size + 1) rec (regsN s 16) 0 X5 := ⟨f5.kp (Nat.le_refl _) (by simp), hD5, hL5, none, 0, f5.at bl3 (by simp), OR.nil _ _⟩
      have HT3 : Hid (Tabs X3) := (HT.out.fr S.fr (by simp)).fr HG3.out (by simp)
      have HX3 : Hid (X3.heap.size = X.heap.size + 3) := hsz3
      have HLW : Hid (3 ≤ X.heap.size) := (HT.out.fr S.fr (by simp)).len
      clear hL5 hD5 f5 hsz3
      refine (tell1 (GT X3 (X.heap.size + 1) rec (regsN s 16)) (X.heap.size + 2) (X3.heap.size + 1) s hok (fun j Y h => ⟨?_, ?_⟩) ?_ X5 G0).mono ?_
      · intro q hq
        have h1 := HT3.out.b q hq
        have h2 := HLW.out
        unfold World.cell? at h1 ⊢
        rw [h.1.block 0 (by have := HX3.out; omega) (by omega) (by omega)]
        exact h1
      · rw [h.1.block (X.heap.size + 2) (by have := HX3.out; omega) (by omega) (by omega)]
        exact bx3
      · rintro j r Y hr ⟨hKp, h1, h2, a, c, h3, h4⟩
        have HIN : Hid (((regsN s 16).take (j + 1)).map (fun r : Nat => (r : Int)) = ((regsN s 16).take j).map (fun r : Nat => (r : Int)) ++ [(r : Int)] ∧ ((regsN s 16).take (j + 1)).length = ((regsN s 16).take j).length + 1) := by
          have h := hr
          unfold Hid
          rw [List.take_add_one, h]
          simp
        have HLn : Hid (((regsN s 16).take j).length ≤ 1024) := by have := HRLn.out; unfold Hid; simp; omega
        unfold GT
        rw [HIN.out.1, HIN.out.2]
        generalize hKK : ((regsN s 16).take j).map (fun r : Nat => (r : Int)) = KK at *
        have HKK : Hid (KK.length = ((regsN s 16).take j).length) := by rw [← hKK]; simp [Hid]
        generalize ((regsN s 16).take j).length = n at *
        refine hYr _ Y _ rfl h2 ?_
        clear hYr hKK hr HIN
        gi_wp2
        refine ⟨h2, ?_⟩
        have fp := Fr.putObj (W := Y) (l := X3.heap.size + 1) (.loop (rec .busy none))
        have hYs : Hid (X3.heap.size + 1 < Y.heap.size) := (Array.getElem?_eq_some_iff.1 h2).1
        have hB3 : Hid (X3.heap.size = X.heap.size + 3) := HX3
        have kp1 : Hid (Kp (X.heap.size + 1) (X.heap.size + 1) X3.heap.size X3 (Y.putObj (X3.heap.size + 1) (.loop (rec .busy none)))) := hKp.trans (fp.kp (by have := hYs.out; omega) (by simp))
        have y1 := fp.at h1 (by simp)
        have y2 := World.putObj_heap_same (w := Y) (r := X3.heap.size + 1) (o := .loop (rec .busy none)) (Array.getElem?_eq_some_iff.1 h2).1
        have y3 := fp.at h3 (by simp; have := hB3.out; omega)
        have y4 : OR (Y.putObj (X3.heap.size + 1) (.loop (rec .busy none))) (X3.heap.size + 2) (.slice a n c) KK := h4.fr fp (by simp)
        clear h1 h2 h3 h4 hKp fp hYs
        generalize Y.putObj (X3.heap.size + 1) (.loop (rec .busy none)) = Y1 at *
        have ca := at_cells y3 0 rfl
        have HY1 : Hid (X3.heap.size + 1 < Y1.heap.size) := (Array.getElem?_eq_some_iff.1 y2).1
        obtain ⟨i3, hi3, hz3, hs3, hb3⟩ := info_parts info3
        have ho : Y1.ownsRow (X3.heap.size + 2) 3 1 (.slice a n c) n (KK.map (Value.int .i64)) := by have := y4; unfold OR at this; rw [HKK.out] at this; exact this
        have hlo := ho.lt
        have hnI : (n : Int) ≤ 1024 := by have := HLn.out; omega
        clear y4
        gi_wp2_with (gi_at_builtin; refine wpListIn_append_own_at _ rfl _ _ 30 rfl (X3.heap.size + 2) 3 i3 (.int .i64 0) 1 8 Tryd.underlying30 hi3 hz3 hs3 hb3 rfl (by decide) (.slice a n c) n (KK.map (Value.int .i64)) rfl (ho.alloc _) ⟨Y1.heap.size, 0, none⟩ 1 1 [.int .i64 r] rfl rfl (one_new Y1 _) (by simp [Value.oneCell']) (by have := HLn.out; unfold maxLen; omega) (by have := HLn.out; omega) (by have := HY1.out; simp; omega) ?_)
        intro v1 w3 hown1 hgrow hnil hloc
        have f2 : Fr (Value.slice a n c).ownBlock.toList Y1 w3 := ((Fr.refl _ _).alloc _).trans ((Fr.ofGrown hgrow).sub (fun k hk => .inl hk))
        have hnk : ∀ k, k < X3.heap.size + 2 → k ∉ (Value.slice a n c).ownBlock.toList := fun k hk hm => by have := (hlo k (by simpa using hm)).1; omega
        have z1 := f2.at y1 (hnk _ (by omega))
        have z2 := f2.at y2 (hnk _ (by omega))
        have z3 := f2.at y3 (hnk _ (by have := hB3.out; omega))
        obtain ⟨a1, c1, rfl, _⟩ := own_slice hown1
        have cb1 := at_cells z3 0 rfl
        have fb1 : w3.frozen? ⟨X.heap.size + 1, 0, none⟩ = false := by simp [World.frozen?, z3]
        have kp2 : Hid (Kp (X.heap.size + 1) (X.heap.size + 1) X3.heap.size X3 w3) := kp1.out.trans (f2.kp (by have := HY1.out; omega) (fun k hk => .inr (.inr (by have := (hlo k (by simpa using hk)).1; omega))))
        have HO1 : Hid (OR w3 (X3.heap.size + 2) (.slice a1 (n + 1) c1) (KK ++ [(r : Int)])) := by
          unfold Hid OR
          have := HKK.out
          simp only [List.length_append, List.length_cons, List.length_nil, List.map_append, List.map_cons, List.map_nil, this]
          exact hown1
        have hw3 : Hid (X3.heap.size + 1 < w3.heap.size) := (Array.getElem?_eq_some_iff.1 z2).1
        clear ca y1 y2 y3 ho hlo hown1 hgrow hnil hloc f2 hnk kp1
        gi_wp2
        have f3 : Fr [X.heap.size + 1] w3 (w3.setCell ⟨X.heap.size + 1, 0, none⟩ (.slice a1 (n + 1) c1)) := Fr.setCell (Fr.refl _ _) (.inl (by simp)) _
        have q1 := f3.at z1 (by simp; have := hB3.out; omega)
        have q2 := f3.at z2 (by simp; have := hB3.out; omega)
        have q3 : (w3.setCell ⟨X.heap.size + 1, 0, none⟩ (.slice a1 (n + 1) c1)).heap[X.heap.size + 1]? = some (.cells #[.slice a1 (n + 1) c1] 30 (0, 0)) := set_same z3
        have q4 : OR (w3.setCell ⟨X.heap.size + 1, 0, none⟩ (.slice a1 (n + 1) c1)) (X3.heap.size + 2) (.slice a1 (n + 1) c1) (KK ++ [(r : Int)]) := HO1.out.fr f3 (by simp; have := hB3.out; omega)
        have q5 : Kp (X.heap.size + 1) (X.heap.size + 1) X3.heap.size X3 (w3.setCell ⟨X.heap.size + 1, 0, none⟩ (.slice a1 (n + 1) c1)) := kp2.out.trans (f3.kp (by have := hw3.out; omega) (by simp))
        generalize w3.setCell ⟨X.heap.size + 1, 0, none⟩ (.slice a1 (n + 1) c1) = w4 at *
        have f4 := Fr.putObj (W := w4) (l := X3.heap.size + 1) (.loop (rec .ready none))
        have hw4 := (Array.getElem?_eq_some_iff.1 q2).1
        exact ⟨q2, rfl, q5.trans (f4.kp (by omega) (by simp)), f4.at q1 (by simp), World.putObj_heap_same hw4, a1, c1, f4.at q3 (by simp; have := hB3.out; omega), q4.fr f4 (by simp)⟩
      · rintro e W2 ⟨hv, hKp, h1, h2, a, c, h3, h4⟩
        refine ⟨hv, .inl ⟨h2, ?_⟩⟩
        have HRE : Hid ((regsN s 16).take (regsN s 16).length = regsN s 16) := List.take_length
        rw [HRE.out] at h3 h4
        have fp := Fr.putObj (W := W2) (l := X3.heap.size + 1) (.loop (rec .exhausted none))
        have hsz3 := HX3.out
        have FXW : Fr [] X (W2.putObj (X3.heap.size + 1) (.loop (rec .exhausted none))) := (((Kp.fr HG3.out hKp (by omega) (by omega) (by omega)).sub (T := [X3.heap.size + 1]) (by simp)).trans fp).sub (fun k hk => .inr (by simp at hk; omega))
        have m1 := fp.at h1 (by simp)
        have m3 := fp.at h3 (by simp; omega)
        have hwl : X.heap.size + 3 < (W2.putObj (X3.heap.size + 1) (.loop (rec .exhausted none))).heap.size := by have := (Array.getElem?_eq_some_iff.1 m1).1; omega
        have m4 : OR (W2.putObj (X3.heap.size + 1) (.loop (rec .exhausted none))) w.heap.size (.slice a (regsN s 16).length c) ((regsN s 16).map (fun r : Nat => (r : Int))) := own_low (h4.fr fp (by simp)) (by have := S.fr.size; omega)
        clear hKp h1 h2 h3 h4 fp hYr G0 HRE
        generalize W2.putObj (X3.heap.size + 1) (.loop (rec .exhausted none)) = W3 at *
        have HKK : Hid (((regsN s 16).map (fun r : Nat => (r : Int))).length = (regsN s 16).length) := by simp [Hid]
        rw [← HKK.out] at m3 m4
        generalize (regsN s 16).map (fun r : Nat => (r : Int)) = KK at *
        have HKl : Hid (KK.length ≤ 1024) := by have := HKK.out; have := HRLn.out; unfold Hid; omega
        have SW : TS w bp N P W3 i lv rm := ⟨S.fr.trans FXW, S.row.of_block (FXW.block _ S.row.lt (by simp)), S.ll.fr FXW (by simp), S.nd, fun r hr => ⟨(S.mks r hr).1, FXW.at (S.mks r hr).2 (by simp)⟩, S.bpn⟩
        have HNM : Hid (X3.heap.size ∉ rm) := fun hm => by have := (Array.getElem?_eq_some_iff.1 (S.mks _ hm).2).1; omega
        have HWX : Hid (w.heap.size ≤ X.heap.size) := S.fr.size
        obtain ⟨vs, ho, hk⟩ := SW.ll
        have hRl : ((tabL P N).take i).length = i := by simp [tabL_len]; omega
        rw [hRl] at ho
        obtain ⟨la, lc, rfl, _⟩ := own_slice ho
        obtain ⟨i30, hi30, hz30, hs30, hb30⟩ := info_parts info30
        have cb := at_cells m3 0 rfl
        have hnew : ∀ j u, [Value.slice a KK.length c][j]? = some u → (W3.alloc (.cells #[.slice a KK.length c] 30)).cell? ((⟨W3.heap.size, 0, none⟩ : Addr).add j) = some u := by
          intro j u hu
          have hadd : (⟨W3.heap.size, 0, none⟩ : Addr).add j = ⟨W3.heap.size, j, none⟩ := by unfold Addr.add; split <;> simp_all
          rw [hadd]
          exact at_cells (heap_alloc_new W3 _) j (by simpa using hu)
        have hlo := ho.lt
        have HS : Hid _ := SW
        have HM1 : Hid _ := m1
        have HOH : Hid _ := ho
        have HHK : Hid _ := hk
        clear S SW hk m1 m3 bx3 bl3 HG3 HT3 hsz3
        gi_wp2_with (gi_at_builtin; refine wpListIn_append_own_at _ rfl _ _ 27 rfl w.heap.size 30 i30 (.slice none 0 0) 1 24 under27 hi30 hz30 hs30 hb30 rfl (by decide) (.slice la i lc) i vs rfl (ho.alloc _) ⟨W3.heap.size, 0, none⟩ 1 1 [.slice a KK.length c] rfl rfl hnew (by simp [Value.oneCell']) (by unfold maxLen; omega) (by omega) (by have := HWX.out; simp; omega) ?_)
        intro v1 w4 hown1 hgrow hnil hloc
        have f4 : Fr (Value.slice la i lc).ownBlock.toList W3 w4 := ((Fr.refl _ _).alloc _).trans ((Fr.ofGrown hgrow).sub (fun k hk => .inl hk))
        have LL4 : LL w4 w.heap.size v1 ((tabL P N).take (i + 1)) := by
          rw [HTL.out]
          exact LL.snoc (by rw [hRl]; exact HOH.out) HHK.out f4 (by rw [hRl]; exact hown1) m4
        have hnm : ∀ r, r ∈ X3.heap.size :: rm → w.heap.size ≤ r ∧ w4.heap[r]? = some (.deferred (some [])) := fun r hr => by
          have h5 : w.heap.size ≤ r ∧ W3.heap[r]? = some (.deferred (some [])) := by
            rcases List.mem_cons.1 hr with rfl | h6
            · exact ⟨by have := HWX.out; have := HX3.out; omega, HM1.out⟩
            · exact HS.out.mks r h6
          exact ⟨h5.1, f4.at h5.2 (fun hm => own_notloop ho h5.2 (by intro c t z e; cases e) (by simpa using hm))⟩
        have FW4 : Fr [] w w4 := ((HS.out.fr.sub (T := (Value.slice la i lc).ownBlock.toList) (by simp)).trans f4).sub (fun k hk => .inr (hlo k (by simpa using hk)).1)
        have row4 : w4.rowIs bp 69 (N * 19) (plc P) := HS.out.row.of_block (f4.block _ HS.out.row.lt (fun hm => by
          obtain ⟨c0, hc0, _⟩ := HS.out.row
          exact own_ne ho hc0 (by decide) (by simpa using hm)))
        have S5 : TS w bp N P w4 (i + 1) v1 (X3.heap.size :: rm) := ⟨FW4, row4, LL4, List.nodup_cons.2 ⟨HNM.out, HS.out.nd⟩, hnm, HS.out.bpn⟩
        have HS5 : Hid _ := S5
        clear S5 row4 FW4 hnm LL4 f4 hown1 hgrow hnil hloc ho hlo m4 hnew cb HS HM1 HOH HHK FXW HTL
        gi_wp2
        refine ⟨?_, ?_⟩
        · repeat apply Exists.intro
          exact ⟨⟨HS5.out, by have := hrl.out; unfold Hid; simp [this], hlt⟩, rfl⟩
        · have := hrl.out
          simp
          omega
    · have HE : Hid (i = N) := by have := hi.out; unfold Hid; omega
      have HP2 : Hid (Least L rs (fun i r => hasS (P i).s r = true)) := HP.out.least
      have hRt : (tabL P N).take i = tabL P N := by rw [HE.out]; exact List.take_of_length_le (by rw [tabL_len]; exact Nat.le_refl _)
      have SL := S.ll
      rw [hRt] at SL
      gi_wp2
      refine leave_marks (v := lv) (fun w0 => results_tmp (t := 2) (by kernel_rfl) _ _ w0) rm X S.nd (fun r hr => (S.mks r hr).2) (fun X' hF => ⟨lv, P, rfl, ?_, HP2.out, ?_⟩)
      · exact SL.fr hF (fun k hk => .inr (.inr (fun c t z e => by have := (S.mks k hk).2; rw [e] at this; cases this)))
      · exact ((S.fr.sub (T := rm) (by simp)).trans hF).sub (fun k hk => .inr (S.mks k hk).1)
end Go.Proofs.YtajdnakpljgkpaaDoor
