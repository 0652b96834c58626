/-
  Lists of nodes are alike, places aside, just as the document says, for every two lists; condition: none but the tables as the program lays them.
-/
import Derived.Test.YtajkkjohoedhaaaDoorTreeV
import Derived.Test.YtajkkjohoedhaaaDoorTreeR
namespace Go.Proofs.YtajkkjohoedhaaaDoor
open Go.ChangeMaps Go.ChangeShapes Go.WideShapes Go.ChangeAt Go.RowKit Go.Deep
set_option linter.unusedVariables false

theorem KAt.mono {B B' : Nat} {w : World} {a : Option Addr} {ks : List Int} (h : KAt B w a ks) (hb : B ≤ B') : KAt B' w a ks := fun j k hk => by
  obtain ⟨b, o, e, h1, h2⟩ := h j k hk
  exact ⟨b, o, e, by omega, h2⟩
theorem NAt.mono {B B' : Nat} {w : World} {a : Option Addr} {L : List Nd} (h : NAt B w a L) (hb : B ≤ B') : NAt B' w a L := fun i x hx => by
  obtain ⟨b, o, e, h1, h2⟩ := h i x hx
  exact ⟨b, o, e, by omega, ⟨h2.c0, h2.c1, h2.c2, h2.c3, h2.k.mono hb, h2.t, h2.kl, h2.kc, h2.kn⟩⟩
theorem nd_symm (x y : Nd) : ndEq x y = ndEq y x := by
  unfold ndEq txEq ksEq
  rw [Bool.beq_comm (a := x.kind), Bool.beq_comm (a := x.text.toList), Bool.beq_comm (a := x.ks)]
theorem same_symm : ∀ (L M : List Nd), sameL L M = sameL M L
  | [], [] => rfl
  | [], _ :: _ => rfl
  | _ :: _, [] => rfl
  | x :: L, y :: M => by rw [sameL, sameL, nd_symm x y, same_symm L M]
theorem same_of : ∀ (L M : List Nd), L.length = M.length → (∀ (i : Nat) (x y : Nd), L[i]? = some x → M[i]? = some y → y.kind = x.kind ∧ y.text = x.text ∧ y.ks = x.ks) → sameL L M = true
  | [], [], _, _ => rfl
  | [], _ :: _, h, _ => by simp at h
  | _ :: _, [], h, _ => by simp at h
  | x :: L, y :: M, h, k => by
    obtain ⟨a, b, c⟩ := k 0 x y rfl rfl
    rw [sameL, same_of L M (by simpa using h) (fun i x y hx hy => k (i + 1) x y (by simpa using hx) (by simpa using hy))]
    simp [ndEq, txEq, ksEq, a, b, c]

set_option maxRecDepth 100000 in
set_option maxHeartbeats 2000000 in
theorem treeSame_walk (L M : List Nd) (w : World) (a b : Option Addr) (len cap len2 cap2 : Nat) (hlen : L.length = len) (hlen2 : M.length = len2) (hL : NAt w.heap.size w a L) (hM : NAt w.heap.size w b M) (hm : len ≤ 2600000000000) (hm2 : len2 ≤ 2600000000000)
    (hcap : a = none → cap = 0) (h56 : len * 56 ≤ 140737488355328) (hks : ∀ (i : Nat) (x : Nd), L[i]? = some x → x.ks.length * 8 ≤ 140737488355328) (TT : Tabs w) :
    Calls Tryd.prog 6 #[.slice a len cap, .slice b len2 cap2] w fun e w' => e = .returned (.bool true) ∧ Fr [] w w' := by
  go_enter Tryd.func6, Tryd.ntmps6
  go_wp2_with fail
  refine (awake_any w TT).mono ?_
  rintro e w1 ⟨rfl, f1⟩
  go_wp2_with fail
  refine (few_any w.heap.size L w1 a len cap hlen (hL.fr f1 (by simp)) hm f1.size).mono ?_
  rintro e w2 ⟨⟨v, rfl⟩, f2⟩
  have F2 := f1.trans f2
  cases v with
  | false =>
    go_wp2
    go_ret
    exact ⟨rfl, F2⟩
  | true =>
    go_wp2_with fail
    refine (few_any w.heap.size M w2 b len2 cap2 hlen2 (hM.fr F2 (by simp)) hm2 F2.size).mono ?_
    rintro e w3 ⟨⟨v, rfl⟩, f3⟩
    have F3 := F2.trans f3
    cases v with
    | false =>
      go_wp2
      go_ret
      exact ⟨rfl, F3⟩
    | true =>
      have CT := twin_any w.heap.size L w3 a len cap hlen (hL.fr F3 (by simp)) hcap F3.size h56 hks
      have HL : Hid (L.length = len) := hlen
      have HL2 : Hid (M.length = len2) := hlen2
      have CAB := fun w' (f : Fr [] w w') => same_any w.heap.size w' L M a b len len2 cap cap2 hlen hlen2 (by unfold maxLen; omega) (by unfold maxLen; omega) (hL.fr f (by simp)) (hM.fr f (by simp)) f.size
      have CBA := fun w' (f : Fr [] w w') => same_any w.heap.size w' M L b a len2 len cap2 cap hlen2 hlen (by unfold maxLen; omega) (by unfold maxLen; omega) (hM.fr f (by simp)) (hL.fr f (by simp)) f.size
      have CR := fun w' (f : Fr [] w w') => rsame_any w.heap.size w' L M a b len len2 cap cap2 hlen hlen2 (by unfold maxLen; omega) (by unfold maxLen; omega) (hL.fr f (by simp)) (hM.fr f (by simp))
      have CAM := fun w' (f : Fr [] w w') (a' : Option Addr) (c' : Nat) (X : List Nd) (hX : X.length = len) (hN : NAt w'.heap.size w' a' X) => same_any w'.heap.size w' L X a a' len len cap c' hlen hX (by unfold maxLen; omega) (by unfold maxLen; omega) ((hL.fr f (by simp)).mono f.size) hN (Nat.le_refl _)
      rw [← same_symm L M] at CBA
      generalize sameL L M = R at *
      clear hlen hlen2 hks h56
      go_wp2_with fail
      refine CT.mono ?_
      rintro e w4 ⟨⟨a', c', rfl, hTw⟩, f4⟩
      have F4 := F3.trans f4
      clear CT
      by_cases h0 : len = 0
      · subst h0
        have hLe : L = [] := by rw [← List.length_eq_zero_iff]; exact HL.out
        have HSS : Hid (sameL L [] = true) := by unfold Hid; rw [hLe]; rfl
        have CAM := fun w' (f : Fr [] w w') => CAM w' f a' c' [] rfl (fun i x hx => by simp at hx)
        rw [HSS.out] at CAM
        clear hTw hLe
        go_wp2
        go_loopw [21] (fun i wr => i = .int .i64 0 ∧ wr = w4) (fun i _ => 0)
        case atStart => exact ⟨rfl, rfl⟩
        case round =>
          obtain ⟨rfl, rfl⟩ := hrel
          go_wp2_with fail
          refine (CAB _ F4).mono ?_
          rintro e w5 ⟨rfl, f5⟩
          have F5 := F4.trans f5
          go_wp2_with fail
          refine (CR _ F5).mono ?_
          rintro e w6 ⟨rfl, f6⟩
          have F6 := F5.trans f6
          go_wp2_with fail
          refine (CBA _ F6).mono ?_
          rintro e w7 ⟨rfl, f7⟩
          have F7 := F6.trans f7
          go_wp2_with fail
          refine (CAB _ F7).mono ?_
          rintro e w8 ⟨rfl, f8⟩
          have F8 := F7.trans f8
          go_wp2_with fail
          refine (CAM _ F8).mono ?_
          rintro e w9 ⟨rfl, f9⟩
          go_wp2
          go_ret
          exact ⟨rfl, F8.trans f9⟩
      · obtain ⟨g, X, rfl, hg, hT⟩ := hTw (by omega)
        have HG : Hid (w.heap.size ≤ g) := by unfold Hid; have := F3.size; omega
        clear hTw
        go_wp2
        go_loopw [21] (fun i wr => ∃ p : Nat, p ≤ len ∧ i = .int .i64 p ∧ Fr [] w wr ∧ ∃ X, TW wr w3.heap.size g len c' L X) (fun i _ => len - (intOf i).toNat)
        case atStart => exact ⟨0, Nat.zero_le _, rfl, F4, X, hT⟩
        case round =>
          obtain ⟨p, hp, rfl, fw, X, hT⟩ := hrel
          by_cases hlt : p < len
          · have hy : X[p]? = some (X[p]'(by rw [hT.len]; exact hlt)) := List.getElem?_eq_getElem _
            generalize X[p]'(by rw [hT.len]; exact hlt) = y at hy
            have c3 : wr.cell? ⟨g, p * 4 + 3, none⟩ = some (.int .i64 y.pl) := hT.cell hy (show 3 < 4 by omega)
            have hfz := hT.own.frozenAt (p * 4 + 3)
            have T2 := hT.put (j := 3) (y' := { y with pl := (p : Int) }) hy (by omega) (.int .i64 (p : Int)) rfl ⟨rfl, rfl, rfl⟩ (hT.ok p y hy)
            have F5 := fw.setCell (p := ⟨g, p * 4 + 3, none⟩) (.inr HG.out) (.int .i64 (p : Int))
            clear hT hy CAB CBA CR CAM
            go_wp2
            go_roundw
            case rel => exact ⟨p + 1, hlt, by go_num, F5, _, T2⟩
            case measure => simp [intOf]; omega
          · have HSS : Hid (sameL L X = true) := same_of L X (by rw [HL.out, hT.len]) hT.eq
            have hXl := hT.len
            have hNX := hT.nat
            have CAM := fun w' (f : Fr [] w w') (f' : Fr [] wr w') => CAM w' f (some ⟨g, 0, none⟩) c' X hXl ((hNX.fr f' (by simp)).mono f'.size)
            rw [HSS.out] at CAM
            clear hT hXl hNX
            go_wp2_with fail
            refine (CAB _ fw).mono ?_
            rintro e w5 ⟨rfl, f5⟩
            have F5 := fw.trans f5
            go_wp2_with fail
            refine (CR _ F5).mono ?_
            rintro e w6 ⟨rfl, f6⟩
            have F6 := F5.trans f6
            go_wp2_with fail
            refine (CBA _ F6).mono ?_
            rintro e w7 ⟨rfl, f7⟩
            have F7 := F6.trans f7
            go_wp2_with fail
            refine (CAB _ F7).mono ?_
            rintro e w8 ⟨rfl, f8⟩
            have F8 := F7.trans f8
            go_wp2_with fail
            refine (CAM _ F8 (f5.trans (f6.trans (f7.trans f8)))).mono ?_
            rintro e w9 ⟨rfl, f9⟩
            go_wp2
            go_ret
            exact ⟨rfl, F8.trans f9⟩

theorem read_more {H : Type} {enc : TypeId × Value → H} {w : World} {spare : Nat → Bool} {held : Bool} {fuel : Nat} {a : Option Addr} {len cap : Nat} {x : DataW H × List MemPlace} (h : DataW.trod enc Tryd.prog w 0 spare held fuel 22 [.slice a len cap] = some x) (hS : ∀ n ∈ x.1.weights Tryd.prog 22, n ≤ reachBytes) : len * 56 ≤ reachBytes ∧ (a = none → cap = 0) := by
  rcases open_slice Tryd.underlying22 h with ⟨e, rfl⟩ | ⟨a', len', cap', m, n, D, Pl, e, _, hl, hm, hmm, rfl, hc⟩
  · simp at e
    obtain ⟨rfl, rfl, rfl⟩ := e
    exact ⟨by unfold reachBytes; omega, fun _ => rfl⟩
  · simp at e
    obtain ⟨rfl, rfl, rfl⟩ := e
    refine ⟨?_, fun h => by cases h⟩
    refine Nat.le_trans ?_ (hS _ (by simp only [DataW.weights, Tryd.underlying22]; exact List.mem_cons_self))
    rw [bytes39]
    simp
    exact Nat.mul_le_mul_right _ (by omega)
theorem wit_shaped2 (os : Os) : ((wit os).forCall (fun _ _ => 0) ⟨#[], #[.slice none 0 0, .slice none 0 0], []⟩).Shaped Tryd.prog := World.shaped_of_ZipB (by kernel_rfl) (by kernel_rfl)

/-- What the walk gives, for every argument and every world that holds the tables. -/
theorem treeSame_contract (H : Type) (enc : TypeId × Value → H) (W : World) (base : Nat) (args : Array Value) (ds gs : List (DataW H)) (before : List MemPlace)
    (hval : ∀ (j : Nat) t v, Tryd.f6.params[j]? = some t → args[j]? = some v → Value.okWide Tryd.prog W .any base t v)
    (hW : DataW.Whole enc Tryd.prog Tryd.f6.params.toList Rows.treeSameSpec.vars false W args.toList ds gs before) (hS : (DataW.weightsEach Tryd.prog (Tryd.f6.params.toList ++ Rows.treeSameSpec.plain.varTypes Tryd.prog) (ds ++ gs)).all (· ≤ reachBytes) = true) (hL : laidMetH Tryd.prog laidL W) :
    Calls Tryd.prog 6 args W fun e W' => ∃ v, e = .returned v ∧ Rows.treeSameSpec.post enc Tryd.prog Tryd.f6 false true false false W args v W' := by
  have hW' := hW
  obtain ⟨p, q, hA0, hV, rfl, hfz, hnd⟩ := hW
  have hA : DataW.TrodAll enc Tryd.prog W 0 (fun _ => true) true Tryd.f6.params.toList args.toList ds p := hA0
  rw [Tryd.params6] at hA hval hS
  obtain ⟨v0, vs0, d0, ds0, p0, q0, hargs, rfl, rfl, h0, r0⟩ := trodAll_cons hA
  obtain ⟨v1, vs1, d1, ds1, p1, q1, rfl, rfl, rfl, h1, r1⟩ := trodAll_cons r0
  obtain ⟨rfl, rfl, rfl⟩ := trodAll_nil r1
  obtain rfl : args = #[v0, v1] := by cases args; simp_all
  obtain ⟨rfl, rfl⟩ := trodVars_none hV
  obtain ⟨b0, len0, cap0, rfl⟩ := okWide_slice Tryd.underlying22 (hval 0 22 v0 rfl rfl)
  obtain ⟨b1, len1, cap1, rfl⟩ := okWide_slice Tryd.underlying22 (hval 1 22 v1 rfl rfl)
  have k0 := h0
  have k1 := h1
  have lt0 : ∀ x ∈ p0, x.block < W.heap.size := by obtain ⟨m, hm⟩ := k0; exact DataW.trod_lt m _ _ _ hm
  have lt1 : ∀ x ∈ p1, x.block < W.heap.size := by obtain ⟨m, hm⟩ := k1; exact DataW.trod_lt m _ _ _ hm
  obtain ⟨fuel0, hf0⟩ := h0
  obtain ⟨fuel1, hf1⟩ := h1
  have hS0 : ∀ n ∈ d0.weights Tryd.prog 22, n ≤ reachBytes := fun n hn => by
    have := List.all_eq_true.1 hS n (by simp only [List.cons_append, DataW.weightsEach, List.mem_append]; exact .inl hn)
    simpa using this
  have hS1 : ∀ n ∈ d1.weights Tryd.prog 22, n ≤ reachBytes := fun n hn => by
    have := List.all_eq_true.1 hS n (by simp only [List.cons_append, DataW.weightsEach, List.mem_append]; exact .inr (.inl hn))
    simpa using this
  obtain ⟨h56, hcap⟩ := read_more (by simpa [Value.cells] using hf0) hS0
  obtain ⟨a, len, cap, L, e, hl, hat, hm, hk8⟩ := read_nodes (by simpa [Value.cells] using hf0) hS0
  injection e with e1 e2 e3
  subst e1 e2 e3
  obtain ⟨a, len, cap, M, e, hl1, hat1, hm1, _⟩ := read_nodes (by simpa [Value.cells] using hf1) hS1
  injection e with e1 e2 e3
  subst e1 e2 e3
  clear hA0
  have hR : reachBytes ≤ 140737488355328 := by decide
  refine (treeSame_walk L M W b0 b1 len0 cap0 len1 cap1 hl hl1 hat hat1 hm hm1 hcap (Nat.le_trans h56 hR) (fun i x hx => Nat.le_trans (hk8 i x hx) hR) (tabs hL)).mono fun e W' ⟨he, hF⟩ => ?_
  subst he
  have bel : Below W.heap.size W W' := hF.below (Nat.le_refl _) (by simp)
  exact ⟨_, rfl, _, _, _, [], _, [], hW', trodAll_mk1 (shut_bool Tryd.underlying4 _), trodAll_cons_mk (Below.trod laidOut (by kernel_rfl) (of_decide_eq_true (by kernel_rfl)) k0 bel lt0) (trodAll_cons_mk (Below.trod laidOut (by kernel_rfl) (of_decide_eq_true (by kernel_rfl)) k1 bel lt1) trodAll_mk0), rfl, bel.frame _, fun h => by cases h⟩

set_option maxRecDepth 100000 in
theorem treeSame_lifted (os : Os) (started : os.Started) (H : Type) (enc : TypeId × Value → H) :
    ReturnsInHanded {} Tryd.checked os 6 .any (fun w args => (Rows.treeSameSpec.pre enc Tryd.prog Tryd.f6 Rows.treeSameRow.domain false w args ∧ laidMetH Tryd.prog laidL w) ∧ sizedMet enc Tryd.prog Tryd.f6 (OpenSpec.ofChange Rows.treeSameSpec) false w args)
      (Rows.treeSameSpec.post enc Tryd.prog Tryd.f6 false true false false) := by
  refine returnsInHanded_of_change_and (C := Tryd.checked) (X := fun w _ => laidMetH Tryd.prog laidL w) (fun _ _ _ hh h => h.of_heap hh) own started (by kernel_rfl) Tryd.func6
    (ChangeSpec.witness_shaped (enc := enc) (C := Tryd.checked) (os := os) (X := fun w _ => laidMetH Tryd.prog laidL w) false (wit os) #[.slice none 0 0, .slice none 0 0] 8 (World.laidAll_os _ _ _)
      (wit_shaped2 os) (by kernel_rfl) (by kernel_rfl) (by kernel_rfl)
      (by rw [MakeChecks.laidMetH_plain _ _ _ (by kernel_rfl)]; exact laidMet_laidAll _ (by kernel_rfl) (by kernel_rfl))) ?_
  intro W base args ds gs before hval hW _ hS hL _
  exact treeSame_contract H enc W base args ds gs before hval hW hS hL

theorem treeSame_said : Rows.TreeSameSaid :=
  OpenClaim.holds_of_wide 6 Tryd.f6 rfl rfl rfl rfl rfl rfl rfl ⟨rfl, rfl, rfl, rfl, rfl⟩ rfl rfl rfl rfl rfl (by kernel_rfl) Tryd.func6 (by kernel_rfl)
    (of_decide_eq_true (by kernel_rfl)) (by unfold Func.isWrapper; first | (rw [if_pos (by decide +kernel)]; kernel_rfl) | (rw [if_neg (by decide +kernel)]; exact ⟨rfl, rfl⟩))
    (fun os started H enc _ => treeSame_lifted os started H enc)

theorem treeSame_plain (f : FuncId) (fn : Func) (hf : Tryd.pinned.checked.prog.funcNamed Rows.treeSameRow.func = some f) (hfn : Tryd.pinned.checked.prog.funcs[f]? = some fn) :
    false = Tryd.pinned.checked.prog.looks [] ∧ ∀ (j : Nat) t, fn.params[j]? = some t → Tryd.pinned.checked.prog.wantsStandIn t = false := by
  obtain rfl : f = 6 := Option.some.inj ((show Tryd.prog.funcNamed Rows.treeSameRow.func = some 6 by kernel_rfl).symm.trans hf) |>.symm
  obtain rfl : fn = Tryd.f6 := (Option.some.inj (Tryd.func6.symm.trans hfn)).symm
  refine ⟨by kernel_rfl, fun j t ht => ?_⟩
  rw [Tryd.params6] at ht
  have hm : t = 22 := by simpa using Array.mem_of_getElem? ht
  subst hm
  exact (show Tryd.prog.wantsStandIn 22 = false by kernel_rfl)

/-- The card. -/
theorem treeSame_card : Rows.TreeSameCardSaid :=
  Claim7.holds_tied_plain_at .later [] _ _ _ _ treeSame_said (fun _ h => by cases h) (by kernel_rfl) (fun _ h => by cases h) treeSame_row_tie rfl ⟨rfl, rfl⟩ (by kernel_rfl) rfl treeSame_plain (by kernel_rfl)
end Go.Proofs.YtajkkjohoedhaaaDoor
