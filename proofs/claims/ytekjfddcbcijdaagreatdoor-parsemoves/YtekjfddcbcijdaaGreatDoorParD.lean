/-
  A node is laid behind the others; condition: the parser and the kids' row lie as told.
-/
import Derived.Test.YtekjfddcbcijdaaGreatDoorParC
namespace Go.Proofs.YtekjfddcbcijdaaGreatDoor
open Go.RowKit
set_option linter.unusedVariables false
set_option linter.unusedSimpArgs false

/-- Kids' numbers in a row of their own. -/
structure KV (B : Nat) (w : World) (v : Value) (ks : List Nat) (G : List Nat) : Prop where
  ex : ∃ a c, v = .slice a ks.length c ∧ (ks.length ≤ c ∧ c ≤ maxLen) ∧ (a = none → c = 0) ∧ ∀ (j k : Nat), ks[j]? = some k → ∃ (b o : Nat) (cc : Array Value) (z : Nat × Nat), a = some ⟨b, o, none⟩ ∧ b ∈ G ∧ w.heap[b]? = some (.cells cc 3 z) ∧ cc[o + j]? = some (.int .i64 (k : Nat))
  lo : ∀ b ∈ G, B ≤ b ∧ b < w.heap.size
theorem KV.nil (B : Nat) (w : World) : KV B w (.slice none 0 0) [] [] := ⟨⟨none, 0, rfl, ⟨by simp, Nat.zero_le _⟩, fun _ => rfl, fun j k h => by simp at h⟩, by simp⟩
theorem KV.fr {B : Nat} {w w' : World} {v : Value} {ks G S : List Nat} (h : KV B w v ks G) (f : Fr S w w') (hS : ∀ k ∈ S, k ∉ G) : KV B w' v ks G := by
  obtain ⟨⟨a, c, h1, h2, h3, h4⟩, h5⟩ := h
  refine ⟨⟨a, c, h1, h2, h3, fun j k hk => ?_⟩, fun b hb => ⟨(h5 b hb).1, Nat.lt_of_lt_of_le (h5 b hb).2 f.size⟩⟩
  obtain ⟨b, o, cc, z, e1, e2, e3, e4⟩ := h4 j k hk
  exact ⟨b, o, cc, z, e1, e2, (f.block _ (Array.getElem?_eq_some_iff.1 e3).1 (fun hm => hS b hm e2)).trans e3, e4⟩
/-- A row of numbers of one's own, that grows. -/
def ON (w : World) (B : Nat) (v : Value) (ks : List Nat) : Prop := w.ownsRow B 3 1 v ks.length (ks.map (fun k => Value.int .i64 (k : Nat)))
theorem ON.nil (w : World) (B : Nat) : ON w B (.slice none 0 0) [] := World.ownsRow_nil _ _ _ _
theorem ON.kv {w : World} {B : Nat} {v : Value} {ks : List Nat} (h : ON w B v ks) : KV B w v ks v.ownBlock.toList := by
  refine ⟨?_, fun b hb => h.lt b (by simpa using hb)⟩
  obtain ⟨h1, h2⟩ := h
  rcases h2 with ⟨e, h0⟩ | ⟨g, cap, cur, e, hb, hg, hc, hm, hs, ht⟩
  · exact ⟨none, 0, by rw [h0]; exact e, ⟨by omega, Nat.zero_le _⟩, fun _ => rfl, fun j k hk => by have := (List.getElem?_eq_some_iff.1 hk).1; omega⟩
  · refine ⟨some ⟨g, 0, none⟩, cap, e, ⟨hc, hm⟩, (fun h => by cases h), fun j k hk => ⟨g, 0, cur, (0, 0), rfl, by rw [e]; simp [Value.ownBlock], hg, ?_⟩⟩
    have hlt := (List.getElem?_eq_some_iff.1 hk).1
    have : (cur.toList.take (ks.length * 1))[j]? = (ks.map (fun k => Value.int .i64 (k : Nat)))[j]? := by rw [ht]
    rw [List.getElem?_take_of_lt (by omega)] at this
    rw [Nat.zero_add]
    simpa [hk] using this
/-- Some numbers built at once. -/
theorem ON.built (w : World) (B : Nat) (hB : B ≤ w.heap.size) (ks : List Nat) (hk : ks.length ≤ 3) : ON (w.alloc (.cells (ks.map (fun k => Value.int .i64 (k : Nat))).toArray 3)) B (.slice (some ⟨w.heap.size, 0, none⟩) ks.length ks.length) ks := by
  refine ⟨by simp, .inr ⟨w.heap.size, ks.length, (ks.map (fun k => Value.int .i64 (k : Nat))).toArray, rfl, hB, heap_alloc_new w _, Nat.le_refl _, by unfold maxLen; omega, by simp, ?_⟩⟩
  simp [List.take_of_length_le]

theorem under23 : Tryz.prog.underlying 23 = some (.slice 30) := by kernel_rfl
theorem info37 : (Tryz.prog.info? 30).map (fun i => (i.zero, i.size, i.bytes)) = some (some (.agg #[.int .i64 0, .string ⟨#[]⟩, .slice none 0 0, .int .i64 0]), 4, 56) := by kernel_rfl

set_option maxRecDepth 100000 in
set_option maxHeartbeats 2000000 in
theorem lay_any {ts : List Tok} {B pb : Nat} {F : List Nat} {i : Nat} {ns : List PN} {w : World} (h : PS ts B pb F i ns w) {v : Value} {ks G : List Nat} (hv : KV B w v ks G) (kind : Nat) (text : List UInt8) (pl : Nat) (hn : ns.length + 1 ≤ 1000000) :
    Calls Tryz.prog 43 #[.pointer (some ⟨pb, 0, none⟩), .int .i64 (kind : Nat), .string ⟨text.toArray⟩, .int .i64 (pl : Nat), v] w fun e w' => e = .returned (.int .i64 (ns.length : Nat)) ∧ ∃ F', PS ts B pb F' i (ns ++ [⟨kind, text, ks, pl⟩]) w' ∧ Fr F w w' ∧ ∀ k ∈ F', k ∈ F ∨ k ∈ G ∨ w.heap.size ≤ k := by
  obtain ⟨i5, hi, hz, hz1, hby⟩ := info_parts info37
  obtain ⟨tg, tc, nv, bd, bs, bf, L, h1, h2, h3, ⟨c, z, h4, h4'⟩, h5, h6, h7, h8, h9, h10, h11, h12, h13, h14⟩ := h.ex
  obtain ⟨ka, kc, rfl, k2, k3, k4⟩ := hv.ex
  have HL : Hid (L.length = ns.length) := by unfold Hid; rw [← h11]; simp
  obtain ⟨c0, c1, c2, c3, c4, c5, cz⟩ := pt_cells h1
  have hpb := h.fb pb h.pf
  have HB : Hid (B ≤ w.heap.size) := by unfold Hid; omega
  have hnew : ∀ j u, [Value.int .i64 (kind : Nat), .string ⟨text.toArray⟩, .slice ka ks.length kc, .int .i64 (pl : Nat)][j]? = some u → (w.alloc (.cells #[.int .i64 (kind : Nat), .string ⟨text.toArray⟩, .slice ka ks.length kc, .int .i64 (pl : Nat)] 30)).cell? ((⟨w.heap.size, 0, none⟩ : Addr).add j) = some u := by
    intro j u hu
    have hadd : (⟨w.heap.size, 0, none⟩ : Addr).add j = ⟨w.heap.size, j, none⟩ := by unfold Addr.add; split <;> simp_all
    rw [hadd]
    exact at_cells (heap_alloc_new w _) j (by simpa using hu)
  have hLn : Hid (L.length + 1 ≤ 1000000) := by have := HL.out; unfold Hid; omega
  obtain ⟨na, nc, rfl, _⟩ := own_slice h12
  go_enter Tryz.func43, Tryz.ntmps43
  go_wp2_with (at_builtin; refine wpList_append_own_at _ rfl _ _ 23 rfl B 30 i5 (.agg #[.int .i64 0, .string ⟨#[]⟩, .slice none 0 0, .int .i64 0]) 4 56 under23 hi hz hz1 hby rfl (by decide) (.slice na L.length nc) L.length (flatM L) rfl (h12.alloc _) ⟨w.heap.size, 0, none⟩ 1 1 [.int .i64 (kind : Nat), .string ⟨text.toArray⟩, .slice ka ks.length kc, .int .i64 (pl : Nat)] rfl rfl hnew (by simp [Value.oneCell']) (by have := hLn.out; unfold maxLen; omega) (by have := hLn.out; omega) (by have := HB.out; simp; omega) ?_)
  intro v1 w3 hown1 hgrow hnil hloc
  have f2 : Fr (Value.slice na L.length nc).ownBlock.toList w w3 := ((Fr.refl _ _).alloc _).trans ((Fr.ofGrown hgrow).sub (fun k hk => .inl hk))
  have kp2 : ∀ {k : Nat} {o : Obj}, (Value.slice na L.length nc).ownBlock ≠ some k → w.heap[k]? = some o → w3.heap[k]? = some o := fun hk h => (f2.block _ (Array.getElem?_eq_some_iff.1 h).1 (by simpa using hk)).trans h
  have hp3 := kp2 (own_ne h12 h1 (by decide)) h1
  obtain ⟨d0, d1, d2, d3, d4, d5, dz⟩ := pt_cells hp3
  have dz2 := dz 2
  have hl3 : Hid (∀ k, v1.ownBlock = some k → (Value.slice na L.length nc).ownBlock = some k ∨ w.heap.size ≤ k) := fun k hk => by
    rcases hloc with e | e
    · exact .inl (by rw [← e]; exact hk)
    · rw [e] at hk; simp at hk; exact .inr (by omega)
  obtain ⟨va, vc, rfl, _⟩ := own_slice hown1
  have hp4 : (w3.setCell ⟨pb, 2, none⟩ (.slice va (L.length + 1) vc)).heap[pb]? = some (.cells #[.slice (some ⟨tg, 0, none⟩) ts.length tc, .int .i64 (i : Nat), .slice va (L.length + 1) vc, .map (some bd), .map (some bs), .map (some bf)] 49 (0, 0)) := by simp [World.setCell, Array.getElem?_modify, hp3]
  obtain ⟨g0, g1, g2, g3, g4, g5, gz⟩ := pt_cells hp4
  have hLI : (L.length : Int) + 1 ≤ 1000000 := by have := hLn.out; omega
  clear c0 c1 c2 c3 c4 c5 cz hnew hgrow hnil hloc dz gz d0 d1 d3 d4 d5 g0 g1 g3 g4 g5
  go_wp2
  go_ret
  have f3 : Fr [pb] w3 (w3.setCell ⟨pb, 2, none⟩ (.slice va (L.length + 1) vc)) := Fr.setCell (Fr.refl _ _) (.inl (by simp)) _
  have kp : ∀ {k : Nat} {o : Obj}, k ≠ pb → (Value.slice na L.length nc).ownBlock ≠ some k → w.heap[k]? = some o → (w3.setCell ⟨pb, 2, none⟩ (.slice va (L.length + 1) vc)).heap[k]? = some o := fun hk hk2 h => (f3.block _ (Array.getElem?_eq_some_iff.1 (kp2 hk2 h)).1 (by simpa using hk)).trans (kp2 hk2 h)
  have FF : Fr F w (w3.setCell ⟨pb, 2, none⟩ (.slice va (L.length + 1) vc)) := (f2.sub (fun k hk => .inl (h13 k (by simpa using hk)))).trans (f3.sub (fun k hk => .inl (by simp at hk; subst hk; exact h.pf)))
  have kr : ∀ {b : Nat} {cc : Array Value} {zz : Nat × Nat}, w.heap[b]? = some (.cells cc 3 zz) → (w3.setCell ⟨pb, 2, none⟩ (.slice va (L.length + 1) vc)).heap[b]? = some (.cells cc 3 zz) := fun hb => kp (fun e => by rw [e, h1] at hb; simp at hb) (own_ne h12 hb (by decide)) hb
  have km : ∀ {g : Nat} {l : List (List UInt8 × Nat)}, RM w g l → RM (w3.setCell ⟨pb, 2, none⟩ (.slice va (L.length + 1) vc)) g l := fun hr => by
    have hr' := hr
    unfold RM at hr' ⊢
    exact kp (fun e => by rw [e, h1] at hr'; simp at hr') (own_notloop h12 hr' (by intro c t z e; cases e)) hr'
  refine ⟨by rw [← HL.out]; rfl, F ++ G ++ (Value.slice va (L.length + 1) vc).ownBlock.toList, ⟨⟨tg, tc, _, bd, bs, bf, L ++ [⟨⟨kind, text, ks, pl⟩, ka, kc⟩], hp4, h2, by simp [h3], ⟨c, z, kp (fun e => by rw [e, h1] at h4; simp at h4) (own_ne h12 h4 (by decide)) h4, h4'⟩, by simp [h5], km h6, by simp [h7], km h8, by simp [h9], km h10, by simp [h11], ?_, fun k hk => by simp [hk], ?_⟩, by simp [h.pf], ?_, h.lo, h.tl, h.ti⟩, FF, ?_⟩
  · have e1 : (L ++ [(⟨⟨kind, text, ks, pl⟩, ka, kc⟩ : MN)]).length = L.length + 1 := by simp
    rw [e1, flatM_append]
    have := own_fr hown1 f3 (fun k hk hm => by simp at hm; subst hm; exact own_ne hown1 hp3 (by decide) hk)
    simpa [flatM, MN.cells] using this
  · intro m hm
    rcases List.mem_append.1 hm with hm | hm
    · obtain ⟨q1, q2, q3⟩ := h14 m hm
      refine ⟨q1, q2, fun j k hk => ?_⟩
      obtain ⟨b, o, cc, zz, e1, e2, e3, e4⟩ := q3 j k hk
      exact ⟨b, o, cc, zz, e1, by simp [e2], kr e3, e4⟩
    · simp at hm
      subst hm
      refine ⟨k2, k3, fun j k hk => ?_⟩
      obtain ⟨b, o, cc, zz, e1, e2, e3, e4⟩ := k4 j k hk
      exact ⟨b, o, cc, zz, e1, by simp [e2], kr e3, e4⟩
  · intro j hj
    have hsz := FF.size
    simp only [List.mem_append, Option.mem_toList] at hj
    rcases hj with (hj | hj) | hj
    · have := h.fb j hj; omega
    · have := hv.lo j hj; omega
    · have := hown1.lt j hj; simp; omega
  · intro k hk
    simp only [List.mem_append, Option.mem_toList] at hk
    rcases hk with (hk | hk) | hk
    · exact .inl hk
    · exact .inr (.inl hk)
    · rcases hl3.out k hk with hk | hk
      · exact .inl (h13 k hk)
      · exact .inr (.inr hk)
end Go.Proofs.YtekjfddcbcijdaaGreatDoor
