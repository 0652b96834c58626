/-
  Parts of the proof; conditions: as each says.
-/
import Derived.Recover
import Derived.Lib.ItoaNum
import Derived.Test.YtnmfcaahdeddnaaGreatDoorMgGPHI
import Derived.Test.YtnmfcaahdeddnaaGreatDoorMgHDMG
set_option maxRecDepth 100000
namespace Go.Proofs.YtnmfcaahdeddnaaGreatDoor
open Go.RowKit
set_option linter.unusedVariables false
set_option linter.unusedSimpArgs false
theorem catch_idle (p q r:Addr) (w:World) :
 CallsD Tryz.prog 73 #[.pointer (some p),.pointer (some q),.pointer (some r)] .returning w fun e u' w'=>e = .returned (.tuple #[])∧u' = .returning∧w' = w:=by
 refine callsD_of_wpS Tryz.func73 rfl fun c₀ cs hu=>?_
 apply wpS_seq
 apply wpS_region
 simp[wpOpsS,go_sem,recoverD,hu,Tryz.ntmps73,Exit.thenS]
 apply wpS_of_wp
 go_wp2
 cases c₀
 simp_all [bodyPostS,results,Tryz.results73]
theorem wp_tmps {c:Code} {Q:Exit→Act→World→Prop} {X Y:Array Value} {w:World} (h:X=Y) (k:c.wp Tryz.prog Q { tmps:=Y,defers:=[] } w) : c.wp Tryz.prog Q { tmps:=X,defers:=[] } w:=h ▸ k
theorem assert74 (v:Value) (w:World) : (Instr.typeAssert (.iface 131 v) 20 131 true).run Tryz.prog w = .ok (.tuple #[v,.bool true]) w:=by kernel_rfl
set_option maxHeartbeats 1000000 in
theorem catch_thrown (b0 b1 b2 k:Nat) (w:World) (vp vq vr:Value) (t0 t1 t2:TypeId) (h01:b0≠b1) (h02:b0≠b2) (h12:b1≠b2) (e0:w.heap[b0]? = some (.cells #[vp] t0 (0,0))) (e1:w.heap[b1]? = some (.cells #[vq] t1 (0,0))) (e2:w.heap[b2]? = some (.cells #[vr] t2 (0,0))) :
 CallsD Tryz.prog 73 #[.pointer (some ⟨b0,0,none⟩),.pointer (some ⟨b1,0,none⟩),.pointer (some ⟨b2,0,none⟩)] (.panicking [{ v:=.iface 131 (.agg #[.int .i64 (k:Nat)]),recovered:=false }]) w fun e u' w'=>e = .returned (.tuple #[])∧u' = .panicking [{ v:=.iface 131 (.agg #[.int .i64 (k:Nat)]),recovered:=true }]∧Fr [b0,b1,b2] w w'∧w'.heap[b0]? = some (.cells #[.slice none 0 0] t0 (0,0))∧w'.heap[b1]? = some (.cells #[.int .i64 (k:Nat)] t1 (0,0))∧w'.heap[b2]? = some (.cells #[.int .i64 60] t2 (0,0)):=by
 refine callsD_of_wpS Tryz.func73 rfl fun c₀ cs hu=>?_
 apply wpS_seq
 apply wpS_region
 simp[wpOpsS,go_sem,recoverD,hu,Tryz.ntmps73,Exit.thenS]
 apply wpS_of_wp
 refine wp_tmps (Y:=#[.pointer (some ⟨b0,0,none⟩),.pointer (some ⟨b1,0,none⟩),.pointer (some ⟨b2,0,none⟩),undef,undef,undef,.iface 131 (.agg #[.int .i64 (k:Nat)]),undef,undef,undef,undef,undef,undef,undef]) rfl ?_
 have ha:=assert74 (.agg #[.int .i64 (k:Nat)]) w
 go_wp2
 have gA:Fr [b0,b1,b2] w (w.alloc (.cells #[.int .i64 (k:Nat)] 131)):=(Fr.refl _ _).alloc _
 have bA:(w.alloc (.cells #[.int .i64 (k:Nat)] 131)).heap[w.heap.size]? = some (.cells #[.int .i64 (k:Nat)] 131 (0,0)):=heap_alloc_new w _
 have kp:∀ {j:Nat} {o:Obj},w.heap[j]? = some o→(w.alloc (.cells #[.int .i64 (k:Nat)] 131)).heap[j]? = some o:=fun h=>(((Fr.refl [] w).alloc _).block _ (Array.getElem?_eq_some_iff.1 h).1 (by simp)).trans h
 have lt:∀ {j:Nat} {o:Obj},w.heap[j]? = some o→j≠w.heap.size:=fun h=>by have:=(Array.getElem?_eq_some_iff.1 h).1;omega
 have n0:=lt e0
 have n1:=lt e1
 have n2:=lt e2
 have E0:=kp e0
 have E1:=kp e1
 have E2:=kp e2
 generalize hN:w.heap.size=N at *
 generalize w.alloc (.cells #[.int .i64 (k:Nat)] 131)=Y at *
 have ca:=at_cells bA 0 rfl
 have c0:=at_cells E0 0 rfl
 have c1:=at_cells E1 0 rfl
 have c2:=at_cells E2 0 rfl
 have z0:Y.frozen? ⟨b0,0,none⟩=false:=by simp[World.frozen?,E0]
 have z1:Y.frozen? ⟨b1,0,none⟩=false:=by simp[World.frozen?,E1]
 have z2:Y.frozen? ⟨b2,0,none⟩=false:=by simp[World.frozen?,E2]
 go_region
 refine⟨rfl,_,rfl,.tuple #[],by simp[results,Tryz.results73],rfl,rfl,?_,?_,?_,?_⟩
 ·exact (((gA.setCell (.inl (by simp)) _).setCell (.inl (by simp)) _).setCell (.inl (by simp)) _).drew
 ·exact set_other h02 (set_other h01 (set_same E0))
 ·exact set_other h12 (set_same (set_other (Ne.symm h01) E1))
 ·exact set_same (set_other (Ne.symm h12) (set_other (Ne.symm h02) E2))
def begin7 (tg n tc:Nat) (w:World) : World :=
 ((((((w.alloc (.cells #[.slice none 0 0] 23)).alloc (.cells #[.int .i64 0] 3)).alloc (.cells #[.int .i64 0] 29)).alloc (.map (EsR declM 0).toArray 2)).alloc (.map (EsR stmtM 0).toArray 7)).alloc (.map (EsR firstM 0).toArray 12)).alloc (.cells #[.slice (some ⟨tg,0,none⟩) n tc,.int .i64 0,.slice none 0 0,.map (some (w.heap.size+1+1+1)),.map (some (w.heap.size+1+1+1+1)),.map (some (w.heap.size+1+1+1+1+1))] 135)
theorem keep_alloc {w:World} {k:Nat} {o u:Obj} (h:w.heap[k]? = some o) : (w.alloc u).heap[k]? = some o:=(((Fr.refl [] w).alloc u).block _ (Array.getElem?_eq_some_iff.1 h).1 (by simp)).trans h
theorem new_alloc {w:World} {k:Nat} (u:Obj) (h:k=w.heap.size) : (w.alloc u).heap[k]? = some u:=by subst h;exact heap_alloc_new w u
theorem begin7_fr (tg n tc:Nat) (w:World) : Fr [] w (begin7 tg n tc w):=(((((((Fr.refl _ _).alloc _).alloc _).alloc _).alloc _).alloc _).alloc _).alloc _
theorem begin7_b (tg n tc:Nat) (w:World) :
 (begin7 tg n tc w).heap[w.heap.size]? = some (.cells #[.slice none 0 0] 23 (0,0))∧(begin7 tg n tc w).heap[w.heap.size+1]? = some (.cells #[.int .i64 0] 3 (0,0))∧(begin7 tg n tc w).heap[w.heap.size+1+1]? = some (.cells #[.int .i64 0] 29 (0,0))∧(begin7 tg n tc w).heap[w.heap.size+1+1+1]? = some (.map (EsR declM 0).toArray 2)∧(begin7 tg n tc w).heap[w.heap.size+1+1+1+1]? = some (.map (EsR stmtM 0).toArray 7)∧(begin7 tg n tc w).heap[w.heap.size+1+1+1+1+1]? = some (.map (EsR firstM 0).toArray 12)∧(begin7 tg n tc w).heap[w.heap.size+1+1+1+1+1+1]? = some (.cells #[.slice (some ⟨tg,0,none⟩) n tc,.int .i64 0,.slice none 0 0,.map (some (w.heap.size+1+1+1)),.map (some (w.heap.size+1+1+1+1)),.map (some (w.heap.size+1+1+1+1+1))] 135 (0,0))∧(begin7 tg n tc w).heap.size=w.heap.size+7:=by
 unfold begin7
 refine⟨?_,?_,?_,?_,?_,?_,?_,by simp[World.size_alloc]⟩
 ·exact keep_alloc (keep_alloc (keep_alloc (keep_alloc (keep_alloc (keep_alloc (new_alloc _ rfl))))))
 ·exact keep_alloc (keep_alloc (keep_alloc (keep_alloc (keep_alloc (new_alloc _ (by simp[World.size_alloc]))))))
 ·exact keep_alloc (keep_alloc (keep_alloc (keep_alloc (new_alloc _ (by simp[World.size_alloc])))))
 ·exact keep_alloc (keep_alloc (keep_alloc (new_alloc _ (by simp[World.size_alloc]))))
 ·exact keep_alloc (keep_alloc (new_alloc _ (by simp[World.size_alloc])))
 ·exact keep_alloc (new_alloc _ (by simp[World.size_alloc]))
 ·exact new_alloc _ (by simp[World.size_alloc])
def own7 (tg N:Nat) : List Nat:=[tg,N+1+1+1,N+1+1+1+1,N+1+1+1+1+1,N+1+1+1+1+1+1]
theorem begin7_ps {ts:List Tok} (hT:Toks ts) {tg tc B:Nat} {w:World} (hR:TRow w tg ts) (hB:B≤tg) (hlo:7≤B) (hBw:B≤w.heap.size) (htl:ts.length≤200001) (htc:ts.length≤tc) :
 PS ts B (w.heap.size+1+1+1+1+1+1) (own7 tg w.heap.size) 0 [] (begin7 tg ts.length tc w):=by
 obtain⟨h0,h1,h2,h3,h4,h5,h6,hs⟩:=begin7_b tg ts.length tc w
 obtain⟨c,z,hr1,hr2⟩:=hR
 have hlt:=(Array.getElem?_eq_some_iff.1 hr1).1
 refine⟨⟨tg,tc,.slice none 0 0,_,_,_,[],h6,htc,by simp[own7],⟨c,z,((begin7_fr tg ts.length tc w).block _ hlt (by simp)).trans hr1,hr2⟩,by simp[own7],h3,by simp[own7],h4,by simp[own7],h5,?_⟩,by simp[own7],?_,hlo,htl,hT.pos⟩
 ·exact⟨rfl,World.ownsRow_nil _ _ _ _,by simp[Value.ownBlock],by simp⟩
 ·intro j hj
  simp[own7] at hj
  rw[hs]
  omega
theorem KRow.fr {w w' : World} {F S:List Nat} {m:MN} (h:KRow w F m) (f:Fr S w w') (hS:∀ k∈S,k∉F) : KRow w' F m:=by
 obtain⟨k1,k2,k3⟩:=h
 refine⟨k1,k2,fun j k hk=>?_⟩
 obtain⟨b,o,c,z,e1,e2,e3,e4⟩:=k3 j k hk
 exact⟨b,o,c,z,e1,e2,(f.block _ (Array.getElem?_eq_some_iff.1 e3).1 (fun hm=>hS _ hm e2)).trans e3,e4⟩
def ReadPost (ts:List Tok) (B tg:Nat) (w:World) : Except Nat (List Nat×Nat×List PN)→Ending→World→Prop
 | .ok (_,_,ms),e,w'=>∃ (nv:Value) (L:List MN) (F' : List Nat),e = .returned (.tuple #[nv,.int .i64 0,.int .i64 0])∧L.map MN.x=ms∧w'.ownsRow B 55 4 nv L.length (flatM L)∧(∀ k,nv.ownBlock=some k→k∈F')∧(∀ m∈L,KRow w' F' m)∧(∀ j∈F',B≤j∧j<w'.heap.size)∧Fr [tg] w w'
 | .error k,e,w'=>e = .returned (.tuple #[.slice none 0 0,.int .i64 ((tk ts k).frm:Nat),.int .i64 60])∧Fr [tg] w w'
set_option maxHeartbeats 1000000 in
theorem parsed_any {ts:List Tok} (hT:Toks ts) {tg tc B f:Nat} {w:World} (T0:Tabs w) (hR:TRow w tg ts) (hB:B≤tg) (hlo:7≤B) (hBw:B≤w.heap.size) (htl:ts.length≤200001) (htc:ts.length≤tc) {r:Except Nat (List Nat×Nat×List PN)} (hP:P ts f .prog 0 []=some r) :
 Calls Tryz.prog 42 #[.slice (some ⟨tg,0,none⟩) ts.length tc] w (ReadPost ts B tg w r):=by
 have hmf:∀ (fn:Fn) (first cap:Array Value) (w:World),(Instr.makeFunc fn first cap).run Tryz.prog w = .ok (.func fn first cap) w:=fun _ _ _ _=>rfl
 have hps:=begin7_ps hT hR hB hlo hBw htl htc
 have hb7:=begin7_b tg ts.length tc w
 have f7:=begin7_fr tg ts.length tc w
 have hlt:tg<w.heap.size:=by obtain⟨c,z,hr1,hr2⟩:=hR;exact (Array.getElem?_eq_some_iff.1 hr1).1
 have T7:Tabs (begin7 tg ts.length tc w):=T0.fr f7 (by simp)
 have C:=hyp_all (B:=B) (pb:=w.heap.size+1+1+1+1+1+1) hT f f .prog 0 [] _ _ r (Nat.le_refl _) hps T7 trivial (by simp) hP
 simp only[Ctr,ptr] at C
 go_enter_defers Tryz.func42,Tryz.ntmps42
 go_wp2_with (first | (go_at_call 74;refine (decls_any _).mono ?_;rintro e w' ⟨rfl,rfl⟩) | (go_at_call 75;refine (stmts_any _).mono ?_;rintro e w' ⟨rfl,rfl⟩) | (go_at_call 76;refine (firsts_any _).mono ?_;rintro e w' ⟨rfl,rfl⟩))
 refine C.mono ?_
 clear C hmf
 obtain⟨e0,e1,e2,-,-,-,-,hs7⟩:=hb7
 rcases r with k | ⟨v,j,ms⟩
 ·rintro e W ⟨rfl,fW⟩
  have E0:=(fW.block _ (Array.getElem?_eq_some_iff.1 e0).1 (by simp[own7];omega)).trans e0
  have E1:=(fW.block _ (Array.getElem?_eq_some_iff.1 e1).1 (by simp[own7];omega)).trans e1
  have E2:=(fW.block _ (Array.getElem?_eq_some_iff.1 e2).1 (by simp[own7];omega)).trans e2
  refine leaves_cons (f:=73) (args:=#[.pointer (some ⟨w.heap.size,0,none⟩),.pointer (some ⟨w.heap.size+1,0,none⟩),.pointer (some ⟨w.heap.size+1+1,0,none⟩)]) (by simp) (by simp[go_sem]) ?_
  refine (catch_thrown _ _ _ (tk ts k).frm W _ _ _ _ _ _ (by omega) (by omega) (by omega) E0 E1 E2).mono ?_
  rintro e u' w'' ⟨rfl,rfl,fz,g0,g1,g2⟩
  have c0:=at_cells g0 0 rfl
  have c1:=at_cells g1 0 rfl
  have c2:=at_cells g2 0 rfl
  simp[Leaves,settle,results,Tryz.results42,go_sem,c0,c1,c2]
  refine⟨rfl,?_⟩
  have g7:Fr ([w.heap.size,w.heap.size+1,w.heap.size+1+1]++own7 tg w.heap.size) w w'' := ((f7.sub (by simp)).trans (fW.sub (fun k hk=>.inl (List.mem_append_right _ hk)))).trans (fz.sub (fun k hk=>.inl (List.mem_append_left _ hk)))
  exact g7.sub (fun k hk=>by simp[own7] at hk ⊢;omega)
 ·rintro e W ⟨rfl,F',hps',tr⟩
  have NI:∀ b,w.heap.size≤b→b<w.heap.size+1+1+1→b∉F' := fun b h1 h2=>tr.notin (by simp[own7];omega) (by omega)
  have n0:=NI _ (Nat.le_refl _) (by omega)
  have n1:=NI (w.heap.size+1) (by omega) (by omega)
  have n2:=NI (w.heap.size+1+1) (by omega) (by omega)
  have E0:=(tr.f.block _ (Array.getElem?_eq_some_iff.1 e0).1 (by simp[own7];omega)).trans e0
  have E1:=(tr.f.block _ (Array.getElem?_eq_some_iff.1 e1).1 (by simp[own7];omega)).trans e1
  have E2:=(tr.f.block _ (Array.getElem?_eq_some_iff.1 e2).1 (by simp[own7];omega)).trans e2
  have f8:Fr [tg] w W:=((f7.sub (T:=own7 tg w.heap.size) (by simp)).trans tr.f).sub (fun k hk=>by simp[own7] at hk ⊢;omega)
  obtain⟨tg',tc',nv,bd,bs,bf,L,hpb,-,-,-,-,-,-,-,-,-,hL,hown,hob,hkr⟩:=hps'.ex
  obtain⟨sa,sc,rfl,-⟩:=own_slice hown
  have cp:=at_cells hpb 2 rfl
  have c0:=at_cells E0 0 rfl
  have c1:=at_cells E1 0 rfl
  have c2:=at_cells E2 0 rfl
  have z0:W.frozen? ⟨w.heap.size,0,none⟩=false:=by simp[World.frozen?,E0]
  have z1:W.frozen? ⟨w.heap.size+1,0,none⟩=false:=by simp[World.frozen?,E1]
  have z2:W.frozen? ⟨w.heap.size+1+1,0,none⟩=false:=by simp[World.frozen?,E2]
  clear T0 T7 hP hR
  go_wp2
  have f9:Fr [w.heap.size,w.heap.size+1,w.heap.size+1+1] W (((W.setCell ⟨w.heap.size,0,none⟩ (.slice sa L.length sc)).setCell ⟨w.heap.size+1,0,none⟩ (.int .i64 0)).setCell ⟨w.heap.size+1+1,0,none⟩ (.int .i64 0)):=(((Fr.refl _ _).setCell (.inl (by simp)) _).setCell (.inl (by simp)) _).setCell (.inl (by simp)) _
  have g0:=set_other (v:=.int .i64 0) (show w.heap.size≠w.heap.size+1+1 by omega) (set_other (v:=.int .i64 0) (show w.heap.size≠w.heap.size+1 by omega) (set_same (v:=.slice sa L.length sc) E0))
  have g1:=set_other (v:=.int .i64 0) (show w.heap.size+1≠w.heap.size+1+1 by omega) (set_same (v:=.int .i64 0) (set_other (v:=.slice sa L.length sc) (show w.heap.size+1≠w.heap.size by omega) E1))
  have g2:=set_same (v:=.int .i64 0) (set_other (v:=.int .i64 0) (show w.heap.size+1+1≠w.heap.size+1 by omega) (set_other (v:=.slice sa L.length sc) (show w.heap.size+1+1≠w.heap.size by omega) E2))
  generalize ((W.setCell ⟨w.heap.size,0,none⟩ (.slice sa L.length sc)).setCell ⟨w.heap.size+1,0,none⟩ (.int .i64 0)).setCell ⟨w.heap.size+1+1,0,none⟩ (.int .i64 0)=W9 at *
  refine leaves_cons (f:=73) (args:=#[.pointer (some ⟨w.heap.size,0,none⟩),.pointer (some ⟨w.heap.size+1,0,none⟩),.pointer (some ⟨w.heap.size+1+1,0,none⟩)]) (by simp) (by simp[go_sem]) ?_
  refine (catch_idle _ _ _ _).mono ?_
  rintro e u' w'' ⟨rfl,rfl,rfl⟩
  have d0:=at_cells g0 0 rfl
  have d1:=at_cells g1 0 rfl
  have d2:=at_cells g2 0 rfl
  simp[Leaves,settle,results,Tryz.results42,go_sem,d0,d1,d2]
  have hn:∀ k,k∈[w.heap.size,w.heap.size+1,w.heap.size+1+1]→k∉F' := fun k hk=>by
   simp at hk
   rcases hk with rfl | rfl | rfl
   ·exact n0
   ·exact n1
   ·exact n2
  refine⟨_,L,F',rfl,hL,own_fr hown f9 (fun k hk hm=>hn k hm (hob k hk)),hob,fun m hm=>(hkr m hm).fr f9 hn,fun j hj=>⟨(hps'.fb j hj).1,Nat.lt_of_lt_of_le (hps'.fb j hj).2 f9.size⟩,?_⟩
  have g7:Fr ([w.heap.size,w.heap.size+1,w.heap.size+1+1]++[tg]) w w'' := (f8.sub (fun k hk=>.inl (List.mem_append_right _ hk))).trans (f9.sub (fun k hk=>.inl (List.mem_append_left _ hk)))
  exact g7.sub (fun k hk=>by simp at hk ⊢;omega)
def stepO (s:List UInt8) (o:Nat) : Nat:=if s = [40]∨s = [91]∨s = [123] then o+1 else if s = [41]∨s = [93]∨s = [125] then o-1 else o
def tooO:List Tok→Nat→Option Nat
 | [],_=>none
 | t::r,o=>if 150<stepO t.text o then some t.frm else tooO r (stepO t.text o)
def TooV:Option Nat→Value
 | none=>.tuple #[.int .i64 0,.bool false]
 | some p=>.tuple #[.int .i64 (p:Nat),.bool true]
theorem TRow.fr {w w' : World} {g:Nat} {ts:List Tok} {S:List Nat} (h:TRow w g ts) (f:Fr S w w') (hg:g∉S) : TRow w' g ts:=by
 obtain⟨c,z,h1,h2⟩:=h
 exact⟨c,z,(f.block _ (Array.getElem?_eq_some_iff.1 h1).1 hg).trans h1,h2⟩
theorem tooO_drop {ts:List Tok} {p o:Nat} (h:p<ts.length) : tooO (ts.drop p) o=if 150<stepO (tk ts p).text o then some (tk ts p).frm else tooO (ts.drop (p+1)) (stepO (tk ts p).text o):=by
 have:ts.drop p=tk ts p::ts.drop (p+1):=by
  have e:=tk_get h
  rw[List.getElem?_eq_getElem h] at e
  rw[← Option.some.inj e]
  exact List.drop_eq_getElem_cons h
 rw[this]
 rfl
set_option maxHeartbeats 1000000 in
theorem too_any {ts:List Tok} {tg tc:Nat} {w:World} (hR:TRow w tg ts) (htl:ts.length≤200001) (htc:ts.length≤tc) :
 Calls Tryz.prog 41 #[.slice (some ⟨tg,0,none⟩) ts.length tc] w fun e w'=>e = .returned (TooV (tooO ts 0))∧Fr [] w w' := by
 have HR:Hid (TRow w tg ts):=hR
 clear hR
 go_enter Tryz.func41,Tryz.ntmps41
 go_wp2
 go_loopw [4,9] (fun o i wr=>∃ p q:Nat,p≤ts.length∧i = .int .i64 p∧o = .int .i64 q∧q≤150∧Fr [] w wr∧Hid (tooO (ts.drop p) q=tooO ts 0)) (fun _ i _=>ts.length-(intOf i).toNat)
 case atStart=>exact⟨0,0,Nat.zero_le _,rfl,rfl,by omega,Fr.refl _ _,rfl⟩
 case round =>
  obtain⟨p,q,hp,rfl,rfl,hq,fw,HE⟩:=hrel
  by_cases hlt:p<ts.length
  ·have hRr:=HR.out.fr fw (by simp)
   have c0:=hRr.cell hlt (j:=0) (by omega) (u:=.int .i64 ((tk ts p).kind:Nat)) rfl
   have c1:=hRr.cell hlt (j:=1) (by omega) (u:=.string ⟨(tk ts p).text.toArray⟩) rfl
   have c2:=hRr.cell hlt (j:=2) (by omega) (u:=.int .i64 ((tk ts p).frm:Nat)) rfl
   have c3:=hRr.cell hlt (j:=3) (by omega) (u:=.int .i64 ((tk ts p).to:Nat)) rfl
   have c4:=hRr.cell hlt (j:=4) (by omega) (u:=.int .i64 ((tk ts p).n:Nat)) rfl
   simp only[Nat.add_zero] at c0
   have HS:Hid (tooO ts 0=if 150<stepO (tk ts p).text q then some (tk ts p).frm else tooO (ts.drop (p+1)) (stepO (tk ts p).text q)):=HE.out.symm.trans (tooO_drop hlt)
   generalize tk ts p=t at *
   clear hRr HE
   have hl2:(p:Int)<(ts.length:Int):=by omega
   cases h40:(t.text == [40]) with
   | true =>
     have y40:t.text = [40]:=eq_of_beq h40
     have HO:Hid (stepO t.text q=q+1):=by unfold Hid stepO;rw[if_pos (by simp[y40])]
     clear y40
     by_cases h150:(q:Int)+1≤150
     ·go_wp2
      go_roundw
      case rel=>exact⟨p+1,q+1,by omega,by go_num,by go_num,by omega,fw.alloc _,by unfold Hid;have e:=HS.out;rw[HO.out,if_neg (by omega)] at e;exact e.symm⟩
      case measure=>simp[intOf];omega
     ·have h151:(150:Int)<(q:Int)+1:=by omega
      go_wp2
      have HV:Hid (tooO ts 0=some t.frm):=by unfold Hid;have e:=HS.out;rw[HO.out,if_pos (by omega)] at e;exact e
      refine bodyPost_ret (results_tmp2 rfl _ _ _) rfl ⟨?_,fw.alloc _⟩
      rw[HV.out]
      rfl
   | false =>
     cases h91:(t.text == [91]) with
     | true =>
       have x40:¬ t.text = [40]:=fun e=>by rw[e] at h40;exact absurd h40 (by decide)
       have y91:t.text = [91]:=eq_of_beq h91
       have HO:Hid (stepO t.text q=q+1):=by unfold Hid stepO;rw[if_pos (by simp[y91])]
       clear x40 y91
       by_cases h150:(q:Int)+1≤150
       ·go_wp2
        go_roundw
        case rel=>exact⟨p+1,q+1,by omega,by go_num,by go_num,by omega,fw.alloc _,by unfold Hid;have e:=HS.out;rw[HO.out,if_neg (by omega)] at e;exact e.symm⟩
        case measure=>simp[intOf];omega
       ·have h151:(150:Int)<(q:Int)+1:=by omega
        go_wp2
        have HV:Hid (tooO ts 0=some t.frm):=by unfold Hid;have e:=HS.out;rw[HO.out,if_pos (by omega)] at e;exact e
        refine bodyPost_ret (results_tmp2 rfl _ _ _) rfl ⟨?_,fw.alloc _⟩
        rw[HV.out]
        rfl
     | false =>
       cases h123:(t.text == [123]) with
       | true =>
         have x40:¬ t.text = [40]:=fun e=>by rw[e] at h40;exact absurd h40 (by decide)
         have x91:¬ t.text = [91]:=fun e=>by rw[e] at h91;exact absurd h91 (by decide)
         have y123:t.text = [123]:=eq_of_beq h123
         have HO:Hid (stepO t.text q=q+1):=by unfold Hid stepO;rw[if_pos (by simp[y123])]
         clear x40 x91 y123
         by_cases h150:(q:Int)+1≤150
         ·go_wp2
          go_roundw
          case rel=>exact⟨p+1,q+1,by omega,by go_num,by go_num,by omega,fw.alloc _,by unfold Hid;have e:=HS.out;rw[HO.out,if_neg (by omega)] at e;exact e.symm⟩
          case measure=>simp[intOf];omega
         ·have h151:(150:Int)<(q:Int)+1:=by omega
          go_wp2
          have HV:Hid (tooO ts 0=some t.frm):=by unfold Hid;have e:=HS.out;rw[HO.out,if_pos (by omega)] at e;exact e
          refine bodyPost_ret (results_tmp2 rfl _ _ _) rfl ⟨?_,fw.alloc _⟩
          rw[HV.out]
          rfl
       | false =>
         cases h41:(t.text == [41]) with
         | true =>
           have x40:¬ t.text = [40]:=fun e=>by rw[e] at h40;exact absurd h40 (by decide)
           have x91:¬ t.text = [91]:=fun e=>by rw[e] at h91;exact absurd h91 (by decide)
           have x123:¬ t.text = [123]:=fun e=>by rw[e] at h123;exact absurd h123 (by decide)
           have y41:t.text = [41]:=eq_of_beq h41
           have HO:Hid (stepO t.text q=q-1):=by unfold Hid stepO;rw[if_neg (by simp[y41]),if_pos (by simp[y41])]
           clear x40 x91 x123 y41
           have hm:max ((q:Int)-1) 0≤150:=by omega
           go_wp2
           go_roundw
           case rel=>exact⟨p+1,q-1,by omega,by go_num,by congr 1;omega,by omega,fw.alloc _,by unfold Hid;have e:=HS.out;rw[HO.out,if_neg (by omega)] at e;exact e.symm⟩
           case measure=>simp[intOf];omega
         | false =>
           cases h93:(t.text == [93]) with
           | true =>
             have x40:¬ t.text = [40]:=fun e=>by rw[e] at h40;exact absurd h40 (by decide)
             have x91:¬ t.text = [91]:=fun e=>by rw[e] at h91;exact absurd h91 (by decide)
             have x123:¬ t.text = [123]:=fun e=>by rw[e] at h123;exact absurd h123 (by decide)
             have x41:¬ t.text = [41]:=fun e=>by rw[e] at h41;exact absurd h41 (by decide)
             have y93:t.text = [93]:=eq_of_beq h93
             have HO:Hid (stepO t.text q=q-1):=by unfold Hid stepO;rw[if_neg (by simp[y93]),if_pos (by simp[y93])]
             clear x40 x91 x123 x41 y93
             have hm:max ((q:Int)-1) 0≤150:=by omega
             go_wp2
             go_roundw
             case rel=>exact⟨p+1,q-1,by omega,by go_num,by congr 1;omega,by omega,fw.alloc _,by unfold Hid;have e:=HS.out;rw[HO.out,if_neg (by omega)] at e;exact e.symm⟩
             case measure=>simp[intOf];omega
           | false =>
             cases h125:(t.text == [125]) with
             | true =>
               have x40:¬ t.text = [40]:=fun e=>by rw[e] at h40;exact absurd h40 (by decide)
               have x91:¬ t.text = [91]:=fun e=>by rw[e] at h91;exact absurd h91 (by decide)
               have x123:¬ t.text = [123]:=fun e=>by rw[e] at h123;exact absurd h123 (by decide)
               have x41:¬ t.text = [41]:=fun e=>by rw[e] at h41;exact absurd h41 (by decide)
               have x93:¬ t.text = [93]:=fun e=>by rw[e] at h93;exact absurd h93 (by decide)
               have y125:t.text = [125]:=eq_of_beq h125
               have HO:Hid (stepO t.text q=q-1):=by unfold Hid stepO;rw[if_neg (by simp[y125]),if_pos (by simp[y125])]
               clear x40 x91 x123 x41 x93 y125
               have hm:max ((q:Int)-1) 0≤150:=by omega
               go_wp2
               go_roundw
               case rel=>exact⟨p+1,q-1,by omega,by go_num,by congr 1;omega,by omega,fw.alloc _,by unfold Hid;have e:=HS.out;rw[HO.out,if_neg (by omega)] at e;exact e.symm⟩
               case measure=>simp[intOf];omega
             | false =>
               have x40:¬ t.text = [40]:=fun e=>by rw[e] at h40;exact absurd h40 (by decide)
               have x91:¬ t.text = [91]:=fun e=>by rw[e] at h91;exact absurd h91 (by decide)
               have x123:¬ t.text = [123]:=fun e=>by rw[e] at h123;exact absurd h123 (by decide)
               have x41:¬ t.text = [41]:=fun e=>by rw[e] at h41;exact absurd h41 (by decide)
               have x93:¬ t.text = [93]:=fun e=>by rw[e] at h93;exact absurd h93 (by decide)
               have x125:¬ t.text = [125]:=fun e=>by rw[e] at h125;exact absurd h125 (by decide)
               have HO:Hid (stepO t.text q=q):=by unfold Hid stepO;rw[if_neg (by simp[x40,x91,x123]),if_neg (by simp[x41,x93,x125])]
               clear x40 x91 x123 x41 x93 x125
               have hm:(q:Int)≤150:=by omega
               go_wp2
               go_roundw
               case rel=>exact⟨p+1,q,by omega,by go_num,rfl,by omega,fw.alloc _,by unfold Hid;have e:=HS.out;rw[HO.out,if_neg (by omega)] at e;exact e.symm⟩
               case measure=>simp[intOf];omega
  ·have hpe:p=ts.length:=by omega
   subst hpe
   have HV:Hid (tooO ts 0=none):=by unfold Hid;rw[← HE.out,List.drop_of_length_le (Nat.le_refl _)];rfl
   have hl2:¬ ((ts.length:Int)<(ts.length:Int)):=by omega
   go_wp2
   refine bodyPost_ret (results_tmp2 rfl _ _ _) rfl ⟨?_,fw⟩
   rw[HV.out]
   rfl
end Go.Proofs.YtnmfcaahdeddnaaGreatDoor
namespace Go.Proofs.YtnmfcaahdeddnaaGreatDoor.T5
open Go.RowKit
set_option maxRecDepth 100000
set_option linter.unusedSimpArgs false
structure Nd where
 kind:Int
 text:ByteArray
 a:Option Addr
 c:Nat
 ks:List Int
 pl:Int
def kfit (c:Nat) (k:Int) : Bool :=
 if c=98 then k == 4 else if c=99 then k == 22 else if c=100 then (k == 2 || k == 3) else if c=101 then decide (15≤k∧k≤30)
 else if c=110 then k == 17 else if c=111 then (k == 4 || k == 14) else if c=112 then (k == 17 || k == 20 || k == 21 || k == 30) else if c=115 then decide (5≤k∧k≤13) else false
def cfit (c:Nat) : List Int→Nat
 | []=>0
 | k::r=>if kfit c k then cfit c r+1 else 0
def hfit (c:Nat) : List Int→Bool
 | []=>false
 | k::_=>kfit c k
def lowN (c:Nat) : Nat:=if 65≤c∧c≤90 then c+32 else c
def fitL:List UInt8→List Int→Bool
 | [],ks=>ks.isEmpty
 | c::r,ks=>if lowN c.toNat=c.toNat then (hfit c.toNat ks&&fitL r (ks.drop 1)) else fitL r (ks.drop (cfit (lowN c.toNat) ks))
theorem cfit_le (c:Nat) (ks:List Int) : cfit c ks≤ks.length:=by
 induction ks with
 | nil=>simp[cfit]
 | cons k r ih=>simp only[cfit,List.length_cons];split <;> omega
def wantsL:List (Int×Nat×List UInt8):=[(1,0,[68]),(2,1,[78]),(3,1,[78,98]),(4,0,[83]),(5,1,[101]),(6,0,[112,101]),(7,0,[101,98,111]),(8,0,[101,98]),(9,0,[101]),(10,0,[101]),(11,0,[101]),(12,0,[99]),(13,0,[78]),(14,0,[]),(15,2,[]),(16,0,[]),(17,1,[]),(18,3,[101]),(19,4,[101,101]),(20,1,[101]),(21,0,[101,101]),(22,1,[69]),(23,1,[]),(24,0,[101]),(25,0,[101]),(26,0,[]),(27,0,[101]),(28,0,[]),(29,0,[101]),(30,0,[])]
def wantL (k:Int) : Option (Nat×List UInt8):=wantsL.lookup k
def isEx (k:Int) : Bool:=decide (15≤k∧k≤30)
def isSt (k:Int) : Bool:=decide (5≤k∧k≤13)
def shapeL (kind:Int) (ks:List Int) : Bool :=
 if kind=1 then ks.all (fun k=>k == 2 || k == 3)
 else if kind=2∨kind=13 then ks.all (· == 17)
 else if kind=3 then decide (0<ks.length)&&(ks.take (ks.length-1)).all (· == 17)&&decide (ks.getLastD 0=4)
 else if kind=4 then ks.all isSt
 else if kind=5∨kind=9∨kind=10∨kind=11∨kind=18∨kind=20∨kind=24∨kind=25∨kind=27∨kind=29 then ks.all isEx&&decide (ks.length=1)
 else if kind=6 then ks.all isEx&&decide (ks.length=2)&&(ks.headD 0 == 17 || ks.headD 0 == 20 || ks.headD 0 == 21 || ks.headD 0 == 30)
 else if kind=7 then decide (ks.length=3)&&isEx (ks.getD 0 0)&&(ks.getD 1 0 == 4)&&(ks.getD 2 0 == 4 || ks.getD 2 0 == 14)
 else if kind=8 then decide (ks.length=2)&&isEx (ks.getD 0 0)&&(ks.getD 1 0 == 4)
 else if kind=12 then decide (ks.length=1)&&(ks.getD 0 0 == 22)
 else if kind=19∨kind=21 then ks.all isEx&&decide (ks.length=2)
 else if kind=22 then ks.all isEx
 else if kind=14∨kind=15∨kind=16∨kind=17∨kind=23∨kind=26∨kind=28∨kind=30 then decide (ks.length=0)
 else false
theorem many (c:Nat) (ks:List Int) : (ks.drop (cfit c ks)).isEmpty=ks.all (kfit c):=by
 induction ks with
 | nil=>rfl
 | cons k r ih =>
   simp only[cfit,List.all_cons]
   cases h:kfit c k with
   | true=>simpa using ih
   | false=>simp
theorem cfit0 (c:Nat) (ks:List Int) : cfit c ks≠0↔hfit c ks=true:=by
 cases ks with
 | nil=>simp[cfit,hfit]
 | cons k r =>
   simp only[cfit,hfit]
   by_cases h:kfit c k=true
   ·simp[h]
   ·simp[h]
theorem fn_fit (ks:List Int) : (hfit 98 (ks.drop (cfit 110 ks))&&((ks.drop (cfit 110 ks)).drop 1).isEmpty)=(decide (0<ks.length)&&(ks.take (ks.length-1)).all (· == 17)&&decide (ks.getLastD 0=4)):=by
 induction ks with
 | nil=>rfl
 | cons k r ih =>
   have e:kfit 110 k=(k == 17):=rfl
   have e' : kfit 98 k=(k == 4):=rfl
   simp only[cfit,e]
   cases h:(k == 17) with
   | true =>
     simp only[if_true,List.drop_succ_cons]
     rw[ih]
     have:k=17:=by simpa using h
     subst this
     cases r with
     | nil=>rfl
     | cons k2 r2=>simp
   | false =>
     simp only[Bool.false_eq_true,if_false,List.drop_zero,hfit,e',List.drop_succ_cons]
     cases r with
     | nil=>cases h2:(k == 4) <;> simp_all
     | cons k2 r2=>simp[h]
theorem lookup_want (k:Int) (h:k<1∨30<k) : wantL k=none:=by
 have:∀ l:List (Int×Nat×List UInt8),(∀ x∈l,x.1≠k)→l.lookup k=none:=by
  intro l hl
  induction l with
  | nil=>rfl
  | cons x r ih =>
    obtain⟨a,b⟩:=x
    have ha:a≠k:=hl (a,b) (by simp)
    rw[List.lookup_cons]
    have:(k == a)=false:=by simp;exact fun e=>ha e.symm
    rw[this]
    exact ih (fun x hx=>hl x (by simp[hx]))
 apply this
 intro x hx e
 have:∀ x∈wantsL,1≤x.1∧x.1≤30:=by decide
 have:=this x hx
 omega
theorem shape_fit (k:Int) (t:Nat) (ls:List UInt8) (ks:List Int) (h:wantL k=some (t,ls)) : fitL ls ks=shapeL k ks:=by
 have hk:1≤k∧k≤30:=by
  refine Decidable.byContradiction fun hn=>?_
  rw[lookup_want k (by omega)] at h
  cases h
 have hc:k=1∨k=2∨k=3∨k=4∨k=5∨k=6∨k=7∨k=8∨k=9∨k=10∨k=11∨k=12∨k=13∨k=14∨k=15∨k=16∨k=17∨k=18∨k=19∨k=20∨k=21∨k=22∨k=23∨k=24∨k=25∨k=26∨k=27∨k=28∨k=29∨k=30:=by omega
 have e1:∀ ks:List Int,fitL [101] ks=(ks.all isEx&&decide (ks.length=1)):=by
  intro ks
  match ks with
  | []=>rfl
  | [a]=>simp[fitL,hfit,kfit,isEx,lowN]
  | a::b::r=>simp[fitL,hfit,kfit,isEx,lowN]
 have e2:∀ ks:List Int,fitL [101,101] ks=(ks.all isEx&&decide (ks.length=2)):=by
  intro ks
  match ks with
  | []=>rfl
  | [a]=>simp[fitL,hfit,kfit,isEx,lowN]
  | [a,b]=>simp[fitL,hfit,kfit,isEx,lowN]
  | a::b::c::r=>simp[fitL,hfit,kfit,isEx,lowN]
 have e3:∀ ks:List Int,fitL [101,98] ks=(decide (ks.length=2)&&isEx (ks.getD 0 0)&&(ks.getD 1 0 == 4)):=by
  intro ks
  match ks with
  | []=>rfl
  | [a]=>simp[fitL,hfit,kfit,isEx,lowN]
  | [a,b]=>simp[fitL,hfit,kfit,isEx,lowN]
  | a::b::c::r=>simp[fitL,hfit,kfit,isEx,lowN]
 have e4:∀ ks:List Int,fitL [101,98,111] ks=(decide (ks.length=3)&&isEx (ks.getD 0 0)&&(ks.getD 1 0 == 4)&&(ks.getD 2 0 == 4 || ks.getD 2 0 == 14)):=by
  intro ks
  match ks with
  | []=>rfl
  | [a]=>simp[fitL,hfit,kfit,isEx,lowN]
  | [a,b]=>simp[fitL,hfit,kfit,isEx,lowN]
  | [a,b,c]=>simp[fitL,hfit,kfit,isEx,lowN,Bool.and_assoc]
  | a::b::c::d::r=>simp[fitL,hfit,kfit,isEx,lowN]
 have e5:∀ ks:List Int,fitL [112,101] ks=(ks.all isEx&&decide (ks.length=2)&&(ks.headD 0 == 17 || ks.headD 0 == 20 || ks.headD 0 == 21 || ks.headD 0 == 30)):=by
  intro ks
  match ks with
  | []=>rfl
  | [a]=>simp[fitL,hfit,kfit,isEx,lowN]
  | [a,b] =>
    simp[fitL,hfit,kfit,isEx,lowN]
    rw[Bool.eq_iff_iff]
    simp
    omega
  | a::b::c::r=>simp[fitL,hfit,kfit,isEx,lowN]
 have e6:∀ ks:List Int,fitL [99] ks=(decide (ks.length=1)&&(ks.getD 0 0 == 22)):=by
  intro ks
  match ks with
  | []=>rfl
  | [a]=>simp[fitL,hfit,kfit,isEx,lowN]
  | a::b::r=>simp[fitL,hfit,kfit,isEx,lowN]
 have e0:∀ ks:List Int,fitL [] ks=decide (ks.length=0):=by
  intro ks
  cases ks <;> simp[fitL]
 rcases hc with rfl | rfl | rfl | rfl | rfl | rfl | rfl | rfl | rfl | rfl | rfl | rfl | rfl | rfl | rfl | rfl | rfl | rfl | rfl | rfl | rfl | rfl | rfl | rfl | rfl | rfl | rfl | rfl | rfl | rfl
 all_goals
  obtain⟨rfl,rfl⟩ : t=_∧ls=_:=by
   have:=Option.some.inj h
   exact⟨(congrArg Prod.fst this).symm,(congrArg Prod.snd this).symm⟩
  clear h
 case inr.inr.inl=>exact fn_fit ks
 all_goals first
  | exact e0 ks
  | exact e1 ks
  | exact e2 ks
  | exact e3 ks
  | exact e4 ks
  | exact e5 ks
  | exact e6 ks
  | exact many 100 ks
  | exact many 110 ks
  | exact many 115 ks
  | exact many 101 ks
theorem fit_kind (ls:List UInt8) : ∀ ks:List Int,fitL ls ks=true→(1:Int)∉ks:=by
 have h1:∀ c,kfit c 1=false:=by
  intro c
  unfold kfit
  repeat (first | rfl | split)
 have hc:∀ c (ks:List Int),(1:Int)∉ks.take (cfit c ks):=by
  intro c ks
  induction ks with
  | nil=>simp
  | cons k r ih =>
    simp only[cfit]
    cases h:kfit c k with
    | false=>simp
    | true =>
      simp only[if_true,List.take_succ_cons,List.mem_cons,not_or]
      refine⟨fun e=>?_,ih⟩
      rw[← e,h1] at h
      cases h
 induction ls with
 | nil=>intro ks h;simp[fitL] at h;simp[h]
 | cons c r ih =>
   intro ks h
   simp only[fitL] at h
   split at h
   ·simp only[Bool.and_eq_true] at h
    have h1' := (cfit0 _ _).2 h.1
    have h2:=ih _ h.2
    have h3:=hc c.toNat ks
    cases ks with
    | nil=>simp
    | cons k q =>
      simp only[List.mem_cons,not_or]
      refine⟨?_,by simpa using h2⟩
      have:cfit c.toNat (k::q)=cfit c.toNat (k::q)-1+1:=by omega
      rw[this] at h3
      simp at h3
      exact h3.1
   ·have h2:=ih _ h
    have h3:=hc (lowN c.toNat) ks
    rw[← List.take_append_drop (cfit (lowN c.toNat) ks) ks]
    simp only[List.mem_append,not_or]
    exact⟨h3,h2⟩
def KAt (B:Nat) (w:World) (a:Option Addr) (ks:List Int) : Prop:=∀ (j:Nat) (k:Int),ks[j]? = some k→∃ b o,a=some ⟨b,o,none⟩∧b<B∧w.cell? ⟨b,o+j,none⟩=some (.int .i64 k)
structure NCell (B:Nat) (w:World) (b o:Nat) (x:Nd) : Prop where
 c0:w.cell? ⟨b,o,none⟩=some (.int .i64 x.kind)
 c1:w.cell? ⟨b,o+1,none⟩=some (.string x.text)
 c2:w.cell? ⟨b,o+2,none⟩=some (.slice x.a x.ks.length x.c)
 c3:w.cell? ⟨b,o+3,none⟩=some (.int .i64 x.pl)
 k:KAt B w x.a x.ks
 t:x.text.size≤maxLen
 kl:x.ks.length≤maxLen
 kc:x.ks.length≤x.c
 kn:x.a=none→x.c=0
def NAt (B:Nat) (w:World) (a:Option Addr) (L:List Nd) : Prop:=∀ (i:Nat) (x:Nd),L[i]? = some x→∃ b o,a=some ⟨b,o,none⟩∧b<B∧NCell B w b (o+i*4) x
theorem KAt.fr {B:Nat} {S:List Nat} {w w' : World} {a:Option Addr} {ks:List Int} (h:KAt B w a ks) (f:Fr S w w') (hS:∀ k,k∈S→B≤k) : KAt B w' a ks:=fun j k hk=>by
 obtain⟨b,o,e,hb,hc⟩:=h j k hk
 exact⟨b,o,e,hb,f.cell1 hc (fun hm=>by have:=hS _ hm;simp at this;omega)⟩
theorem NCell.fr {B:Nat} {S:List Nat} {w w' : World} {b o:Nat} {x:Nd} (h:NCell B w b o x) (f:Fr S w w') (hb:b<B) (hS:∀ k,k∈S→B≤k) : NCell B w' b o x:=by
 have hn:b∉S:=fun hm=>by have:=hS _ hm;omega
 exact⟨f.cell1 h.c0 hn,f.cell1 h.c1 hn,f.cell1 h.c2 hn,f.cell1 h.c3 hn,h.k.fr f hS,h.t,h.kl,h.kc,h.kn⟩
theorem NAt.fr {B:Nat} {S:List Nat} {w w' : World} {a:Option Addr} {L:List Nd} (h:NAt B w a L) (f:Fr S w w') (hS:∀ k,k∈S→B≤k) : NAt B w' a L:=fun i x hx=>by
 obtain⟨b,o,e,hb,hc⟩:=h i x hx
 exact⟨b,o,e,hb,hc.fr f hb hS⟩
def decL (s:ByteArray) : Bool:=(num s).isSome&&(decide (s.data.toList = [48]) || decide (49≤(s.data.toList.headD 0).toNat∧(s.data.toList.headD 0).toNat≤57))
def unaries:List (List UInt8):=[[45],[33],[126]]
def binaries:List (List UInt8):=[[43],[45],[42],[47],[37],[60,60],[62,62],[38],[94],[124],[61,61],[33,61],[60],[60,61]]
def unL (s:ByteArray) : Bool:=unaries.contains s.data.toList
def binL (s:ByteArray) : Bool:=binaries.contains s.data.toList
def noneL (s:ByteArray) : Bool:=s.data.toList.isEmpty
def textL (t:Nat) (s:ByteArray) : Bool :=
 if t=1 then name s else if t=2 then decL s else if t=3 then unL s else if t=4 then binL s else noneL s
def kd (L:List Nd) (k:Int) : Int:=match L[k.toNat]? with | some x=>x.kind | none=>0
def takeL (n:Nat) : List Int→List Bool→Option (List Bool)
 | [],T=>some T
 | k::r,T=>if k<0∨(n:Int)≤k∨T.getD k.toNat false=true then none else takeL n r (T.set k.toNat true)
def nodeE (L:List Nd) (n:Nat) (x:Nd) (T:List Bool) : Except Nat (List Bool) :=
 match wantL x.kind with
 | none=>.error 50
 | some (t,ls) =>
   if x.pl<0 then .error 50
   else match takeL n x.ks T with
    | none=>.error 50
    | some T'=>if textL t x.text=false then .error 52 else if fitL ls (x.ks.map (kd L))=false then .error 53 else .ok T'
def nodesL (L:List Nd) : Nat→Except (Nat×Nat) (List Bool)
 | 0=>.ok (List.replicate L.length false)
 | n+1=>match nodesL L n with
   | .error e=>.error e
   | .ok T=>match L[n]? with
     | none=>.ok T
     | some x=>match nodeE L n x T with
       | .error e=>.error (n,e)
       | .ok T'=>.ok T'
def kidD (D:List Nat) (n:Nat) : List Int→Nat→Nat
 | [],d=>d
 | k::r,d=>kidD D n r (if 0≤k∧k<n then max d (1+D.getD k.toNat 0) else d)
def depths (L:List Nd) : Nat→List Nat
 | 0=>[]
 | n+1=>depths L n++[match L[n]? with | some x=>kidD (depths L n) n x.ks 1 | none=>0]
def deepL (L:List Nd) : Nat:=(depths L L.length).getD (L.length-1) 0
def checkL (L:List Nd) : Nat×Nat :=
 if 50000<L.length then (0,2)
 else match nodesL L L.length with
  | .error e=>e
  | .ok T =>
    if L.length=0 then (0,50)
    else if kd L ((L.length-1:Nat) : Int)≠1∨(T.take (L.length-1)).contains false=true then (L.length-1,50)
    else if 200<deepL L then (0,51) else (0,0)
theorem take_length {n:Nat} : ∀ (ks:List Int) (T T' : List Bool),takeL n ks T=some T'→T'.length=T.length
 | [],T,T',h=>by simp[takeL] at h;rw[h]
 | k::r,T,T',h=>by
   simp only[takeL] at h
   split at h
   ·cases h
   ·rw[take_length r _ _ h];simp
theorem node_length {L:List Nd} {n:Nat} {x:Nd} {T T' : List Bool} (h:nodeE L n x T = .ok T') : T'.length=T.length:=by
 unfold nodeE at h
 repeat (split at h <;> try (cases h))
 exact take_length _ _ _ (by assumption)
theorem nodes_length {L:List Nd} : ∀ (n:Nat) (T:List Bool),nodesL L n = .ok T→T.length=L.length
 | 0,T,h=>by simp[nodesL] at h;rw[← h];simp
 | n+1,T,h=>by
   unfold nodesL at h
   split at h
   ·cases h
   ·rename_i T0 h0
    have ih:=nodes_length n T0 h0
    split at h
    ·cases h;exact ih
    ·split at h
     ·cases h
     ·rename_i T1 h1
      cases h
      rw[node_length h1,ih]
theorem nodes_stop {L:List Nd} {n:Nat} {e:Nat×Nat} (h:nodesL L n = .error e) : ∀ (m:Nat),n≤m→nodesL L m = .error e:=by
 intro m hm
 induction m with
 | zero=>have:n=0:=by omega
         subst this;exact h
 | succ m ih =>
   by_cases hn:n=m+1
   ·subst hn;exact h
   ·unfold nodesL;rw[ih (by omega)]
theorem nodes_err {L:List Nd} {n:Nat} {x:Nd} {T:List Bool} {e:Nat} (h:nodesL L n = .ok T) (hx:L[n]? = some x) (he:nodeE L n x T = .error e) : nodesL L L.length = .error (n,e):=by
 refine nodes_stop (n:=n+1) ?_ _ (by have:=(List.getElem?_eq_some_iff.1 hx).1;omega)
 unfold nodesL
 rw[h,hx]
 simp only[he]
theorem nodes_ok {L:List Nd} {n:Nat} {x:Nd} {T T' : List Bool} (h:nodesL L n = .ok T) (hx:L[n]? = some x) (he:nodeE L n x T = .ok T') : nodesL L (n+1) = .ok T' := by
 unfold nodesL
 rw[h,hx]
 simp only[he]
theorem depths_length (L:List Nd) : ∀ n,(depths L n).length=n
 | 0=>rfl
 | n+1=>by simp[depths,depths_length L n]
theorem kidD_le {D:List Nat} {n m:Nat} (hD:∀ d∈D,d≤m) : ∀ (ks:List Int) (d:Nat),d≤m+1→kidD D n ks d≤m+1
 | [],d,h=>h
 | k::r,d,h=>by
   refine kidD_le hD r _ ?_
   split
   ·have:D.getD k.toNat 0≤m:=by
     rw[List.getD_eq_getElem?_getD]
     cases hq:D[k.toNat]? with
     | none=>simp
     | some q=>simpa using hD q (List.mem_of_getElem? hq)
    omega
   ·exact h
theorem depths_le (L:List Nd) : ∀ n,∀ d∈depths L n,d≤n
 | 0,d,h=>by simp[depths] at h
 | n+1,d,h=>by
   simp only[depths,List.mem_append,List.mem_singleton] at h
   rcases h with h | h
   ·have:=depths_le L n d h;omega
   ·rw[h]
    split
    ·exact kidD_le (depths_le L n) _ _ (by omega)
    ·omega
theorem getD_le {l:List Nat} {m:Nat} (h:∀ d∈l,d≤m) (i:Nat) : l.getD i 0≤m:=by
 rw[List.getD_eq_getElem?_getD]
 cases hq:l[i]? with
 | none=>simp
 | some q=>simpa using h q (List.mem_of_getElem? hq)
theorem deepL_le (L:List Nd) : deepL L≤L.length:=getD_le (depths_le L L.length) _
end Go.Proofs.YtnmfcaahdeddnaaGreatDoor.T5
namespace Go.Proofs.YtnmfcaahdeddnaaGreatDoor
open Go.RowKit
set_option linter.unusedVariables false
set_option linter.unusedSimpArgs false
def RBk (w:World) (ts:List Tok) (rb tg tc i:Nat) (nv:Value) (bad:Bool) (p:Nat) : Prop :=
 w.heap[rb]? = some (.cells #[.slice (some ⟨tg,0,none⟩) ts.length tc,.int .i64 (i:Nat),nv,.bool bad,.int .i64 (p:Nat)] 80 (0,0))
theorem RBk.cells {w:World} {ts:List Tok} {rb tg tc i p:Nat} {nv:Value} {bad:Bool} (h:RBk w ts rb tg tc i nv bad p) :
 w.cell? ⟨rb,0,none⟩=some (.slice (some ⟨tg,0,none⟩) ts.length tc)∧w.cell? ⟨rb,1,none⟩=some (.int .i64 (i:Nat))∧w.cell? ⟨rb,2,none⟩=some nv∧w.cell? ⟨rb,3,none⟩=some (.bool bad)∧w.cell? ⟨rb,4,none⟩=some (.int .i64 (p:Nat))∧∀ j,w.frozen? ⟨rb,j,none⟩=false:=by
 unfold RBk at h
 simp[World.cell?,World.frozen?,h]
theorem RBk.lt {w:World} {ts:List Tok} {rb tg tc i p:Nat} {nv:Value} {bad:Bool} (h:RBk w ts rb tg tc i nv bad p) : rb<w.heap.size:=(Array.getElem?_eq_some_iff.1 h).1
theorem RBk.fr {w w' : World} {ts:List Tok} {rb tg tc i p:Nat} {nv:Value} {bad:Bool} {S:List Nat} (h:RBk w ts rb tg tc i nv bad p) (f:Fr S w w') (hS:rb∉S) : RBk w' ts rb tg tc i nv bad p:=(f.block _ h.lt hS).trans h
theorem TRow.lt {w:World} {g:Nat} {ts:List Tok} (h:TRow w g ts) : g<w.heap.size:=by obtain⟨c,z,h1,_⟩:=h;exact (Array.getElem?_eq_some_iff.1 h1).1
theorem TRow.ne {w:World} {g:Nat} {ts us:List Tok} (h:TRow w g ts) {rb tg tc i p:Nat} {nv:Value} {bad:Bool} (k:RBk w us rb tg tc i nv bad p) : g≠rb:=fun e=>by
 obtain⟨c,z,h1,_⟩:=h
 unfold RBk at k
 rw[e,k] at h1
 simp at h1
structure RS (ts:List Tok) (B rb:Nat) (F:List Nat) (i:Nat) (ns:List PN) (w:World) : Prop where
 ex:∃ (tg tc:Nat) (nv:Value) (L:List MN),RBk w ts rb tg tc i nv false 0∧ts.length≤tc∧tg∈F∧TRow w tg ts ∧
  L.map MN.x=ns∧w.ownsRow B 55 4 nv L.length (flatM L)∧(∀ k,nv.ownBlock=some k→k∈F)∧∀ m∈L,KRow w F m
 pf:rb∈F
 fb:∀ j∈F,B≤j∧j<w.heap.size
 lo:7≤B
 tl:ts.length≤200001
 ti:i<ts.length
structure RB (ts:List Tok) (rb p:Nat) (w:World) : Prop where
 ex:∃ (tg tc i:Nat) (nv:Value),RBk w ts rb tg tc i nv true p∧ts.length≤tc∧TRow w tg ts∧i<ts.length
 tl:ts.length≤200001
theorem RB.fr {ts:List Tok} {rb p:Nat} {w w' : World} (h:RB ts rb p w) (f:Fr [] w w') : RB ts rb p w' := by
 obtain⟨tg,tc,i,nv,h1,h2,h3,h4⟩:=h.ex
 exact⟨⟨tg,tc,i,nv,h1.fr f (by simp),h2,h3.fr f (by simp),h4⟩,h.tl⟩
theorem RS.fr {ts:List Tok} {B rb:Nat} {F:List Nat} {i:Nat} {ns:List PN} {w w' : World} (h:RS ts B rb F i ns w) {S:List Nat} (f:Fr S w w') (hS:∀ j∈S,j∉F) : RS ts B rb F i ns w' := by
 obtain⟨tg,tc,nv,L,h1,h2,h3,h4,h11,h12,h13,h14⟩:=h.ex
 refine⟨⟨tg,tc,nv,L,h1.fr f (fun hm=>hS _ hm h.pf),h2,h3,h4.fr f (fun hm=>hS _ hm h3),h11,own_fr h12 f (fun k hk hm=>hS k hm (h13 k hk)),h13,fun m hm=>(h14 m hm).fr f hS⟩,h.pf,fun j hj=>⟨(h.fb j hj).1,Nat.lt_of_lt_of_le (h.fb j hj).2 f.size⟩,h.lo,h.tl,h.ti⟩
set_option maxHeartbeats 1000000 in
theorem now_core {ts:List Tok} {rb tg tc i p:Nat} {nv:Value} {bad:Bool} {w:World} (hb:RBk w ts rb tg tc i nv bad p) (hR:TRow w tg ts) (hi:i<ts.length) (hc:ts.length≤tc) (hl:ts.length≤200001) :
 Calls Tryz.prog 33 #[.pointer (some ⟨rb,0,none⟩)] w fun e w'=>e = .returned (.agg (tokA (tk ts i)))∧Fr [] w w' := by
 have F0:Fr [] w (w.alloc (.cells #[.int .i64 0,.string ⟨#[]⟩,.int .i64 0,.int .i64 0,.int .i64 0] 82)):=(Fr.refl _ _).alloc _
 have u0:=TB.new w (.int .i64 0) (.string ⟨#[]⟩) (.int .i64 0) (.int .i64 0) (.int .i64 0)
 have hrl:=hb.lt
 have htl:=hR.lt
 have b1:=hb.fr F0 (by simp)
 have R1:=hR.fr F0 (by simp)
 obtain⟨e0,e1,_,_,_,_⟩:=b1.cells
 have t0:=R1.cell hi (j:=0) (by decide) rfl
 have t1:=R1.cell hi (j:=1) (by decide) rfl
 have t2:=R1.cell hi (j:=2) (by decide) rfl
 have t3:=R1.cell hi (j:=3) (by decide) rfl
 have t4:=R1.cell hi (j:=4) (by decide) rfl
 simp only[Nat.add_zero] at t0
 have hlI:(ts.length:Int)≤tc:=by omega
 have hiI:(i:Int)<ts.length:=by omega
 have hi0:(0:Int)≤(i:Int):=by omega
 have hlen:(ts.length:Int)≤200001:=by omega
 have HR:Hid (w.heap.size≠rb∧w.heap.size≠tg):=by unfold Hid;omega
 have hpR:rb≠w.heap.size:=by omega
 have htR:tg≠w.heap.size:=by omega
 unfold tokA
 generalize hW2:(w.alloc (.cells #[.int .i64 0,.string ⟨#[]⟩,.int .i64 0,.int .i64 0,.int .i64 0] 82))=w2 at *
 have r0:∀ w',Fr [w.heap.size] w2 w'→w'.cell? ⟨rb,0,none⟩=_:=fun w' f=>f.cell1 e0 (by simpa using hpR)
 have r1:∀ w',Fr [w.heap.size] w2 w'→w'.cell? ⟨rb,1,none⟩=_:=fun w' f=>f.cell1 e1 (by simpa using hpR)
 have s0:∀ w',Fr [w.heap.size] w2 w'→w'.cell? ⟨tg,i*5,none⟩=_:=fun w' f=>f.cell1 t0 (by simpa using htR)
 have s1:∀ w',Fr [w.heap.size] w2 w'→w'.cell? ⟨tg,i*5+1,none⟩=_:=fun w' f=>f.cell1 t1 (by simpa using htR)
 have s2:∀ w',Fr [w.heap.size] w2 w'→w'.cell? ⟨tg,i*5+2,none⟩=_:=fun w' f=>f.cell1 t2 (by simpa using htR)
 have s3:∀ w',Fr [w.heap.size] w2 w'→w'.cell? ⟨tg,i*5+3,none⟩=_:=fun w' f=>f.cell1 t3 (by simpa using htR)
 have s4:∀ w',Fr [w.heap.size] w2 w'→w'.cell? ⟨tg,i*5+4,none⟩=_:=fun w' f=>f.cell1 t4 (by simpa using htR)
 have f0:Fr [w.heap.size] w2 w2:=Fr.refl _ _
 have hmR:w.heap.size∈[w.heap.size]∨w2.heap.size≤w.heap.size:=.inl (by simp)
 clear t0 t1 t2 t3 t4 e0 e1 hb b1 R1 hR
 generalize tk ts i=t at *
 obtain⟨k,tx,fr,to,n⟩:=t
 simp only at *
 go_enter Tryz.func33,Tryz.ntmps33
 have d0:=u0.c0
 have d1:=u0.c1
 have d2:=u0.c2
 have d3:=u0.c3
 have d4:=u0.c4
 have dz:=u0.fz
 have F3:=TB.fset (Fr.refl [w.heap.size] w2) (B:=w.heap.size) (.inl (by simp)) (.int .i64 (k:Nat)) (.string ⟨tx.toArray⟩) (.int .i64 (fr:Nat)) (.int .i64 (to:Nat)) (.int .i64 (n:Nat))
 have F3d:=F3.drew
 go_wp2
 go_region_held3 (fun w'=>Fr [w.heap.size] w2 w') (with_reducible (first | assumption | (refine Fr.drew ?_;assumption))) (fail)
 clear r0 r1 s0 s1 s2 s3 s4 d0 d1 d2 d3 d4 dz
 go_wp2
 have u3:=u0.set (.int .i64 (k:Nat)) (.string ⟨tx.toArray⟩) (.int .i64 (fr:Nat)) (.int .i64 (to:Nat)) (.int .i64 (n:Nat))
 have g0:=u3.c0
 have g1:=u3.c1
 have g2:=u3.c2
 have g3:=u3.c3
 have g4:=u3.c4
 have F4:Fr [] w _:=((F0.sub (T:=[w.heap.size]) (by simp)).trans F3d).sub (fun k hk=>by
  simp at hk
  subst hk
  exact .inr (Nat.le_refl _))
 refine bodyPost_ret (v:=.agg #[.int .i64 (k:Nat),.string ⟨tx.toArray⟩,.int .i64 (fr:Nat),.int .i64 (to:Nat),.int .i64 (n:Nat)]) ?_ rfl ⟨rfl,F4⟩
 clear F4 F3 F3d u3
 generalize ((((w2.setCell _ _).setCell _ _).setCell _ _).setCell _ _).setCell _ _=w3 at *
 simp[results,Tryz.results33,go_sem,g0,g1,g2,g3,g4]
theorem RS.now {ts:List Tok} {B rb:Nat} {F:List Nat} {i:Nat} {ns:List PN} {w:World} (h:RS ts B rb F i ns w) :
 Calls Tryz.prog 33 #[.pointer (some ⟨rb,0,none⟩)] w fun e w'=>e = .returned (.agg (tokA (tk ts i)))∧Fr [] w w' := by
 obtain⟨tg,tc,nv,L,h1,h2,h3,h4,_⟩:=h.ex
 exact now_core h1 h4 h.ti h2 h.tl
theorem RB.now {ts:List Tok} {rb p:Nat} {w:World} (h:RB ts rb p w) :
 Calls Tryz.prog 33 #[.pointer (some ⟨rb,0,none⟩)] w fun e w'=>(∃ t,e = .returned (.agg (tokA t)))∧Fr [] w w' := by
 obtain⟨tg,tc,i,nv,h1,h2,h3,h4⟩:=h.ex
 exact (now_core h1 h3 h4 h2 h.tl).mono fun e w' ⟨h,f⟩=>⟨⟨_,h⟩,f⟩
def isT (t:Tok) (s:List UInt8) : Bool:=(t.kind == 3 || t.kind == 2)&&t.text == s
set_option maxHeartbeats 1000000 in
theorem RS.is {ts:List Tok} {B rb:Nat} {F:List Nat} {i:Nat} {ns:List PN} {w:World} (h:RS ts B rb F i ns w) (s:List UInt8) :
 Calls Tryz.prog 96 #[.pointer (some ⟨rb,0,none⟩),.string ⟨s.toArray⟩] w fun e w'=>e = .returned (.bool (isT (tk ts i) s))∧Fr [] w w' := by
 have C:=h.now
 unfold tokA at C
 generalize tk ts i=t at *
 obtain⟨k,tx,fr,to,n⟩:=t
 simp only at C
 clear h
 have HV:Hid (isT ⟨k,tx,fr,to,n⟩ s=((k == 3 || k == 2)&&tx == s)):=rfl
 generalize isT ⟨k,tx,fr,to,n⟩ s=V at *
 go_enter Tryz.func96,Tryz.ntmps96
 go_wp2_with fail
 refine C.mono ?_
 rintro e w1 ⟨rfl,f1⟩
 clear C
 have v2:=TB.new w1 (.int .i64 (k:Nat)) (.string ⟨tx.toArray⟩) (.int .i64 (fr:Nat)) (.int .i64 (to:Nat)) (.int .i64 (n:Nat))
 have f2:Fr [] w (w1.alloc (.cells #[.int .i64 (k:Nat),.string ⟨tx.toArray⟩,.int .i64 (fr:Nat),.int .i64 (to:Nat),.int .i64 (n:Nat)] 82)):=f1.alloc _
 have c0:=v2.c0
 have c1:=v2.c1
 by_cases k3:k=3
 ·subst k3
  cases hb:(tx == s)
  all_goals
   go_wp2
   go_ret
   exact⟨by rw[HV.out,hb];rfl,f2⟩
 ·have b3:((k:Int) == 3)=false:=beq_int_false (by omega)
  by_cases k2:k=2
  ·subst k2
   clear k3
   cases hb:(tx == s)
   all_goals
    go_wp2
    go_ret
    exact⟨by rw[HV.out,hb];rfl,f2⟩
  ·have b2:((k:Int) == 2)=false:=beq_int_false (by omega)
   have HK:Hid ((k == 3)=false∧(k == 2)=false):=⟨by simpa using k3,by simpa using k2⟩
   clear k3 k2
   go_wp2
   go_ret
   exact⟨by rw[HV.out,HK.out.1,HK.out.2];rfl,f2⟩
set_option maxHeartbeats 1000000 in
theorem RB.fail {ts:List Tok} {rb p:Nat} {w:World} (h:RB ts rb p w) :
 Calls Tryz.prog 65 #[.pointer (some ⟨rb,0,none⟩)] w fun e w'=>e = .returned (.int .i64 (-1))∧Fr [] w w' := by
 obtain⟨tg,tc,i,nv,h1,h2,h3,h4⟩:=h.ex
 obtain⟨_,_,_,c3,_,_⟩:=h1.cells
 have f0:=Fr.refl [] w
 clear h1 h3 h
 go_enter Tryz.func65,Tryz.ntmps65
 go_wp2
 go_ret
 exact⟨rfl,f0⟩
theorem RS.step {ts:List Tok} {B rb:Nat} {F:List Nat} {i:Nat} {ns:List PN} {w:World} (h:RS ts B rb F i ns w) {j:Nat} (hj:j<ts.length) : RS ts B rb F j ns (w.setCell ⟨rb,1,none⟩ (.int .i64 (j:Nat))):=by
 obtain⟨tg,tc,nv,L,h1,h2,h3,h4,h11,h12,h13,h14⟩:=h.ex
 have f:Fr [rb] w (w.setCell ⟨rb,1,none⟩ (.int .i64 (j:Nat))):=Fr.setCell (Fr.refl _ _) (.inl (by simp)) _
 have n1:=h4.ne h1
 have hb:RBk (w.setCell ⟨rb,1,none⟩ (.int .i64 (j:Nat))) ts rb tg tc j nv false 0:=by
  unfold RBk at h1 ⊢
  simp[World.setCell,Array.getElem?_modify,h1]
 have h1' := h1
 unfold RBk at h1'
 refine⟨⟨tg,tc,nv,L,hb,h2,h3,h4.fr f (by simpa using n1),h11,own_fr h12 f (fun k hk hm=>by simp at hm;subst hm;exact own_ne h12 h1' (by decide) hk),h13,fun m hm=>?_⟩,h.pf,fun j hj=>by have:=h.fb j hj;simp;exact this,h.lo,h.tl,hj⟩
 obtain⟨k1,k2,k3⟩:=h14 m hm
 refine⟨k1,k2,fun j k hk=>?_⟩
 obtain⟨b,o,c,z,e1,e2,e3,e4⟩:=k3 j k hk
 have hne:b≠rb:=fun e=>by rw[e,h1'] at e3;simp at e3
 exact⟨b,o,c,z,e1,e2,(f.block _ (Array.getElem?_eq_some_iff.1 e3).1 (by simpa using hne)).trans e3,e4⟩
set_option maxHeartbeats 1000000 in
theorem RS.fail {ts:List Tok} {B rb:Nat} {F:List Nat} {i:Nat} {ns:List PN} {w:World} (h:RS ts B rb F i ns w) :
 Calls Tryz.prog 65 #[.pointer (some ⟨rb,0,none⟩)] w fun e w'=>e = .returned (.int .i64 (-1))∧RB ts rb (tk ts i).frm w'∧Fr F w w' := by
 have C:=h.now
 have HF:Hid (rb∈F):=h.pf
 have HL:Hid (ts.length≤200001∧i<ts.length):=⟨h.tl,h.ti⟩
 obtain⟨tg,tc,nv,L,h1,h2,h3,h4,_⟩:=h.ex
 obtain⟨_,_,_,c3,_,_⟩:=h1.cells
 clear h
 unfold tokA at C
 go_enter Tryz.func65,Tryz.ntmps65
 go_wp2_with fail
 refine C.mono ?_
 rintro e w1 ⟨rfl,f1⟩
 clear C c3
 have fl:=fld2 ((tk ts i).kind:Nat) ((tk ts i).frm:Nat) ((tk ts i).to:Nat) ((tk ts i).n:Nat) ⟨(tk ts i).text.toArray⟩ w1
 have b1:=h1.fr f1 (by simp)
 have R1:=h4.fr f1 (by simp)
 have n1:=R1.ne b1
 obtain⟨_,_,_,c3,c4,cz⟩:=b1.cells
 have cz3:=cz 3
 have cz4:=cz 4
 generalize hpp:(tk ts i).frm=p at *
 have HPP:Hid ((tk ts i).frm=p):=hpp
 clear hpp
 have HE:Hid (RBk ((w1.setCell ⟨rb,3,none⟩ (.bool true)).setCell ⟨rb,4,none⟩ (.int .i64 (p:Nat))) ts rb tg tc i nv true p):=by
  unfold Hid RBk at *
  simp[World.setCell,Array.getElem?_modify,b1]
 have f2:Fr [rb] w1 ((w1.setCell ⟨rb,3,none⟩ (.bool true)).setCell ⟨rb,4,none⟩ (.int .i64 (p:Nat))):=Fr.setCell (Fr.setCell (Fr.refl _ _) (.inl (by simp)) _) (.inl (by simp)) _
 have z4:(w1.setCell ⟨rb,3,none⟩ (.bool true)).frozen? ⟨rb,4,none⟩=false:=by
  unfold RBk at b1
  simp[World.frozen?,World.setCell,Array.getElem?_modify,b1]
 have d4:(w1.setCell ⟨rb,3,none⟩ (.bool true)).cell? ⟨rb,4,none⟩=some (.int .i64 0):=by
  unfold RBk at b1
  simp[World.cell?,World.setCell,Array.getElem?_modify,b1]
 clear h1 h4 b1 cz
 go_wp2
 go_ret
 exact⟨rfl,⟨⟨tg,tc,i,nv,by rw[HPP.out];exact HE.out,h2,R1.fr f2 (by simpa using n1),HL.out.2⟩,HL.out.1⟩,((f1.sub (by simp)).trans f2).sub (fun k hk=>by simp at hk;subst hk;exact .inl HF.out)⟩
def numB:List UInt8:=[110,117,109,98,101,114]
structure KT (ts:List Tok) : Prop where
 k:∀ i,i<ts.length→(tk ts i).kind≤4∧((tk ts i).kind=2∨(tk ts i).kind=3→(tk ts i).text≠nmB∧(tk ts i).text≠numB∧(tk ts i).text≠[])
 wd:∀ i,i<ts.length→(tk ts i).kind=2→lineL (tk ts i).text=0
theorem KT.line {ts:List Tok} (h:KT ts) {i:Nat} (hi:i<ts.length) (hl:lineL (nx ts i)≠0) : (tk ts i).kind=3∧nx ts i=(tk ts i).text:=by
 obtain⟨h1,h2⟩:=h.k i hi
 have h3:=h.wd i hi
 unfold nx nxT at *
 rcases hk:(tk ts i).kind with _ | _ | _ | _ | _ | n
 ·simp[hk,lineL] at hl
 ·simp[hk,lineL] at hl
 ·simp[hk,h3 hk] at hl
 ·simp
 ·simp[hk,lineL] at hl
 ·omega
theorem KT.is {ts:List Tok} (h:KT ts) {i:Nat} (hi:i<ts.length) {s:List UInt8} (hs:s≠nmB∧s≠numB∧s≠[]) : isT (tk ts i) s=decide (nx ts i=s):=by
 obtain⟨h1,h2⟩:=h.k i hi
 unfold isT nx nxT
 rcases hk:(tk ts i).kind with _ | _ | _ | _ | _ | n
 ·simpa [eq_comm] using hs.2.2
 ·have:=hs.1
  simp only[nmB] at this
  simpa [eq_comm] using this
 ·by_cases e:(tk ts i).text=s <;> simp[e]
 ·by_cases e:(tk ts i).text=s <;> simp[e]
 ·have:=hs.2.1
  simp only[numB] at this
  simpa [eq_comm] using this
 ·omega
theorem KT.name {ts:List Tok} (h:KT ts) {i:Nat} (hi:i<ts.length) : (nx ts i=nmB)↔(tk ts i).kind=1:=by
 obtain⟨h1,h2⟩:=h.k i hi
 unfold nx nxT
 rcases hk:(tk ts i).kind with _ | _ | _ | _ | _ | n
 ·simp[nmB]
 ·simp[nmB]
 ·simpa using (h2 (.inl hk)).1
 ·simpa using (h2 (.inr hk)).1
 ·simp[nmB]
 ·omega
theorem KT.num {ts:List Tok} (h:KT ts) {i:Nat} (hi:i<ts.length) : (nx ts i=numB)↔(tk ts i).kind=4:=by
 obtain⟨h1,h2⟩:=h.k i hi
 unfold nx nxT
 rcases hk:(tk ts i).kind with _ | _ | _ | _ | _ | n
 ·simp[numB]
 ·simp[numB]
 ·simpa using (h2 (.inl hk)).2.1
 ·simpa using (h2 (.inr hk)).2.1
 ·simp[numB]
 ·omega
theorem KT.stop {ts:List Tok} (h:KT ts) {i:Nat} (hi:i<ts.length) : (nx ts i = [])↔(tk ts i).kind=0:=by
 obtain⟨h1,h2⟩:=h.k i hi
 unfold nx nxT
 rcases hk:(tk ts i).kind with _ | _ | _ | _ | _ | n
 ·simp
 ·simp
 ·simpa using (h2 (.inl hk)).2.2
 ·simpa using (h2 (.inr hk)).2.2
 ·simp
 ·omega
def Sg (s:List UInt8) : Prop:=s≠nmB∧s≠numB∧s≠[]
section
variable {ts:List Tok} {B rb:Nat} {F:List Nat} {i:Nat} {ns:List PN} {w:World}
theorem RS.cells (h:RS ts B rb F i ns w) : ∃ v2,w.cell? ⟨rb,1,none⟩=some (.int .i64 (i:Nat))∧w.cell? ⟨rb,2,none⟩=some v2∧w.cell? ⟨rb,3,none⟩=some (.bool false)∧∀ j,w.frozen? ⟨rb,j,none⟩=false:=by
 obtain⟨tg,tc,nv,L,h1,_⟩:=h.ex
 obtain⟨_,c1,c2,c3,_,cz⟩:=h1.cells
 exact⟨_,c1,c2,c3,cz⟩
theorem RB.cells {p:Nat} (h:RB ts rb p w) : w.cell? ⟨rb,3,none⟩=some (.bool true):=by
 obtain⟨tg,tc,i,nv,h1,_⟩:=h.ex
 exact h1.cells.2.2.2.1
set_option maxHeartbeats 1000000 in
theorem rtake_bad {p:Nat} (h:RB ts rb p w) (s:List UInt8) : Calls Tryz.prog 61 #[.pointer (some ⟨rb,0,none⟩),.string ⟨s.toArray⟩] w fun e w'=>e = .returned (.bool false)∧Fr [] w w' := by
 have c3:=h.cells
 have f0:=Fr.refl [] w
 clear h
 go_enter Tryz.func61,Tryz.ntmps61
 go_wp2
 go_ret
 exact⟨rfl,f0⟩
set_option maxHeartbeats 1000000 in
theorem rtake_no (h:RS ts B rb F i ns w) (K:KT ts) (s:List UInt8) (hs:Sg s) (hn:¬ nx ts i=s) : Calls Tryz.prog 61 #[.pointer (some ⟨rb,0,none⟩),.string ⟨s.toArray⟩] w fun e w'=>e = .returned (.bool false)∧Fr [] w w' := by
 have C:=h.is s
 rw[K.is h.ti hs,decide_eq_false hn] at C
 obtain⟨v2,_,_,c3,_⟩:=h.cells
 clear h hn
 go_enter Tryz.func61,Tryz.ntmps61
 go_wp2_with fail
 refine C.mono ?_
 rintro e w1 ⟨rfl,f1⟩
 clear C c3
 go_wp2
 go_ret
 exact⟨rfl,f1⟩
set_option maxHeartbeats 1000000 in
theorem rtake_yes (h:RS ts B rb F i ns w) (K:KT ts) (s:List UInt8) (hs:Sg s) (hn:nx ts i=s) (hi:i+1<ts.length) : Calls Tryz.prog 61 #[.pointer (some ⟨rb,0,none⟩),.string ⟨s.toArray⟩] w fun e w'=>e = .returned (.bool true)∧RS ts B rb F (i+1) ns w'∧Fr F w w' := by
 have C:=h.is s
 rw[K.is h.ti hs,decide_eq_true hn] at C
 obtain⟨v2,_,_,c3,_⟩:=h.cells
 have HPF:Hid (rb∈F):=h.pf
 have hb:(i:Int)+1≤200001:=by have:=h.tl;omega
 have HI:Hid (i+1<ts.length):=hi
 clear hn hi
 go_enter Tryz.func61,Tryz.ntmps61
 go_wp2_with fail
 refine C.mono ?_
 rintro e w1 ⟨rfl,f1⟩
 have h1:=h.fr f1 (by simp)
 obtain⟨v2,c1,_,_,cz⟩:=h1.cells
 have cz1:=cz 1
 have h2:=h1.step HI.out
 have ei:((i+1:Nat) : Int)=(i:Int)+1:=by omega
 rw[ei] at h2
 have f2:Fr [rb] w1 (w1.setCell ⟨rb,1,none⟩ (.int .i64 ((i:Int)+1))):=Fr.setCell (Fr.refl _ _) (.inl (by simp)) _
 clear C c3 h h1 cz ei
 go_wp2
 go_ret
 exact⟨rfl,h2,(f1.sub (by simp)).trans (f2.sub (fun k hk=>by simp at hk;subst hk;exact .inl HPF.out))⟩
set_option maxHeartbeats 1000000 in
theorem rwant_bad {p:Nat} (h:RB ts rb p w) (s:List UInt8) : Calls Tryz.prog 63 #[.pointer (some ⟨rb,0,none⟩),.string ⟨s.toArray⟩] w fun e w'=>e = .returned (.tuple #[])∧Fr [] w w' := by
 have C:=rtake_bad h s
 go_enter Tryz.func63,Tryz.ntmps63
 go_wp2_with fail
 refine C.mono ?_
 rintro e w1 ⟨rfl,f1⟩
 have C2:=(h.fr f1).fail
 clear C h
 go_wp2_with fail
 refine C2.mono ?_
 rintro e w2 ⟨rfl,f2⟩
 go_wp2
 go_end0
 exact⟨rfl,f1.trans f2⟩
set_option maxHeartbeats 1000000 in
theorem rwant_no (h:RS ts B rb F i ns w) (K:KT ts) (s:List UInt8) (hs:Sg s) (hn:¬ nx ts i=s) : Calls Tryz.prog 63 #[.pointer (some ⟨rb,0,none⟩),.string ⟨s.toArray⟩] w fun e w'=>e = .returned (.tuple #[])∧RB ts rb (tk ts i).frm w'∧Fr F w w' := by
 have C:=rtake_no h K s hs hn
 clear hn
 go_enter Tryz.func63,Tryz.ntmps63
 go_wp2_with fail
 refine C.mono ?_
 rintro e w1 ⟨rfl,f1⟩
 have C2:=(h.fr f1 (by simp)).fail
 clear C h
 go_wp2_with fail
 refine C2.mono ?_
 rintro e w2 ⟨rfl,h2,f2⟩
 go_wp2
 go_end0
 exact⟨rfl,h2,(f1.sub (by simp)).trans f2⟩
set_option maxHeartbeats 1000000 in
theorem rwant_yes (h:RS ts B rb F i ns w) (K:KT ts) (s:List UInt8) (hs:Sg s) (hn:nx ts i=s) (hi:i+1<ts.length) : Calls Tryz.prog 63 #[.pointer (some ⟨rb,0,none⟩),.string ⟨s.toArray⟩] w fun e w'=>e = .returned (.tuple #[])∧RS ts B rb F (i+1) ns w'∧Fr F w w' := by
 have C:=rtake_yes h K s hs hn hi
 clear hn hi h
 go_enter Tryz.func63,Tryz.ntmps63
 go_wp2_with fail
 refine C.mono ?_
 rintro e w1 ⟨rfl,h1,f1⟩
 clear C
 go_wp2
 go_end0
 exact⟨rfl,h1,f1⟩
set_option maxHeartbeats 1000000 in
theorem rname_no (h:RS ts B rb F i ns w) (K:KT ts) (hn:¬ nx ts i=nmB) : Calls Tryz.prog 62 #[.pointer (some ⟨rb,0,none⟩)] w fun e w'=>e = .returned (.string ⟨#[]⟩)∧RB ts rb (tk ts i).frm w'∧Fr F w w' := by
 have C:=h.now
 unfold tokA at C
 have hk:((((tk ts i).kind:Nat) : Int) != 1)=true:=by
  have:=mt (K.name h.ti).2 hn
  simp
  omega
 clear hn
 go_enter Tryz.func62,Tryz.ntmps62
 go_wp2_with fail
 refine C.mono ?_
 rintro e w1 ⟨rfl,f1⟩
 have f2:Fr [] w (w1.alloc (.cells #[.int .i64 ((tk ts i).kind:Nat),.string ⟨(tk ts i).text.toArray⟩,.int .i64 ((tk ts i).frm:Nat),.int .i64 ((tk ts i).to:Nat),.int .i64 ((tk ts i).n:Nat)] 82)):=f1.alloc _
 have v2:=TB.new w1 (.int .i64 ((tk ts i).kind:Nat)) (.string ⟨(tk ts i).text.toArray⟩) (.int .i64 ((tk ts i).frm:Nat)) (.int .i64 ((tk ts i).to:Nat)) (.int .i64 ((tk ts i).n:Nat))
 have h2:=h.fr f2 (by simp)
 obtain⟨_,_,_,c3,_⟩:=h2.cells
 have c0:=v2.c0
 have C2:=h2.fail
 clear C h v2
 go_wp2_with fail
 refine C2.mono ?_
 rintro e w3 ⟨rfl,h3,f3⟩
 go_wp2
 go_ret
 exact⟨rfl,h3,(f2.sub (by simp)).trans f3⟩
set_option maxHeartbeats 1000000 in
theorem rname_yes (h:RS ts B rb F i ns w) (K:KT ts) (hn:nx ts i=nmB) (hi:i+1<ts.length) : Calls Tryz.prog 62 #[.pointer (some ⟨rb,0,none⟩)] w fun e w'=>e = .returned (.string ⟨(tk ts i).text.toArray⟩)∧RS ts B rb F (i+1) ns w'∧Fr F w w' := by
 have C:=h.now
 unfold tokA at C
 have hk:((((tk ts i).kind:Nat) : Int) != 1)=false:=by
  have:=(K.name h.ti).1 hn
  simp
  omega
 have HPF:Hid (rb∈F):=h.pf
 have hb:(i:Int)+1≤200001:=by have:=h.tl;omega
 have HI:Hid (i+1<ts.length):=hi
 clear hn hi
 go_enter Tryz.func62,Tryz.ntmps62
 go_wp2_with fail
 refine C.mono ?_
 rintro e w1 ⟨rfl,f1⟩
 have f2:Fr [] w (w1.alloc (.cells #[.int .i64 ((tk ts i).kind:Nat),.string ⟨(tk ts i).text.toArray⟩,.int .i64 ((tk ts i).frm:Nat),.int .i64 ((tk ts i).to:Nat),.int .i64 ((tk ts i).n:Nat)] 82)):=f1.alloc _
 have v2:=TB.new w1 (.int .i64 ((tk ts i).kind:Nat)) (.string ⟨(tk ts i).text.toArray⟩) (.int .i64 ((tk ts i).frm:Nat)) (.int .i64 ((tk ts i).to:Nat)) (.int .i64 ((tk ts i).n:Nat))
 have h2:=h.fr f2 (by simp)
 obtain⟨_,c1,_,c3,cz⟩:=h2.cells
 have cz1:=cz 1
 have c0:=v2.c0
 have h3:=h2.step HI.out
 have ei:((i+1:Nat) : Int)=(i:Int)+1:=by omega
 rw[ei] at h3
 have hne:w1.heap.size∉[rb]:=by have:=(h.fb rb h.pf).2;have:=f1.size;simp;omega
 generalize hW:(w1.alloc (.cells #[.int .i64 ((tk ts i).kind:Nat),.string ⟨(tk ts i).text.toArray⟩,.int .i64 ((tk ts i).frm:Nat),.int .i64 ((tk ts i).to:Nat),.int .i64 ((tk ts i).n:Nat)] 82))=w2 at *
 have f3:Fr [rb] w2 (w2.setCell ⟨rb,1,none⟩ (.int .i64 ((i:Int)+1))):=Fr.setCell (Fr.refl _ _) (.inl (by simp)) _
 have v3:=v2.fr f3 hne
 have d1:=v3.c1
 clear C h h2 cz ei v2 v3 hne
 go_wp2
 go_ret
 exact⟨rfl,h3,(f2.sub (by simp)).trans (f3.sub (fun k hk=>by simp at hk;subst hk;exact .inl HPF.out))⟩
set_option maxHeartbeats 1000000 in
theorem rnode_bad {p:Nat} (h:RB ts rb p w) (kind:Int) (text:ByteArray) (pl:Int) (v:Value) : Calls Tryz.prog 35 #[.pointer (some ⟨rb,0,none⟩),.int .i64 kind,.string text,.int .i64 pl,v] w fun e w'=>e = .returned (.int .i64 (-1))∧Fr [] w w' := by
 have c3:=h.cells
 have f0:=Fr.refl [] w
 clear h
 go_enter Tryz.func35,Tryz.ntmps35
 go_wp2
 go_ret
 exact⟨rfl,f0⟩
end
set_option maxHeartbeats 2000000 in
theorem rnode_any {ts:List Tok} {B rb:Nat} {F:List Nat} {i:Nat} {ns:List PN} {w:World} (h:RS ts B rb F i ns w) {v:Value} {ks G:List Nat} (hv:KV B w v ks G) (kind:Nat) (text:List UInt8) (pl:Nat) (hn:ns.length+1≤1000000) :
 Calls Tryz.prog 35 #[.pointer (some ⟨rb,0,none⟩),.int .i64 (kind:Nat),.string ⟨text.toArray⟩,.int .i64 (pl:Nat),v] w fun e w'=>e = .returned (.int .i64 (ns.length:Nat))∧∃ F',RS ts B rb F' i (ns++[⟨kind,text,ks,pl⟩]) w'∧Fr F w w'∧∀ k∈F',k∈F∨k∈G∨w.heap.size≤k:=by
 obtain⟨i5,hi,hz,hz1,hby⟩:=info_parts info37
 obtain⟨tg,tc,nv,L,h1,h2,h3,h4,h11,h12,h13,h14⟩:=h.ex
 obtain⟨ka,kc,rfl,k2,k3,k4⟩:=hv.ex
 have HL:Hid (L.length=ns.length):=by unfold Hid;rw[← h11];simp
 have h1' := h1
 unfold RBk at h1'
 obtain⟨c0,c1,c2,c3,c4,cz⟩:=h1.cells
 have hpb:=h.fb rb h.pf
 have HB:Hid (B≤w.heap.size):=by unfold Hid;omega
 have hnew:∀ j u,[Value.int .i64 (kind:Nat),.string ⟨text.toArray⟩,.slice ka ks.length kc,.int .i64 (pl:Nat)][j]? = some u→(w.alloc (.cells #[.int .i64 (kind:Nat),.string ⟨text.toArray⟩,.slice ka ks.length kc,.int .i64 (pl:Nat)] 55)).cell? ((⟨w.heap.size,0,none⟩ : Addr).add j)=some u:=by
  intro j u hu
  have hadd:(⟨w.heap.size,0,none⟩ : Addr).add j = ⟨w.heap.size,j,none⟩:=by unfold Addr.add;split <;> simp_all
  rw[hadd]
  exact at_cells (heap_alloc_new w _) j (by simpa using hu)
 have hLn:Hid (L.length+1≤1000000):=by have:=HL.out;unfold Hid;omega
 obtain⟨na,nc,rfl,_⟩:=own_slice h12
 go_enter Tryz.func35,Tryz.ntmps35
 go_wp2_with (at_builtin;refine wpList_append_own_at _ rfl _ _ 23 rfl B 55 i5 (.agg #[.int .i64 0,.string ⟨#[]⟩,.slice none 0 0,.int .i64 0]) 4 56 under23 hi hz hz1 hby rfl (by decide) (.slice na L.length nc) L.length (flatM L) rfl (h12.alloc _) ⟨w.heap.size,0,none⟩ 1 1 [.int .i64 (kind:Nat),.string ⟨text.toArray⟩,.slice ka ks.length kc,.int .i64 (pl:Nat)] rfl rfl hnew (by simp[Value.oneCell']) (by have:=hLn.out;unfold maxLen;omega) (by have:=hLn.out;omega) (by have:=HB.out;simp;omega) ?_)
 intro v1 w3 hown1 hgrow hnil hloc
 have f2:Fr (Value.slice na L.length nc).ownBlock.toList w w3:=((Fr.refl _ _).alloc _).trans ((Fr.ofGrown hgrow).sub (fun k hk=>.inl hk))
 have kp2:∀ {k:Nat} {o:Obj},(Value.slice na L.length nc).ownBlock≠some k→w.heap[k]? = some o→w3.heap[k]? = some o:=fun hk h=>(f2.block _ (Array.getElem?_eq_some_iff.1 h).1 (by simpa using hk)).trans h
 have hp3:=kp2 (own_ne h12 h1' (by decide)) h1'
 have hb3:RBk w3 ts rb tg tc i (.slice na L.length nc) false 0:=hp3
 obtain⟨d0,d1,d2,d3,d4,dz⟩:=hb3.cells
 have dz2:=dz 2
 have hl3:Hid (∀ k,v1.ownBlock=some k→(Value.slice na L.length nc).ownBlock=some k∨w.heap.size≤k):=fun k hk=>by
  rcases hloc with e | e
  ·exact .inl (by rw[← e];exact hk)
  ·rw[e] at hk;simp at hk;exact .inr (by omega)
 obtain⟨va,vc,rfl,_⟩:=own_slice hown1
 have hp4:RBk (w3.setCell ⟨rb,2,none⟩ (.slice va (L.length+1) vc)) ts rb tg tc i (.slice va (L.length+1) vc) false 0:=by unfold RBk;simp[World.setCell,Array.getElem?_modify,hp3]
 obtain⟨g0,g1,g2,g3,g4,gz⟩:=hp4.cells
 have hLI:(L.length:Int)+1≤1000000:=by have:=hLn.out;omega
 clear c0 c1 c2 c3 c4 cz hnew hgrow hnil hloc dz gz d0 d1 d3 d4 g0 g1 g3 g4
 go_wp2
 go_ret
 have f3:Fr [rb] w3 (w3.setCell ⟨rb,2,none⟩ (.slice va (L.length+1) vc)):=Fr.setCell (Fr.refl _ _) (.inl (by simp)) _
 have kp:∀ {k:Nat} {o:Obj},k≠rb→(Value.slice na L.length nc).ownBlock≠some k→w.heap[k]? = some o→(w3.setCell ⟨rb,2,none⟩ (.slice va (L.length+1) vc)).heap[k]? = some o:=fun hk hk2 h=>(f3.block _ (Array.getElem?_eq_some_iff.1 (kp2 hk2 h)).1 (by simpa using hk)).trans (kp2 hk2 h)
 have FF:Fr F w (w3.setCell ⟨rb,2,none⟩ (.slice va (L.length+1) vc)):=(f2.sub (fun k hk=>.inl (h13 k (by simpa using hk)))).trans (f3.sub (fun k hk=>.inl (by simp at hk;subst hk;exact h.pf)))
 have kr:∀ {b:Nat} {cc:Array Value} {zz:Nat×Nat},w.heap[b]? = some (.cells cc 3 zz)→(w3.setCell ⟨rb,2,none⟩ (.slice va (L.length+1) vc)).heap[b]? = some (.cells cc 3 zz):=fun hb=>kp (fun e=>by rw[e,h1'] at hb;simp at hb) (own_ne h12 hb (by decide)) hb
 have hT:TRow (w3.setCell ⟨rb,2,none⟩ (.slice va (L.length+1) vc)) tg ts:=by
  obtain⟨c,z,q1,q2⟩:=h4
  exact⟨c,z,kp (fun e=>by rw[e,h1'] at q1;simp at q1) (own_ne h12 q1 (by decide)) q1,q2⟩
 refine⟨by rw[← HL.out];rfl,F++G++(Value.slice va (L.length+1) vc).ownBlock.toList,⟨⟨tg,tc,_,L++[⟨⟨kind,text,ks,pl⟩,ka,kc⟩],hp4,h2,by simp[h3],hT,by simp[h11],?_,fun k hk=>by simp[hk],?_⟩,by simp[h.pf],?_,h.lo,h.tl,h.ti⟩,FF,?_⟩
 ·have e1:(L++[(⟨⟨kind,text,ks,pl⟩,ka,kc⟩ : MN)]).length=L.length+1:=by simp
  rw[e1,flatM_append]
  have:=own_fr hown1 f3 (fun k hk hm=>by simp at hm;subst hm;exact own_ne hown1 hp3 (by decide) hk)
  simpa [flatM,MN.cells] using this
 ·intro m hm
  rcases List.mem_append.1 hm with hm | hm
  ·obtain⟨q1,q2,q3⟩:=h14 m hm
   refine⟨q1,q2,fun j k hk=>?_⟩
   obtain⟨b,o,cc,zz,e1,e2,e3,e4⟩:=q3 j k hk
   exact⟨b,o,cc,zz,e1,by simp[e2],kr e3,e4⟩
  ·simp at hm
   subst hm
   refine⟨k2,k3,fun j k hk=>?_⟩
   obtain⟨b,o,cc,zz,e1,e2,e3,e4⟩:=k4 j k hk
   exact⟨b,o,cc,zz,e1,by simp[e2],kr e3,e4⟩
 ·intro j hj
  have hsz:=FF.size
  simp only[List.mem_append,Option.mem_toList] at hj
  rcases hj with (hj | hj) | hj
  ·have:=h.fb j hj;omega
  ·have:=hv.lo j hj;omega
  ·have:=hown1.lt j hj;simp;omega
 ·intro k hk
  simp only[List.mem_append,Option.mem_toList] at hk
  rcases hk with (hk | hk) | hk
  ·exact .inl hk
  ·exact .inr (.inl hk)
  ·rcases hl3.out k hk with hk | hk
   ·exact .inl (h13 k hk)
   ·exact .inr (.inr hk)
section
variable {ts:List Tok} {rb p:Nat} {w:World}
set_option maxHeartbeats 1000000 in
theorem rfirst_bad (h:RB ts rb p w) : Calls Tryz.prog 198 #[.pointer (some ⟨rb,0,none⟩)] w fun e w'=>e = .returned (.int .i64 (-1))∧Fr [] w w' := by
 have C:=h.now
 unfold tokA at C
 go_enter Tryz.func198,Tryz.ntmps198
 go_wp2_with fail
 refine C.mono ?_
 rintro e w1 ⟨⟨t,rfl⟩,f1⟩
 obtain⟨k,tx,fr,to,n⟩:=t
 have f2:Fr [] w (w1.alloc (.cells #[.int .i64 (k:Nat),.string ⟨tx.toArray⟩,.int .i64 (fr:Nat),.int .i64 (to:Nat),.int .i64 (n:Nat)] 82)):=f1.alloc _
 have c3:=(h.fr f2).cells
 clear C h
 go_wp2
 go_ret
 exact⟨rfl,f2⟩
set_option maxHeartbeats 1000000 in
theorem rback_bad (h:RB ts rb p w) : Calls Tryz.prog 178 #[.pointer (some ⟨rb,0,none⟩)] w fun e w'=>e = .returned (.int .i64 (-1))∧Fr [] w w' := by
 have C:=rfirst_bad h
 go_enter Tryz.func178,Tryz.ntmps178
 go_wp2_with fail
 refine C.mono ?_
 rintro e w1 ⟨rfl,f1⟩
 have c3:=(h.fr f1).cells
 clear C h
 go_wp2
 go_loopw [3] (fun _ wr=>wr=w1) (fun _ _=>0)
 case atStart=>rfl
 case round =>
  subst hrel
  go_wp2
  go_ret
  exact⟨rfl,f1⟩
end
section
variable {ts:List Tok} {rb p:Nat} {w:World}
set_option maxHeartbeats 1000000 in
theorem rsign_bad (h:RB ts rb p w) : Calls Tryz.prog 196 #[.pointer (some ⟨rb,0,none⟩)] w fun e w'=>e = .returned (.int .i64 (-1))∧Fr [] w w' := by
 have C:=h.now
 unfold tokA at C
 go_enter Tryz.func196,Tryz.ntmps196
 go_wp2_with fail
 refine C.mono ?_
 rintro e w1 ⟨⟨t,rfl⟩,f1⟩
 obtain⟨k,tx,fr,to,n⟩:=t
 have f2:Fr [] w (w1.alloc (.cells #[.int .i64 (k:Nat),.string ⟨tx.toArray⟩,.int .i64 (fr:Nat),.int .i64 (to:Nat),.int .i64 (n:Nat)] 82)):=f1.alloc _
 have h2:=h.fr f2
 have C2:=rtake_bad h2 [45]
 clear C h
 go_wp2_with fail
 refine C2.mono ?_
 rintro e w3 ⟨rfl,f3⟩
 have h3:=h2.fr f3
 have C3:=rtake_bad h3 [33]
 clear C2 h2
 go_wp2_with fail
 refine C3.mono ?_
 rintro e w4 ⟨rfl,f4⟩
 have h4:=h3.fr f4
 have C4:=rtake_bad h4 [126]
 clear C3 h3
 go_wp2_with fail
 refine C4.mono ?_
 rintro e w5 ⟨rfl,f5⟩
 have h5:=h4.fr f5
 have C5:=rback_bad h5
 clear C4 h4
 go_wp2_with fail
 refine C5.mono ?_
 rintro e w6 ⟨rfl,f6⟩
 go_wp2
 go_ret
 exact⟨rfl,(((f2.trans f3).trans f4).trans f5).trans f6⟩
set_option maxHeartbeats 1000000 in
theorem rchain6_bad (h:RB ts rb p w) : Calls Tryz.prog 176 #[.pointer (some ⟨rb,0,none⟩),.int .i64 6] w fun e w'=>e = .returned (.int .i64 (-1))∧Fr [] w w' := by
 have C:=rsign_bad h
 go_enter Tryz.func176,Tryz.ntmps176
 go_wp2_with fail
 refine C.mono ?_
 rintro e w1 ⟨rfl,f1⟩
 go_wp2
 go_ret
 exact⟨rfl,f1⟩
set_option maxHeartbeats 1000000 in
theorem rchain_bad_step (h:RB ts rb p w) {l:Int} (hl:1≤l∧l≤5) (C:Calls Tryz.prog 176 #[.pointer (some ⟨rb,0,none⟩),.int .i64 (l+1)] w fun e w'=>e = .returned (.int .i64 (-1))∧Fr [] w w') : Calls Tryz.prog 176 #[.pointer (some ⟨rb,0,none⟩),.int .i64 l] w fun e w'=>e = .returned (.int .i64 (-1))∧Fr [] w w' := by
 obtain⟨l1,l2⟩:=hl
 go_enter Tryz.func176,Tryz.ntmps176
 go_wp2_with fail
 refine C.mono ?_
 rintro e w1 ⟨rfl,f1⟩
 have c3:=(h.fr f1).cells
 clear C h
 go_wp2
 go_loopw [5] (fun _ wr=>wr=w1) (fun _ _=>0)
 case atStart=>rfl
 case round =>
  subst hrel
  go_wp2
  go_ret
  exact⟨rfl,f1⟩
theorem rchain_bad (h:RB ts rb p w) : Calls Tryz.prog 176 #[.pointer (some ⟨rb,0,none⟩),.int .i64 1] w fun e w'=>e = .returned (.int .i64 (-1))∧Fr [] w w' :=
 rchain_bad_step h (by decide) (rchain_bad_step h (by decide) (rchain_bad_step h (by decide) (rchain_bad_step h (by decide) (rchain_bad_step h (by decide) (rchain6_bad h)))))
set_option maxHeartbeats 1000000 in
theorem rexpr_bad (h:RB ts rb p w) : Calls Tryz.prog 141 #[.pointer (some ⟨rb,0,none⟩)] w fun e w'=>e = .returned (.int .i64 (-1))∧Fr [] w w' := by
 have C:=rchain_bad h
 go_enter Tryz.func141,Tryz.ntmps141
 go_wp2_with fail
 refine C.mono ?_
 rintro e w1 ⟨rfl,f1⟩
 have h1:=h.fr f1
 have C1:=h1.now
 unfold tokA at C1
 clear C h
 go_wp2_with fail
 refine C1.mono ?_
 rintro e w2 ⟨⟨t,rfl⟩,f2⟩
 obtain⟨k,tx,fr,to,n⟩:=t
 have f3:Fr [] w1 (w2.alloc (.cells #[.int .i64 (k:Nat),.string ⟨tx.toArray⟩,.int .i64 (fr:Nat),.int .i64 (to:Nat),.int .i64 (n:Nat)] 82)):=f2.alloc _
 have c3:=(h1.fr f3).cells
 clear C1 h1
 go_wp2
 go_ret
 exact⟨rfl,f1.trans f3⟩
set_option maxHeartbeats 1000000 in
theorem rblock_bad (h:RB ts rb p w) : Calls Tryz.prog 66 #[.pointer (some ⟨rb,0,none⟩)] w fun e w'=>e = .returned (.int .i64 (-1))∧Fr [] w w' := by
 have C:=h.now
 unfold tokA at C
 go_enter Tryz.func66,Tryz.ntmps66
 go_wp2_with fail
 refine C.mono ?_
 rintro e w1 ⟨⟨t,rfl⟩,f1⟩
 obtain⟨k,tx,fr,to,n⟩:=t
 have fl:=fld2 (k:Nat) (fr:Nat) (to:Nat) (n:Nat) ⟨tx.toArray⟩ w1
 have h1:=h.fr f1
 have C1:=rwant_bad h1 [123]
 clear C h
 go_wp2_with fail
 refine C1.mono ?_
 rintro e w2 ⟨rfl,f2⟩
 have h2:=h1.fr f2
 have c3:=h2.cells
 have C2:=rwant_bad h2 [125]
 clear C1 h1 fl
 go_wp2
 go_loopw [4] (fun kv wr=>wr=w2∧kv = .slice none 0 0) (fun _ _=>0)
 case atStart=>exact⟨rfl,rfl⟩
 case round =>
  obtain⟨rfl,rfl⟩:=hrel
  go_wp2_with fail
  refine C2.mono ?_
  rintro e w3 ⟨rfl,f3⟩
  have h3:=h2.fr f3
  have C3:=rnode_bad h3 4 ⟨#[]⟩ (fr:Nat) (.slice none 0 0)
  clear C2 c3 h2
  go_wp2_with fail
  refine C3.mono ?_
  rintro e w4 ⟨rfl,f4⟩
  go_wp2
  go_ret
  exact⟨rfl,((f1.trans f2).trans f3).trans f4⟩
set_option maxHeartbeats 1000000 in
theorem rnames_bad (h:RB ts rb p w) (s:List UInt8) : Calls Tryz.prog 64 #[.pointer (some ⟨rb,0,none⟩),.string ⟨s.toArray⟩] w fun e w'=>e = .returned (.slice none 0 0)∧Fr [] w w' := by
 have C:=rtake_bad h s
 go_enter Tryz.func64,Tryz.ntmps64
 go_wp2_with fail
 refine C.mono ?_
 rintro e w1 ⟨rfl,f1⟩
 have c3:=(h.fr f1).cells
 clear C h
 go_wp2
 go_loopw [5] (fun kv wr=>wr=w1) (fun _ _=>0)
 case atStart=>rfl
 case round =>
  subst hrel
  go_wp2
  go_ret
  exact⟨rfl,f1⟩
end
def levS (s:List UInt8) : Nat:=lineL s-1
set_option maxHeartbeats 1000000 in
theorem rlevel_any (s:List UInt8) (w:World) : Calls Tryz.prog 197 #[.string ⟨s.toArray⟩] w fun e w'=>e = .returned (.int .i64 (levS s:Nat))∧w' = w:=by
 by_cases e0:s = [42]
 ·subst e0
  go_enter Tryz.func197,Tryz.ntmps197
  go_wp2
  go_ret
  exact⟨rfl,rfl⟩
 by_cases e1:s = [47]
 ·subst e1
  go_enter Tryz.func197,Tryz.ntmps197
  go_wp2
  go_ret
  exact⟨rfl,rfl⟩
 by_cases e2:s = [37]
 ·subst e2
  go_enter Tryz.func197,Tryz.ntmps197
  go_wp2
  go_ret
  exact⟨rfl,rfl⟩
 by_cases e3:s = [43]
 ·subst e3
  go_enter Tryz.func197,Tryz.ntmps197
  go_wp2
  go_ret
  exact⟨rfl,rfl⟩
 by_cases e4:s = [45]
 ·subst e4
  go_enter Tryz.func197,Tryz.ntmps197
  go_wp2
  go_ret
  exact⟨rfl,rfl⟩
 by_cases e5:s = [60,60]
 ·subst e5
  go_enter Tryz.func197,Tryz.ntmps197
  go_wp2
  go_ret
  exact⟨rfl,rfl⟩
 by_cases e6:s = [62,62]
 ·subst e6
  go_enter Tryz.func197,Tryz.ntmps197
  go_wp2
  go_ret
  exact⟨rfl,rfl⟩
 by_cases e7:s = [38]
 ·subst e7
  go_enter Tryz.func197,Tryz.ntmps197
  go_wp2
  go_ret
  exact⟨rfl,rfl⟩
 by_cases e8:s = [124]
 ·subst e8
  go_enter Tryz.func197,Tryz.ntmps197
  go_wp2
  go_ret
  exact⟨rfl,rfl⟩
 by_cases e9:s = [94]
 ·subst e9
  go_enter Tryz.func197,Tryz.ntmps197
  go_wp2
  go_ret
  exact⟨rfl,rfl⟩
 have HV:Hid (levS s=0):=by unfold Hid levS lineL;simp only[e0,e1,e2,e3,e4,e5,e6,e7,e8,e9,or_self,if_false];repeat (first | rfl | split)
 have b0:(s == [42])=false:=by simpa using e0
 have b1:(s == [47])=false:=by simpa using e1
 have b2:(s == [37])=false:=by simpa using e2
 have b3:(s == [43])=false:=by simpa using e3
 have b4:(s == [45])=false:=by simpa using e4
 have b5:(s == [60,60])=false:=by simpa using e5
 have b6:(s == [62,62])=false:=by simpa using e6
 have b7:(s == [38])=false:=by simpa using e7
 have b8:(s == [124])=false:=by simpa using e8
 have b9:(s == [94])=false:=by simpa using e9
 clear e0 e1 e2 e3 e4 e5 e6 e7 e8 e9
 generalize levS s=V at *
 go_enter Tryz.func197,Tryz.ntmps197
 go_wp2
 go_ret
 exact⟨by rw[HV.out];rfl,rfl⟩
def cmpS (s:List UInt8) : Bool:=s == [61,61] || s == [33,61] || s == [60] || s == [60,61]
theorem cmpS_line (s:List UInt8) : cmpS s=decide (lineL s=1):=by
 unfold cmpS lineL
 by_cases e0:s = [61,61]
 ·simp[e0]
 by_cases e1:s = [33,61]
 ·simp[e1]
 by_cases e2:s = [60]
 ·simp[e2]
 by_cases e3:s = [60,61]
 ·simp[e3]
 simp only[e0,e1,e2,e3,or_self,if_false,beq_eq_false_iff_ne.2 e0,beq_eq_false_iff_ne.2 e1,beq_eq_false_iff_ne.2 e2,beq_eq_false_iff_ne.2 e3,Bool.or_self]
 symm
 apply decide_eq_false
 repeat (first | decide | split)
set_option maxHeartbeats 1000000 in
theorem rcompares_any (s:List UInt8) (w:World) : Calls Tryz.prog 177 #[.string ⟨s.toArray⟩] w fun e w'=>e = .returned (.bool (cmpS s))∧w' = w:=by
 by_cases e0:s = [61,61]
 ·subst e0
  go_enter Tryz.func177,Tryz.ntmps177
  go_wp2
  go_ret
  exact⟨rfl,rfl⟩
 by_cases e1:s = [33,61]
 ·subst e1
  go_enter Tryz.func177,Tryz.ntmps177
  go_wp2
  go_ret
  exact⟨rfl,rfl⟩
 by_cases e2:s = [60]
 ·subst e2
  go_enter Tryz.func177,Tryz.ntmps177
  go_wp2
  go_ret
  exact⟨rfl,rfl⟩
 by_cases e3:s = [60,61]
 ·subst e3
  go_enter Tryz.func177,Tryz.ntmps177
  go_wp2
  go_ret
  exact⟨rfl,rfl⟩
 have b0:(s == [61,61])=false:=by simpa using e0
 have b1:(s == [33,61])=false:=by simpa using e1
 have b2:(s == [60])=false:=by simpa using e2
 have b3:(s == [60,61])=false:=by simpa using e3
 have HV:Hid (cmpS s=false):=by unfold Hid cmpS;rw[b0,b1,b2,b3];rfl
 clear e0 e1 e2 e3
 generalize cmpS s=V at *
 go_enter Tryz.func177,Tryz.ntmps177
 go_wp2
 go_ret
 exact⟨by rw[HV.out];rfl,rfl⟩
theorem ba_app (a b:List UInt8) : (⟨a.toArray⟩ : ByteArray)++(⟨b.toArray⟩ : ByteArray) = ⟨(a++b).toArray⟩:=by
 apply ByteArray.ext
 simp[ByteArray.data_append]
theorem dec_len:∀ (f n:Nat),n≤f→(Lib.decDigits n).length≤n+1
 | 0,n,h=>by rw[Lib.decDigits_one (by omega)];simp
 | f+1,n,h=>by
   by_cases h10:n<10
   ·rw[Lib.decDigits_one h10];simp
   ·rw[Lib.decDigits,dif_neg h10,List.length_append]
    have:=dec_len f (n / 10) (by omega)
    simp
    omega
def dgB (d:Nat) : UInt8:=UInt8.ofNat (48+d)
theorem conv_dig (d:Nat) (hd:d<10) (w:World) : (convert 21 9 (.int .i32 ((48:Int)+d))).run Tryz.prog w = .ok (.string ⟨#[dgB d]⟩) w:=by
 rcases d with _ | _ | _ | _ | _ | _ | _ | _ | _ | _ | n
 all_goals first | omega | kernel_rfl
set_option maxHeartbeats 1000000 in
theorem rdigits_any:∀ (f n:Nat) (w:World),n≤f→n≤9223372036854775807→Calls Tryz.prog 216 #[.int .i64 (n:Nat)] w fun e w'=>e = .returned (.string ⟨(Lib.decDigits n).toArray⟩)∧w' = w:=by
 intro f
 induction f with
 | zero =>
   intro n w h _
   obtain rfl:n=0:=by omega
   have HD:Hid (Lib.decDigits 0 = [dgB 0]):=Lib.decDigits_one (by omega)
   have hc:=fun w=>conv_dig 0 (by omega) w
   go_enter Tryz.func216,Tryz.ntmps216
   go_wp2
   go_ret
   exact⟨by rw[HD.out];rfl,rfl⟩
 | succ f ih =>
   intro n w h hn
   by_cases h10:n<10
   ·have hc:=fun w=>conv_dig n h10 w
    have h10' : (n:Int)<10:=by omega
    have HD:Hid (Lib.decDigits n = [dgB n]):=Lib.decDigits_one h10
    go_enter Tryz.func216,Tryz.ntmps216
    go_wp2
    go_ret
    exact⟨by rw[HD.out];rfl,rfl⟩
   ·have h10' : (10:Int)≤n:=by omega
    have HD:Hid (Lib.decDigits n=Lib.decDigits (n / 10)++[dgB (n % 10)]):=by unfold Hid;rw[Lib.decDigits,dif_neg h10];rfl
    have C:=ih (n / 10) w (by omega) (by omega)
    have hlen:¬ 9223372036854775807<(Lib.decDigits (n / 10)).length+1:=by have:=dec_len _ (n / 10) (Nat.le_refl _);omega
    have hc:=fun w=>conv_dig (n % 10) (Nat.mod_lt _ (by decide)) w
    have eq1:((n / 10:Nat) : Int)=(n:Int) / 10:=by omega
    have eq2:((n % 10:Nat) : Int)=(n:Int) % 10:=by omega
    rw[eq1] at C
    simp only[eq2] at hc
    go_enter Tryz.func216,Tryz.ntmps216
    go_wp2_with fail
    refine C.mono ?_
    rintro e w1 ⟨rfl,rfl⟩
    go_wp2
    go_ret
    exact⟨by rw[HD.out];rw[← ba_app];rfl,rfl⟩
def RPost (ts:List Tok) (B rb:Nat) (F:List Nat) (w:World) : Except Nat (List Nat×Nat×List PN)→Ending→World→Prop
 | .ok (v,j,ms),e,w'=>e = .returned (.int .i64 (hd v:Nat))∧∃ F',RS ts B rb F' j ms w'∧Tr F w F' w'
 | .error k,e,w'=>∃ x,e = .returned (.int .i64 x)∧RB ts rb (tk ts k).frm w'∧Fr F w w'
def RPostL (ts:List Tok) (B rb:Nat) (F:List Nat) (w:World) : Except Nat (List Nat×Nat×List PN)→Ending→World→Prop
 | .ok (v,j,ms),e,w'=>∃ u F',e = .returned u∧ON w' B u v∧(∀ k,u.ownBlock=some k→k∉F'∧w.heap.size≤k)∧RS ts B rb F' j ms w'∧Tr F w F' w'
 | .error k,e,w'=>e = .returned (.slice none 0 0)∧RB ts rb (tk ts k).frm w'∧Fr F w w'
def RCtr (ts:List Tok) (B rb:Nat) (F:List Nat) (w:World) (r:Except Nat (List Nat×Nat×List PN)) : NT→Prop
 | .decl=>Calls Tryz.prog 34 #[ptr rb] w (RPost ts B rb F w r)
 | .first=>Calls Tryz.prog 198 #[ptr rb] w (RPost ts B rb F w r)
 | .block _=>Calls Tryz.prog 66 #[ptr rb] w (RPost ts B rb F w r)
 | .stmt=>Calls Tryz.prog 97 #[ptr rb] w (RPost ts B rb F w r)
 | .setOrDo=>Calls Tryz.prog 143 #[ptr rb] w (RPost ts B rb F w r)
 | .expr=>Calls Tryz.prog 141 #[ptr rb] w (RPost ts B rb F w r)
 | .chain l=>∀ lev:Nat,l=lev+1→1≤lev→Calls Tryz.prog 176 #[ptr rb,.int .i64 (lev:Nat)] w (RPost ts B rb F w r)
 | .signed=>Calls Tryz.prog 196 #[ptr rb] w (RPost ts B rb F w r)
 | .back=>Calls Tryz.prog 178 #[ptr rb] w (RPost ts B rb F w r)
 | .listed false closing=>Sg closing→closing≠[44]→Calls Tryz.prog 64 #[ptr rb,.string ⟨closing.toArray⟩] w (RPostL ts B rb F w r)
 | .listed true closing=>closing = [41]→Calls Tryz.prog 217 #[ptr rb] w (RPostL ts B rb F w r)
 | _=>True
def RHyp (ts:List Tok) (B rb f:Nat) : Prop:=∀ (g:Nat) (nt:NT) (i:Nat) (ns:List PN) (w:World) (F:List Nat) (r:Except Nat (List Nat×Nat×List PN)),g≤f→RS ts B rb F i ns w→preN ts i ns nt→ns.length≤2*i+1→P ts g nt i ns=some r→RCtr ts B rb F w r nt
theorem RHyp.less {ts:List Tok} {B rb f g:Nat} (h:RHyp ts B rb f) (hg:g≤f) : RHyp ts B rb g:=fun g' nt i ns w F r h1=>h g' nt i ns w F r (Nat.le_trans h1 hg)
theorem RB.fr_row {ts:List Tok} {rb p:Nat} {w w' : World} (h:RB ts rb p w) {B n:Nat} {v:Value} {xs:List Value} (ho:w.ownsRow B 3 1 v n xs) (f:Fr v.ownBlock.toList w w') : RB ts rb p w' := by
 obtain⟨tg,tc,i,nv,h1,h2,h3,h4⟩:=h.ex
 have h1' := h1
 unfold RBk at h1'
 obtain⟨c,z,q1,q2⟩:=h3
 exact⟨⟨tg,tc,i,nv,h1.fr f (fun hm=>own_ne ho h1' (by decide) (by simpa using hm)),h2,TRow.fr ⟨c,z,q1,q2⟩ f (fun hm=>own_ne ho q1 (by decide) (by simpa using hm)),h4⟩,h.tl⟩
theorem Tr.ends_row {F F1 G:List Nat} {w w1 w2:World} (t:Tr F w F1 w1) (k:Fr G w1 w2) (h:∀ j∈G,w.heap.size≤j) : Fr F w w2:=(row_tr t k h).f
theorem bindR_assoc (x:R) (k1 k2:List Nat→Nat→List PN→R) : bindR (bindR x k1) k2=bindR x (fun v j ns=>bindR (k1 v j ns) k2):=by
 cases x with
 | none=>rfl
 | some y=>cases y <;> rfl
theorem bindR_want {ts:List Tok} {s:List UInt8} {i:Nat} {x:R} {k:List Nat→Nat→List PN→R} : bindR (wantR ts s i x) k=wantR ts s i (bindR x k):=by
 unfold wantR
 split <;> rfl
theorem bindR_lay {kind:Nat} {text:List UInt8} {pl:Nat} {ks:List Nat} {i:Nat} {ns:List PN} {k:List Nat→Nat→List PN→R} : bindR (layR kind text pl ks i ns) k=k [ns.length] i (ns++[⟨kind,text,ks,pl⟩]):=rfl
theorem bindR_ok {v:List Nat} {i:Nat} {ns:List PN} {k:List Nat→Nat→List PN→R} : bindR (some (.ok (v,i,ns))) k=k v i ns:=rfl
set_option maxHeartbeats 2000000 in
theorem r_decl {ts:List Tok} {B rb:Nat} (hT:Toks ts) (K:KT ts) {f i:Nat} {ns:List PN} {w:World} {F:List Nat} {r:Except Nat (List Nat×Nat×List PN)} (H:RHyp ts B rb f) (h0:RS ts B rb F i ns w) (hn:ns.length≤2*i+1) (hP:P ts (f+1) .decl i ns=some r) : RCtr ts B rb F w r .decl:=by
 obtain⟨i3,hi3,hz,hz1,hby⟩:=info_parts info3
 have hi:=h0.ti
 have HTL:Hid (ts.length≤200001):=h0.tl
 have HBW:Hid (B≤w.heap.size):=by have:=h0.fb rb h0.pf;unfold Hid;omega
 simp only[P] at hP
 have HP:Hid (_=some r):=hP
 clear hP
 simp only[RCtr,ptr]
 have t0:=Tr.refl F w
 have HN:Hid (ns.length≤2*i+1):=hn
 clear hn
 by_cases e1:nx ts (i) = [114,101,99]
 ·have q1:=hT.more hi (show nx ts (i)≠[] by rw[e1];decide)
  have C1:=rtake_yes h0 K [114,101,99] (by unfold Sg;decide) e1 q1
  have E1:Hid (nx ts (i) = [114,101,99]):=e1
  clear e1
  go_enter Tryz.func34,Tryz.ntmps34
  go_wp2_with fail
  refine C1.mono ?_
  rintro e w1 ⟨rfl,h1,f1⟩
  clear C1
  have s1:=Tr.of f1
  have t1:=t0.trans s1
  have h1:RS ts B rb F (i+1) ns w1:=h1
  have q1:i+1<ts.length:=q1
  have hP:=HP.out
  rw[E1.out,show declNT [114,101,99]=some .recd from rfl] at hP
  clear HP E1
  obtain _ | f:=f
  ·simp[P] at hP
  simp only[P] at hP
  have HP:Hid (_=some r):=hP
  clear hP
  have C2:=h1.now
  unfold tokA at C2
  go_wp2_with fail
  refine C2.mono ?_
  rintro e w2 ⟨rfl,f2⟩
  clear C2
  have fl2:=fld2 ((tk ts (i+1)).kind:Nat) ((tk ts (i+1)).frm:Nat) ((tk ts (i+1)).to:Nat) ((tk ts (i+1)).n:Nat) ⟨(tk ts (i+1)).text.toArray⟩ w2
  have h2:=h1.fr f2 (by simp)
  have t2:=t1.trans (Tr.of0 f2)
  by_cases e3:nx ts (i+1)=nmB
  rotate_left
  ·have hP:=HP.out
   rw[wantR_no e3] at hP
   have C3:=rname_no h2 K e3
   cases hP
   go_wp2_with fail
   refine C3.mono ?_
   rintro e w3 ⟨rfl,hb3,f3⟩
   clear C3
   have fe3:=t2.ends f3
   go_wp2_with fail
   refine (rwant_bad hb3 [123]).mono ?_
   rintro e w4 ⟨rfl,f4⟩
   have hb4:=hb3.fr f4
   have fe4:=fe3.trans (f4.sub (by simp))
   go_wp2_with fail
   refine (rnames_bad hb4 [125]).mono ?_
   rintro e w5 ⟨rfl,f5⟩
   have hb5:=hb4.fr f5
   have fe5:=fe4.trans (f5.sub (by simp))
   go_wp2_with fail
   refine (rnode_bad (ts:=ts) (rb:=rb) (p:=_) (by first | exact hb5 | exact hb5.fr ((Fr.refl _ _).alloc _)) _ _ _ _).mono ?_
   rintro e w6 ⟨rfl,f6⟩
   have f6:Fr [] w5 w6:=by first | exact f6 | exact ((Fr.refl [] _).alloc _).trans f6
   have hb6:=hb5.fr f6
   have fe6:=fe5.trans (f6.sub (by simp))
   go_wp2
   go_ret
   exact⟨_,rfl,hb6,fe6⟩
  have q3:=hT.more q1 (show nx ts (i+1)≠[] by rw[e3];decide)
  have hP:=HP.out
  rw[wantR_yes e3] at hP
  have HP:Hid (_=some r):=hP
  clear hP
  have C3:=rname_yes h2 K e3 q3
  clear e3
  go_wp2_with fail
  refine C3.mono ?_
  rintro e w3 ⟨rfl,h3,f3⟩
  clear C3
  have s3:=Tr.of f3
  have t3:=t2.trans s3
  have h3:RS ts B rb F (i+2) ns w3:=h3
  have q3:i+2<ts.length:=q3
  by_cases e7:nx ts (i+2) = [123]
  rotate_left
  ·have hP:=HP.out
   rw[wantR_no e7] at hP
   have C7:=rwant_no h3 K [123] (by unfold Sg;decide) e7
   cases hP
   go_wp2_with fail
   refine C7.mono ?_
   rintro e w7 ⟨rfl,hb7,f7⟩
   clear C7
   have fe7:=t3.ends f7
   go_wp2_with fail
   refine (rnames_bad hb7 [125]).mono ?_
   rintro e w8 ⟨rfl,f8⟩
   have hb8:=hb7.fr f8
   have fe8:=fe7.trans (f8.sub (by simp))
   go_wp2_with fail
   refine (rnode_bad (ts:=ts) (rb:=rb) (p:=_) (by first | exact hb8 | exact hb8.fr ((Fr.refl _ _).alloc _)) _ _ _ _).mono ?_
   rintro e w9 ⟨rfl,f9⟩
   have f9:Fr [] w8 w9:=by first | exact f9 | exact ((Fr.refl [] _).alloc _).trans f9
   have hb9:=hb8.fr f9
   have fe9:=fe8.trans (f9.sub (by simp))
   go_wp2
   go_ret
   exact⟨_,rfl,hb9,fe9⟩
  have q7:=hT.more q3 (show nx ts (i+2)≠[] by rw[e7];decide)
  have hP:=HP.out
  rw[wantR_yes e7] at hP
  have HP:Hid (_=some r):=hP
  clear hP
  have C7:=rwant_yes h3 K [123] (by unfold Sg;decide) e7 q7
  clear e7
  go_wp2_with fail
  refine C7.mono ?_
  rintro e w7 ⟨rfl,h7,f7⟩
  clear C7
  have s7:=Tr.of f7
  have t7:=t3.trans s7
  have h7:RS ts B rb F (i+3) ns w7:=h7
  have q7:i+3<ts.length:=q7
  rcases bindR_some HP.out with ⟨er,hr,he⟩ | ⟨v10,j10,n10,hr,hP⟩
  ·subst he
   have C10:=H f (.listed false [125]) _ _ w7 _ _ (by omega) h7 (by simp[preN]) (by have:=HN.out;omega) hr
   simp only[RCtr,ptr] at C10
   replace C10:=C10 (by unfold Sg;decide) (by decide)
   go_wp2_with fail
   refine C10.mono ?_
   rintro e w10 ⟨rfl,hb10,f10⟩
   clear C10
   have fe10:=t7.ends f10
   go_wp2_with fail
   refine (rnode_bad (ts:=ts) (rb:=rb) (p:=_) (by first | exact hb10 | exact hb10.fr ((Fr.refl _ _).alloc _)) _ _ _ _).mono ?_
   rintro e w11 ⟨rfl,f11⟩
   have f11:Fr [] w10 w11:=by first | exact f11 | exact ((Fr.refl [] _).alloc _).trans f11
   have hb11:=hb10.fr f11
   have fe11:=fe10.trans (f11.sub (by simp))
   go_wp2
   go_ret
   exact⟨_,rfl,hb11,fe11⟩
  obtain⟨o10a,o10b,o10c,o10d,_⟩:=run_ok hT (nt:=.listed false [125]) (ns:=ns) h7.ti (by simp[preN]) hr
  simp only[consN,slack] at o10a o10d
  have C10:=H f (.listed false [125]) _ _ w7 _ _ (by omega) h7 (by simp[preN]) (by have:=HN.out;omega) hr
  simp only[RCtr,ptr] at C10
  replace C10:=C10 (by unfold Sg;decide) (by decide)
  have HP:Hid (_=some r):=hP
  have B10:Hid (n10.length+5≤2*j10+0∧i<j10):=by have:=HN.out;unfold Hid;omega
  have q10:=o10b
  clear hP hr o10a o10b o10c o10d
  go_wp2_with fail
  refine C10.mono ?_
  rintro e w10 ⟨x10,F10,rfl,o10,y10,h10,s10⟩
  clear C10
  have f10:=s10.f
  have z10:Hid (∀ k,(x10:Value).ownBlock=some k→w.heap.size≤k):=fun k hk=>Nat.le_trans t7.f.size (y10 k hk).2
  have ny10:∀ k,(x10:Value).ownBlock=some k→k∉F10:=fun k hk=>(y10 k hk).1
  clear y10
  have t10:=t7.trans s10
  have hP:=HP.out
  cases hP
  obtain⟨za,zc,hx,_⟩:=own_slice o10
  have KV0:=ON.kv o10
  have LO:∀ k∈(x10).ownBlock.toList,w.heap.size≤k:=fun k hk=>z10.out k (by simpa using hk)
  subst hx
  have CL:=rnode_any h10 KV0 2 (tk ts (i+1)).text (tk ts (i+1)).frm (by have:=B10.out;have:=HTL.out;have:=q10;omega)
  go_wp2_with fail
  refine CL.mono ?_
  rintro e wz ⟨rfl,Fz,hz,fz,sz⟩
  have tz:Tr F w Fz wz:=lay_tr t10 fz sz LO
  go_wp2
  go_ret
  exact⟨rfl,Fz,hz,tz⟩
 ·have C1:=rtake_no h0 K [114,101,99] (by unfold Sg;decide) e1
  have E1:Hid (¬ nx ts (i) = [114,101,99]):=e1
  clear e1
  go_enter Tryz.func34,Tryz.ntmps34
  go_wp2_with fail
  refine C1.mono ?_
  rintro e w1 ⟨rfl,f1⟩
  clear C1
  have h1:=h0.fr f1 (by simp)
  have t1:=t0.trans (Tr.of0 f1)
  by_cases e2:nx ts (i) = [102,110]
  ·have q2:=hT.more hi (show nx ts (i)≠[] by rw[e2];decide)
   have C2:=rtake_yes h1 K [102,110] (by unfold Sg;decide) e2 q2
   have E2:Hid (nx ts (i) = [102,110]):=e2
   clear e2
   go_wp2_with fail
   refine C2.mono ?_
   rintro e w2 ⟨rfl,h2,f2⟩
   clear C2
   have s2:=Tr.of f2
   have t2:=t1.trans s2
   have h2:RS ts B rb F (i+1) ns w2:=h2
   have q2:i+1<ts.length:=q2
   have hP:=HP.out
   rw[E2.out,show declNT [102,110]=some .func from rfl] at hP
   clear HP E2
   obtain _ | f:=f
   ·simp[P] at hP
   simp only[P] at hP
   have HP:Hid (_=some r):=hP
   clear hP
   have C3:=h2.now
   unfold tokA at C3
   go_wp2_with fail
   refine C3.mono ?_
   rintro e w3 ⟨rfl,f3⟩
   clear C3
   have fl3:=fld2 ((tk ts (i+1)).kind:Nat) ((tk ts (i+1)).frm:Nat) ((tk ts (i+1)).to:Nat) ((tk ts (i+1)).n:Nat) ⟨(tk ts (i+1)).text.toArray⟩ w3
   have h3:=h2.fr f3 (by simp)
   have t3:=t2.trans (Tr.of0 f3)
   by_cases e4:nx ts (i+1)=nmB
   rotate_left
   ·have hP:=HP.out
    rw[wantR_no e4] at hP
    have C4:=rname_no h3 K e4
    cases hP
    go_wp2_with fail
    refine C4.mono ?_
    rintro e w4 ⟨rfl,hb4,f4⟩
    clear C4
    have fe4:=t3.ends f4
    go_wp2_with fail
    refine (rwant_bad hb4 [40]).mono ?_
    rintro e w5 ⟨rfl,f5⟩
    have hb5:=hb4.fr f5
    have fe5:=fe4.trans (f5.sub (by simp))
    go_wp2_with fail
    refine (rnames_bad hb5 [41]).mono ?_
    rintro e w6 ⟨rfl,f6⟩
    have hb6:=hb5.fr f6
    have fe6:=fe5.trans (f6.sub (by simp))
    go_wp2_with fail
    refine (rblock_bad hb6).mono ?_
    rintro e w7 ⟨rfl,f7⟩
    have hb7:=hb6.fr f7
    have fe7:=fe6.trans (f7.sub (by simp))
    go_wp2_with (at_builtin;refine wpList_append_own_at _ rfl _ _ 26 rfl B 3 i3 (.int .i64 0) 1 8 under35 hi3 hz hz1 hby rfl (by decide) (.slice none 0 0) 0 [] rfl (World.ownsRow_nil _ _ _ _) ⟨w7.heap.size,0,none⟩ 1 1 [.int .i64 (-1)] rfl rfl (one_new w7 _) (by simp[Value.oneCell']) (by unfold maxLen;omega) (by omega) (by have:=HBW.out;have:=fe7.size;simp;omega) ?_)
    intro v9 w9 hown9 hgrow9 hnil9 hloc9
    have f9:Fr [] w7 w9:=((Fr.refl _ _).alloc _).trans ((Fr.ofGrown hgrow9).sub (fun k hk=>by simp[Value.ownBlock] at hk))
    have hb9:=hb7.fr f9
    have fe9:=fe7.trans (f9.sub (by simp))
    obtain⟨va,vc,rfl,_⟩:=own_slice hown9
    clear hown9 hgrow9 hnil9 hloc9
    go_wp2_with fail
    refine (rnode_bad (ts:=ts) (rb:=rb) (p:=_) (by first | exact hb9 | exact hb9.fr ((Fr.refl _ _).alloc _)) _ _ _ _).mono ?_
    rintro e w8 ⟨rfl,f8⟩
    have f8:Fr [] w9 w8:=by first | exact f8 | exact ((Fr.refl [] _).alloc _).trans f8
    have hb8:=hb9.fr f8
    have fe8:=fe9.trans (f8.sub (by simp))
    go_wp2
    go_ret
    exact⟨_,rfl,hb8,fe8⟩
   have q4:=hT.more q2 (show nx ts (i+1)≠[] by rw[e4];decide)
   have hP:=HP.out
   rw[wantR_yes e4] at hP
   have HP:Hid (_=some r):=hP
   clear hP
   have C4:=rname_yes h3 K e4 q4
   clear e4
   go_wp2_with fail
   refine C4.mono ?_
   rintro e w4 ⟨rfl,h4,f4⟩
   clear C4
   have s4:=Tr.of f4
   have t4:=t3.trans s4
   have h4:RS ts B rb F (i+2) ns w4:=h4
   have q4:i+2<ts.length:=q4
   by_cases e9:nx ts (i+2) = [40]
   rotate_left
   ·have hP:=HP.out
    rw[wantR_no e9] at hP
    have C9:=rwant_no h4 K [40] (by unfold Sg;decide) e9
    cases hP
    go_wp2_with fail
    refine C9.mono ?_
    rintro e w9 ⟨rfl,hb9,f9⟩
    clear C9
    have fe9:=t4.ends f9
    go_wp2_with fail
    refine (rnames_bad hb9 [41]).mono ?_
    rintro e w10 ⟨rfl,f10⟩
    have hb10:=hb9.fr f10
    have fe10:=fe9.trans (f10.sub (by simp))
    go_wp2_with fail
    refine (rblock_bad hb10).mono ?_
    rintro e w11 ⟨rfl,f11⟩
    have hb11:=hb10.fr f11
    have fe11:=fe10.trans (f11.sub (by simp))
    go_wp2_with (at_builtin;refine wpList_append_own_at _ rfl _ _ 26 rfl B 3 i3 (.int .i64 0) 1 8 under35 hi3 hz hz1 hby rfl (by decide) (.slice none 0 0) 0 [] rfl (World.ownsRow_nil _ _ _ _) ⟨w11.heap.size,0,none⟩ 1 1 [.int .i64 (-1)] rfl rfl (one_new w11 _) (by simp[Value.oneCell']) (by unfold maxLen;omega) (by omega) (by have:=HBW.out;have:=fe11.size;simp;omega) ?_)
    intro v9 w9 hown9 hgrow9 hnil9 hloc9
    have f9:Fr [] w11 w9:=((Fr.refl _ _).alloc _).trans ((Fr.ofGrown hgrow9).sub (fun k hk=>by simp[Value.ownBlock] at hk))
    have hb9:=hb11.fr f9
    have fe9:=fe11.trans (f9.sub (by simp))
    obtain⟨va,vc,rfl,_⟩:=own_slice hown9
    clear hown9 hgrow9 hnil9 hloc9
    go_wp2_with fail
    refine (rnode_bad (ts:=ts) (rb:=rb) (p:=_) (by first | exact hb9 | exact hb9.fr ((Fr.refl _ _).alloc _)) _ _ _ _).mono ?_
    rintro e w12 ⟨rfl,f12⟩
    have f12:Fr [] w9 w12:=by first | exact f12 | exact ((Fr.refl [] _).alloc _).trans f12
    have hb12:=hb9.fr f12
    have fe12:=fe9.trans (f12.sub (by simp))
    go_wp2
    go_ret
    exact⟨_,rfl,hb12,fe12⟩
   have q9:=hT.more q4 (show nx ts (i+2)≠[] by rw[e9];decide)
   have hP:=HP.out
   rw[wantR_yes e9] at hP
   have HP:Hid (_=some r):=hP
   clear hP
   have C9:=rwant_yes h4 K [40] (by unfold Sg;decide) e9 q9
   clear e9
   go_wp2_with fail
   refine C9.mono ?_
   rintro e w9 ⟨rfl,h9,f9⟩
   clear C9
   have s9:=Tr.of f9
   have t9:=t4.trans s9
   have h9:RS ts B rb F (i+3) ns w9:=h9
   have q9:i+3<ts.length:=q9
   rcases bindR_some HP.out with ⟨er,hr,he⟩ | ⟨v13,j13,n13,hr,hP⟩
   ·subst he
    have C13:=H f (.listed false [41]) _ _ w9 _ _ (by omega) h9 (by simp[preN]) (by have:=HN.out;omega) hr
    simp only[RCtr,ptr] at C13
    replace C13:=C13 (by unfold Sg;decide) (by decide)
    go_wp2_with fail
    refine C13.mono ?_
    rintro e w13 ⟨rfl,hb13,f13⟩
    clear C13
    have fe13:=t9.ends f13
    go_wp2_with fail
    refine (rblock_bad hb13).mono ?_
    rintro e w14 ⟨rfl,f14⟩
    have hb14:=hb13.fr f14
    have fe14:=fe13.trans (f14.sub (by simp))
    go_wp2_with (at_builtin;refine wpList_append_own_at _ rfl _ _ 26 rfl B 3 i3 (.int .i64 0) 1 8 under35 hi3 hz hz1 hby rfl (by decide) (.slice none 0 0) 0 [] rfl (World.ownsRow_nil _ _ _ _) ⟨w14.heap.size,0,none⟩ 1 1 [.int .i64 (-1)] rfl rfl (one_new w14 _) (by simp[Value.oneCell']) (by unfold maxLen;omega) (by omega) (by have:=HBW.out;have:=fe14.size;simp;omega) ?_)
    intro v9 w9 hown9 hgrow9 hnil9 hloc9
    have f9:Fr [] w14 w9:=((Fr.refl _ _).alloc _).trans ((Fr.ofGrown hgrow9).sub (fun k hk=>by simp[Value.ownBlock] at hk))
    have hb9:=hb14.fr f9
    have fe9:=fe14.trans (f9.sub (by simp))
    obtain⟨va,vc,rfl,_⟩:=own_slice hown9
    clear hown9 hgrow9 hnil9 hloc9
    go_wp2_with fail
    refine (rnode_bad (ts:=ts) (rb:=rb) (p:=_) (by first | exact hb9 | exact hb9.fr ((Fr.refl _ _).alloc _)) _ _ _ _).mono ?_
    rintro e w15 ⟨rfl,f15⟩
    have f15:Fr [] w9 w15:=by first | exact f15 | exact ((Fr.refl [] _).alloc _).trans f15
    have hb15:=hb9.fr f15
    have fe15:=fe9.trans (f15.sub (by simp))
    go_wp2
    go_ret
    exact⟨_,rfl,hb15,fe15⟩
   obtain⟨o13a,o13b,o13c,o13d,_⟩:=run_ok hT (nt:=.listed false [41]) (ns:=ns) h9.ti (by simp[preN]) hr
   simp only[consN,slack] at o13a o13d
   have C13:=H f (.listed false [41]) _ _ w9 _ _ (by omega) h9 (by simp[preN]) (by have:=HN.out;omega) hr
   simp only[RCtr,ptr] at C13
   replace C13:=C13 (by unfold Sg;decide) (by decide)
   have HP:Hid (_=some r):=hP
   have B13:Hid (n13.length+5≤2*j13+0∧i<j13):=by have:=HN.out;unfold Hid;omega
   have q13:=o13b
   have LN13:Hid (v13.length≤j13∧j13<ts.length):=⟨listed_len hT false [41] (by decide) h9.ti hr,o13b⟩
   clear hP hr o13a o13b o13c o13d
   go_wp2_with fail
   refine C13.mono ?_
   rintro e w13 ⟨x13,F13,rfl,o13,y13,h13,s13⟩
   clear C13
   have f13:=s13.f
   have z13:Hid (∀ k,(x13:Value).ownBlock=some k→w.heap.size≤k):=fun k hk=>Nat.le_trans t9.f.size (y13 k hk).2
   have ny13:∀ k,(x13:Value).ownBlock=some k→k∉F13:=fun k hk=>(y13 k hk).1
   clear y13
   have t13:=t9.trans s13
   rcases bindR_some HP.out with ⟨er,hr,he⟩ | ⟨v16,j16,n16,hr,hP⟩
   ·subst he
    have C16:=H f (.block 0) _ _ w13 _ _ (by omega) h13 trivial (by have:=B13.out;omega) hr
    simp only[RCtr,ptr] at C16
    go_wp2_with fail
    refine C16.mono ?_
    rintro e w16 ⟨x16,rfl,hb16,f16⟩
    clear C16
    have fe16:=t13.ends f16
    have ob9:=own_fr o13 f16 (fun k hk=>ny13 k hk)
    obtain⟨za,zc,hx,_⟩:=own_slice ob9
    subst hx
    have HW9:Hid (B≤w16.heap.size):=by have:=HBW.out;have:=fe16.size;unfold Hid;omega
    go_wp2_with (at_builtin;refine wpList_append_own_at _ rfl _ _ 26 rfl B 3 i3 (.int .i64 0) 1 8 under35 hi3 hz hz1 hby rfl (by decide) (.slice za v13.length zc) v13.length (v13.map (fun k=>Value.int .i64 (k:Nat))) rfl (ob9.alloc _) ⟨w16.heap.size,0,none⟩ 1 1 [.int .i64 x16] rfl rfl (one_new w16 _) (by simp[Value.oneCell']) (by have:=LN13.out;have:=HTL.out;unfold maxLen;omega) (by have:=LN13.out;have:=HTL.out;omega) (by have:=HW9.out;simp;omega) ?_)
    intro v9 w9 hown9 hgrow9 hnil9 hloc9
    have f9:Fr (Value.slice za v13.length zc).ownBlock.toList w16 w9:=((Fr.refl _ _).alloc _).trans ((Fr.ofGrown hgrow9).sub (fun k hk=>.inl hk))
    have hb9:=hb16.fr_row ob9 f9
    have fe9:Fr F w w9:=(Tr.of fe16).ends_row f9 (fun k hk=>z13.out k (by simpa using hk))
    obtain⟨va,vc,rfl,_⟩:=own_slice hown9
    clear hown9 hgrow9 hnil9 hloc9
    go_wp2_with fail
    refine (rnode_bad (ts:=ts) (rb:=rb) (p:=_) (by first | exact hb9 | exact hb9.fr ((Fr.refl _ _).alloc _)) _ _ _ _).mono ?_
    rintro e w17 ⟨rfl,f17⟩
    have f17:Fr [] w9 w17:=by first | exact f17 | exact ((Fr.refl [] _).alloc _).trans f17
    have hb17:=hb9.fr f17
    have fe17:=fe9.trans (f17.sub (by simp))
    go_wp2
    go_ret
    exact⟨_,rfl,hb17,fe17⟩
   obtain⟨o16a,o16b,o16c,o16d,o16e⟩:=run_ok hT (nt:=.block 0) (ns:=n13) h13.ti trivial hr
   simp only[consN,slack] at o16a o16d
   obtain⟨m16,rfl,hm16⟩:=o16e rfl
   have C16:=H f (.block 0) _ _ w13 _ _ (by omega) h13 trivial (by have:=B13.out;omega) hr
   simp only[RCtr,ptr] at C16
   have HP:Hid (_=some r):=hP
   have B16:Hid (n16.length+5≤2*j16+0∧i<j16∧m16<n16.length):=by have:=B13.out;unfold Hid;omega
   have q16:=o16b
   clear hP hr o16a o16b o16c o16d o16e hm16
   go_wp2_with fail
   refine C16.mono ?_
   rintro e w16 ⟨he,F16,h16,s16⟩
   obtain rfl:e = .returned (.int .i64 (m16:Nat)):=he
   clear C16
   have f16:=s16.f
   have t16:=t13.trans s16
   have o0_16:=own_fr o13 f16 (fun k hk=>ny13 k hk)
   have oi0_16:∀ k,(x13).ownBlock=some k→k∉F16:=fun k hk=>Tr.notin s16 (ny13 k hk) (o13.lt k hk).2
   obtain⟨za,zc,hx,_⟩:=own_slice o0_16
   subst hx
   have HW9:Hid (B≤w16.heap.size):=by have:=HBW.out;have:=t16.f.size;unfold Hid;omega
   go_wp2_with (at_builtin;refine wpList_append_own_at _ rfl _ _ 26 rfl B 3 i3 (.int .i64 0) 1 8 under35 hi3 hz hz1 hby rfl (by decide) (.slice za v13.length zc) v13.length (v13.map (fun k=>Value.int .i64 (k:Nat))) rfl (o0_16.alloc _) ⟨w16.heap.size,0,none⟩ 1 1 [.int .i64 (m16:Nat)] rfl rfl (one_new w16 _) (by simp[Value.oneCell']) (by have:=LN13.out;have:=HTL.out;unfold maxLen;omega) (by have:=LN13.out;have:=HTL.out;omega) (by have:=HW9.out;simp;omega) ?_)
   intro v9 w9 hown9 hgrow9 hnil9 hloc9
   have f9:Fr (Value.slice za v13.length zc).ownBlock.toList w16 w9:=((Fr.refl _ _).alloc _).trans ((Fr.ofGrown hgrow9).sub (fun k hk=>.inl hk))
   have kr9:KR B w F16 w16 (.slice za v13.length zc) v13:=⟨o0_16,oi0_16,fun k hk=>z13.out k hk⟩
   have h9:=h16.fr f9 (fun k hk=>kr9.ni k (by simpa using hk))
   have k9:=kr9.snoc t16.f.size (fun j hj=>(h16.fb j hj).2) hown9 (by simpa using hloc9)
   have t9:Tr F w F16 w9:=row_tr t16 f9 (fun k hk=>kr9.lo k (by simpa using hk))
   have o9:=k9.on
   have ny9:=k9.ni
   have z9:Hid (∀ k,v9.ownBlock=some k→w.heap.size≤k):=k9.lo
   clear hown9 hgrow9 hnil9 hloc9 kr9 k9
   obtain⟨va,vc,hv9,_⟩:=own_slice o9
   simp only[List.length_append,List.length_cons,List.length_nil,Nat.zero_add] at hv9
   subst hv9
   have hP:=HP.out
   cases hP
   have KV0:=ON.kv o9
   have LO:∀ k∈(Value.slice va (v13.length+1) vc).ownBlock.toList,w.heap.size≤k:=fun k hk=>z9.out k (by simpa using hk)
   have CL:=rnode_any h9 KV0 3 (tk ts (i+1)).text (tk ts (i+1)).frm (by have:=B16.out;have:=HTL.out;have:=q16;omega)
   go_wp2_with fail
   refine CL.mono ?_
   rintro e wz ⟨rfl,Fz,hz,fz,sz⟩
   have tz:Tr F w Fz wz:=lay_tr t9 fz sz LO
   go_wp2
   go_ret
   exact⟨rfl,Fz,hz,tz⟩
  ·have C2:=rtake_no h1 K [102,110] (by unfold Sg;decide) e2
   have E2:Hid (¬ nx ts (i) = [102,110]):=e2
   clear e2
   go_wp2_with fail
   refine C2.mono ?_
   rintro e w2 ⟨rfl,f2⟩
   clear C2
   have h2:=h1.fr f2 (by simp)
   have t2:=t1.trans (Tr.of0 f2)
   have hP:=HP.out
   rw[show declNT (nx ts i)=none by unfold declNT;rw[if_neg E1.out,if_neg E2.out]] at hP
   cases hP
   have CF:=h2.fail
   go_wp2_with fail
   refine CF.mono ?_
   rintro e wz ⟨rfl,hbz,fz⟩
   go_wp2
   go_ret
   exact⟨_,rfl,hbz,t2.ends fz⟩
set_option maxHeartbeats 2000000 in
theorem r_expr {ts:List Tok} {B rb:Nat} (hT:Toks ts) (K:KT ts) {f i:Nat} {ns:List PN} {w:World} {F:List Nat} {r:Except Nat (List Nat×Nat×List PN)} (H:RHyp ts B rb f) (h0:RS ts B rb F i ns w) (hp:preN ts i ns (.expr)) (hn:ns.length≤2*i+1) (hP:P ts (f+1) (.expr) i ns=some r) : RCtr ts B rb F w r (.expr):=by
 have hi:=h0.ti
 have HTL:Hid (ts.length≤200001):=h0.tl
 simp only[P] at hP
 have HP:Hid (_=some r):=hP
 clear hP
 simp only[RCtr,ptr]
 have t0:=Tr.refl F w
 have HN:Hid (ns.length≤2*i+1):=hn
 clear hn
 rcases bindR_some HP.out with ⟨er,hr,he⟩ | ⟨v1,j1,n1,hr,hP⟩
 ·subst he
  have C1:=H f (.chain 2) _ _ w _ _ (Nat.le_refl _) h0 (by simp[preN]) (by have:=HN.out;omega) hr
  simp only[RCtr,ptr] at C1
  replace C1:=C1 1 rfl (by decide)
  go_enter Tryz.func141,Tryz.ntmps141
  go_wp2_with fail
  refine C1.mono ?_
  rintro e w1 ⟨x1,rfl,hb1,f1⟩
  clear C1
  have fe1:=t0.ends f1
  have CB2:=hb1.now
  unfold tokA at CB2
  go_wp2_with fail
  refine CB2.mono ?_
  rintro e w2 ⟨⟨tt2,rfl⟩,f2⟩
  obtain⟨tk2,tx2,tf2,to2,tn2⟩:=tt2
  clear CB2
  have f2:Fr [] w1 (w2.alloc (.cells #[.int .i64 (tk2:Nat),.string ⟨tx2.toArray⟩,.int .i64 (tf2:Nat),.int .i64 (to2:Nat),.int .i64 (tn2:Nat)] 82)):=f2.alloc _
  have hb2:=hb1.fr f2
  have fe2:=fe1.trans (f2.sub (by simp))
  have c3_3:=hb2.cells
  go_wp2
  go_ret
  exact⟨_,rfl,hb2,fe2⟩
 obtain⟨o1a,o1b,o1c,o1d,o1e⟩:=run_ok hT (nt:=.chain 2) (ns:=ns) h0.ti (by simp[preN]) hr
 simp only[consN,slack] at o1a o1d
 obtain⟨m1,rfl,hm1⟩:=o1e rfl
 have C1:=H f (.chain 2) _ _ w _ _ (Nat.le_refl _) h0 (by simp[preN]) (by have:=HN.out;omega) hr
 simp only[RCtr,ptr] at C1
 replace C1:=C1 1 rfl (by decide)
 have HP:Hid (_=some r):=hP
 have B1:Hid (n1.length+0≤2*j1+1∧i<j1∧m1<n1.length):=by have:=HN.out;unfold Hid;omega
 have q1:=o1b
 clear hP hr o1a o1b o1c o1d o1e hm1
 go_enter Tryz.func141,Tryz.ntmps141
 go_wp2_with fail
 refine C1.mono ?_
 rintro e w1 ⟨he,F1,h1,s1⟩
 obtain rfl:e = .returned (.int .i64 (m1:Nat)):=he
 clear C1
 have f1:=s1.f
 have t1:=t0.trans s1
 have C4:=h1.now
 unfold tokA at C4
 go_wp2_with fail
 refine C4.mono ?_
 rintro e w4 ⟨rfl,f4⟩
 clear C4
 have h4:=h1.fr f4 (by simp)
 have t4:=t1.trans (Tr.of0 f4)
 have g5:Fr [] w4 (w4.alloc (.cells #[.int .i64 ((tk ts (j1)).kind:Nat),.string ⟨(tk ts (j1)).text.toArray⟩,.int .i64 ((tk ts (j1)).frm:Nat),.int .i64 ((tk ts (j1)).to:Nat),.int .i64 ((tk ts (j1)).n:Nat)] 82)):=(Fr.refl _ _).alloc _
 have v5:=TB.new w4 (.int .i64 ((tk ts (j1)).kind:Nat)) (.string ⟨(tk ts (j1)).text.toArray⟩) (.int .i64 ((tk ts (j1)).frm:Nat)) (.int .i64 ((tk ts (j1)).to:Nat)) (.int .i64 ((tk ts (j1)).n:Nat))
 have ni5:w4.heap.size∉F1:=fun hm=>by have:=(h4.fb _ hm).2;omega
 have h5:=h4.fr g5 (by simp)
 have t5:=t4.trans (Tr.of0 g5)
 by_cases L:lineL (nx ts (j1))=1
 ·have hP:=HP.out
  rw[if_pos L] at hP
  obtain⟨k3,kt⟩:=K.line q1 (show lineL (nx ts (j1))≠0 by rw[L];decide)
  have HNE:Hid (nx ts (j1)≠[]):=fun e=>by rw[e] at L;simp[lineL] at L
  have hk:((((tk ts (j1)).kind:Nat) : Int) != 3)=false:=by simp;omega
  have CC:=fun w=>rcompares_any (tk ts (j1)).text w
  have ec:cmpS (tk ts (j1)).text=true:=by rw[cmpS_line,← kt,L];rfl
  rw[ec] at CC
  clear L ec k3 kt
  obtain _ | f:=f
  ·simp[P] at hP
  simp only[P,hd,List.getD_cons_zero] at hP
  have HP:Hid (_=some r):=hP
  clear hP
  have a0_0:=v5.c0
  have a0_1:=v5.c1
  have a0_2:=v5.c2
  have a0_3:=v5.c3
  have a0_4:=v5.c4
  have q6:=hT.more q1 HNE.out
  obtain⟨_,c1_6,_,c3_6,cz_6⟩:=h5.cells
  have z1_6:=cz_6 1
  clear cz_6
  have hbi6:(j1:Int)+1≤200001:=by have:=HTL.out;omega
  have h6:=h5.step q6
  have ei6:((j1+1:Nat) : Int)=(j1:Int)+1:=by omega
  rw[ei6] at h6
  clear ei6
  have g6:Fr [rb] (w4.alloc (.cells #[.int .i64 ((tk ts (j1)).kind:Nat),.string ⟨(tk ts (j1)).text.toArray⟩,.int .i64 ((tk ts (j1)).frm:Nat),.int .i64 ((tk ts (j1)).to:Nat),.int .i64 ((tk ts (j1)).n:Nat)] 82)) ((w4.alloc (.cells #[.int .i64 ((tk ts (j1)).kind:Nat),.string ⟨(tk ts (j1)).text.toArray⟩,.int .i64 ((tk ts (j1)).frm:Nat),.int .i64 ((tk ts (j1)).to:Nat),.int .i64 ((tk ts (j1)).n:Nat)] 82)).setCell ⟨rb,1,none⟩ (.int .i64 ((j1:Int)+1))):=Fr.setCell (Fr.refl _ _) (.inl (by simp)) _
  have f6:Fr F1 (w4.alloc (.cells #[.int .i64 ((tk ts (j1)).kind:Nat),.string ⟨(tk ts (j1)).text.toArray⟩,.int .i64 ((tk ts (j1)).frm:Nat),.int .i64 ((tk ts (j1)).to:Nat),.int .i64 ((tk ts (j1)).n:Nat)] 82)) ((w4.alloc (.cells #[.int .i64 ((tk ts (j1)).kind:Nat),.string ⟨(tk ts (j1)).text.toArray⟩,.int .i64 ((tk ts (j1)).frm:Nat),.int .i64 ((tk ts (j1)).to:Nat),.int .i64 ((tk ts (j1)).n:Nat)] 82)).setCell ⟨rb,1,none⟩ (.int .i64 ((j1:Int)+1))):=g6.sub (fun k hk=>.inl (by simp at hk;subst hk;exact h5.pf))
  have s6:=Tr.of f6
  have t6:=t5.trans s6
  have u0_6:=v5.fr f6 ni5
  have ni0_6:=Tr.notin s6 ni5 v5.lt
  go_wp2_with fail
  refine (CC _).mono ?_
  rintro e w' ⟨rfl,rfl⟩
  rcases bindR_some HP.out with ⟨er,hr,he⟩ | ⟨v7,j7,n7,hr,hP⟩
  ·subst he
   have C7:=H f (.chain 2) _ _ ((w4.alloc (.cells #[.int .i64 ((tk ts (j1)).kind:Nat),.string ⟨(tk ts (j1)).text.toArray⟩,.int .i64 ((tk ts (j1)).frm:Nat),.int .i64 ((tk ts (j1)).to:Nat),.int .i64 ((tk ts (j1)).n:Nat)] 82)).setCell ⟨rb,1,none⟩ (.int .i64 ((j1:Int)+1))) _ _ (by omega) h6 (by simp[preN]) (by have:=B1.out;omega) hr
   simp only[RCtr,ptr] at C7
   replace C7:=C7 1 rfl (by decide)
   go_wp2_with fail
   refine C7.mono ?_
   rintro e w7 ⟨x7,rfl,hb7,f7⟩
   clear C7
   have fe7:=t6.ends f7
   have bu0_7:=u0_6.fr f7 ni0_6
   have bcp0_7:=bu0_7.c1
   have bcq0_7:=bu0_7.c2
   go_wp2_with fail
   refine (rnode_bad (ts:=ts) (rb:=rb) (p:=_) (by first | exact hb7 | exact hb7.fr ((Fr.refl _ _).alloc _)) _ _ _ _).mono ?_
   rintro e w8 ⟨rfl,f8⟩
   have f8:Fr [] w7 w8:=by first | exact f8 | exact ((Fr.refl [] _).alloc _).trans f8
   have hb8:=hb7.fr f8
   have fe8:=fe7.trans (f8.sub (by simp))
   have bu0_8:=bu0_7.fr f8 (by simp)
   have bcp0_8:=bu0_8.c1
   have bcq0_8:=bu0_8.c2
   go_wp2
   go_ret
   exact⟨_,rfl,hb8,fe8⟩
  obtain⟨o7a,o7b,o7c,o7d,o7e⟩:=run_ok hT (nt:=.chain 2) (ns:=n1) h6.ti (by simp[preN]) hr
  simp only[consN,slack] at o7a o7d
  obtain⟨m7,rfl,hm7⟩:=o7e rfl
  have C7:=H f (.chain 2) _ _ ((w4.alloc (.cells #[.int .i64 ((tk ts (j1)).kind:Nat),.string ⟨(tk ts (j1)).text.toArray⟩,.int .i64 ((tk ts (j1)).frm:Nat),.int .i64 ((tk ts (j1)).to:Nat),.int .i64 ((tk ts (j1)).n:Nat)] 82)).setCell ⟨rb,1,none⟩ (.int .i64 ((j1:Int)+1))) _ _ (by omega) h6 (by simp[preN]) (by have:=B1.out;omega) hr
  simp only[RCtr,ptr] at C7
  replace C7:=C7 1 rfl (by decide)
  have HP:Hid (_=some r):=hP
  have B7:Hid (n7.length+1≤2*j7+0∧i<j7∧m7<n7.length):=by have:=B1.out;unfold Hid;omega
  have q7:=o7b
  clear hP hr o7a o7b o7c o7d o7e hm7
  go_wp2_with fail
  refine C7.mono ?_
  rintro e w7 ⟨he,F7,h7,s7⟩
  obtain rfl:e = .returned (.int .i64 (m7:Nat)):=he
  clear C7
  have f7:=s7.f
  have t7:=t6.trans s7
  have u0_7:=u0_6.fr f7 ni0_6
  have ni0_7:=Tr.notin s7 ni0_6 u0_6.lt
  have hP:=HP.out
  cases hP
  have a0_0:=u0_7.c0
  have a0_1:=u0_7.c1
  have a0_2:=u0_7.c2
  have a0_3:=u0_7.c3
  have a0_4:=u0_7.c4
  have gb:Fr [] w7 (w7.alloc (.cells #[.int .i64 (m1:Nat),.int .i64 (m7:Nat)] 3)):=(Fr.refl _ _).alloc _
  have ob:ON (w7.alloc (.cells #[.int .i64 (m1:Nat),.int .i64 (m7:Nat)] 3)) B (.slice (some ⟨w7.heap.size,0,none⟩) 2 2) [m1,m7]:=ON.built w7 B (by have:=h7.fb rb h7.pf;omega) [m1,m7] (by simp)
  have KV0:=ON.kv ob
  have LO:∀ k∈(Value.slice (some ⟨w7.heap.size,0,none⟩) 2 2).ownBlock.toList,w.heap.size≤k:=fun k hk=>by rw[own_mem hk];exact t7.f.size
  have hbb:=h7.fr gb (by simp)
  have tbb:=t7.trans (Tr.of0 gb)
  have CL:=rnode_any hbb KV0 19 (tk ts (j1)).text (tk ts (j1)).frm (by have:=B7.out;have:=HTL.out;have:=q7;omega)
  go_wp2_with fail
  refine CL.mono ?_
  rintro e wz ⟨rfl,Fz,hz,fz,sz⟩
  have tz:Tr F w Fz wz:=lay_tr tbb fz sz LO
  go_wp2
  go_ret
  exact⟨rfl,Fz,hz,tz⟩
 ·have hP:=HP.out
  rw[if_neg L] at hP
  cases hP
  have a0_0:=v5.c0
  have a0_1:=v5.c1
  have a0_2:=v5.c2
  have a0_3:=v5.c3
  have a0_4:=v5.c4
  obtain⟨_,_,_,c3,_⟩:=h5.cells
  by_cases k3:(tk ts (j1)).kind=3
  ·have kt:nx ts (j1)=(tk ts (j1)).text:=by unfold nx nxT;simp[k3]
   have hk:((((tk ts (j1)).kind:Nat) : Int) != 3)=false:=by simp;omega
   have CC:=fun w=>rcompares_any (tk ts (j1)).text w
   have ec:cmpS (tk ts (j1)).text=false:=by rw[cmpS_line,← kt];exact decide_eq_false L
   rw[ec] at CC
   clear L ec k3 kt
   go_wp2_with fail
   refine (CC _).mono ?_
   rintro e w' ⟨rfl,rfl⟩
   go_wp2
   go_ret
   exact⟨rfl,_,h5,t5⟩
  ·have hk:((((tk ts (j1)).kind:Nat) : Int) != 3)=true:=by simp;omega
   clear L k3
   go_wp2
   go_ret
   exact⟨rfl,_,h5,t5⟩
set_option maxHeartbeats 2000000 in
theorem r_valued {ts:List Tok} {B rb:Nat} (hT:Toks ts) (K:KT ts) {f i kind pl:Nat} {ns:List PN} {w:World} {F:List Nat} {r:Except Nat (List Nat×Nat×List PN)} (H:RHyp ts B rb f) (h0:RS ts B rb F i ns w) (hn:ns.length≤2*i+1) (hP:bindR (P ts f .expr i ns) (fun v j ns=>wantR ts [59] j <| layR kind [] pl [hd v] (j+1) ns)=some r) : Calls Tryz.prog 142 #[.pointer (some ⟨rb,0,none⟩),.int .i64 (kind:Nat),.int .i64 (pl:Nat)] w (RPost ts B rb F w r):=by
 have hi:=h0.ti
 have HTL:Hid (ts.length≤200001):=h0.tl
 have t0:=Tr.refl F w
 have HP:Hid (_=some r):=hP
 clear hP
 have HN:Hid (ns.length≤2*i+1):=hn
 clear hn
 rcases bindR_some HP.out with ⟨er,hr,he⟩ | ⟨v1,j1,n1,hr,hP⟩
 ·subst he
  have C1:=H f (.expr) _ _ w _ _ (Nat.le_refl _) h0 trivial (by have:=HN.out;omega) hr
  simp only[RCtr,ptr] at C1
  go_enter Tryz.func142,Tryz.ntmps142
  go_wp2_with fail
  refine C1.mono ?_
  rintro e w1 ⟨x1,rfl,hb1,f1⟩
  clear C1
  have fe1:=t0.ends f1
  go_wp2_with fail
  refine (rwant_bad hb1 [59]).mono ?_
  rintro e w2 ⟨rfl,f2⟩
  have hb2:=hb1.fr f2
  have fe2:=fe1.trans (f2.sub (by simp))
  go_wp2_with fail
  refine (rnode_bad (ts:=ts) (rb:=rb) (p:=_) (by first | exact hb2 | exact hb2.fr ((Fr.refl _ _).alloc _)) _ _ _ _).mono ?_
  rintro e w3 ⟨rfl,f3⟩
  have f3:Fr [] w2 w3:=by first | exact f3 | exact ((Fr.refl [] _).alloc _).trans f3
  have hb3:=hb2.fr f3
  have fe3:=fe2.trans (f3.sub (by simp))
  go_wp2
  go_ret
  exact⟨_,rfl,hb3,fe3⟩
 obtain⟨o1a,o1b,o1c,o1d,o1e⟩:=run_ok hT (nt:=.expr) (ns:=ns) h0.ti trivial hr
 simp only[consN,slack] at o1a o1d
 obtain⟨m1,rfl,hm1⟩:=o1e rfl
 have C1:=H f (.expr) _ _ w _ _ (Nat.le_refl _) h0 trivial (by have:=HN.out;omega) hr
 simp only[RCtr,ptr] at C1
 have HP:Hid (_=some r):=hP
 have B1:Hid (n1.length+0≤2*j1+1∧i<j1∧m1<n1.length):=by have:=HN.out;unfold Hid;omega
 have q1:=o1b
 clear hP hr o1a o1b o1c o1d o1e hm1
 go_enter Tryz.func142,Tryz.ntmps142
 go_wp2_with fail
 refine C1.mono ?_
 rintro e w1 ⟨he,F1,h1,s1⟩
 obtain rfl:e = .returned (.int .i64 (m1:Nat)):=he
 clear C1
 have f1:=s1.f
 have t1:=t0.trans s1
 by_cases e4:nx ts (j1) = [59]
 rotate_left
 ·have hP:=HP.out
  rw[wantR_no e4] at hP
  have C4:=rwant_no h1 K [59] (by unfold Sg;decide) e4
  cases hP
  go_wp2_with fail
  refine C4.mono ?_
  rintro e w4 ⟨rfl,hb4,f4⟩
  clear C4
  have fe4:=t1.ends f4
  go_wp2_with fail
  refine (rnode_bad (ts:=ts) (rb:=rb) (p:=_) (by first | exact hb4 | exact hb4.fr ((Fr.refl _ _).alloc _)) _ _ _ _).mono ?_
  rintro e w5 ⟨rfl,f5⟩
  have f5:Fr [] w4 w5:=by first | exact f5 | exact ((Fr.refl [] _).alloc _).trans f5
  have hb5:=hb4.fr f5
  have fe5:=fe4.trans (f5.sub (by simp))
  go_wp2
  go_ret
  exact⟨_,rfl,hb5,fe5⟩
 have q4:=hT.more q1 (show nx ts (j1)≠[] by rw[e4];decide)
 have hP:=HP.out
 rw[wantR_yes e4] at hP
 have HP:Hid (_=some r):=hP
 clear hP
 have C4:=rwant_yes h1 K [59] (by unfold Sg;decide) e4 q4
 clear e4
 go_wp2_with fail
 refine C4.mono ?_
 rintro e w4 ⟨rfl,h4,f4⟩
 clear C4
 have s4:=Tr.of f4
 have t4:=t1.trans s4
 have h4:RS ts B rb F1 (j1+1) n1 w4:=h4
 have q4:j1+1<ts.length:=q4
 have hP:=HP.out
 cases hP
 have gb:Fr [] w4 (w4.alloc (.cells #[.int .i64 (m1:Nat)] 3)):=(Fr.refl _ _).alloc _
 have ob:ON (w4.alloc (.cells #[.int .i64 (m1:Nat)] 3)) B (.slice (some ⟨w4.heap.size,0,none⟩) 1 1) [m1]:=ON.built w4 B (by have:=h4.fb rb h4.pf;omega) [m1] (by simp)
 have KV0:=ON.kv ob
 have LO:∀ k∈(Value.slice (some ⟨w4.heap.size,0,none⟩) 1 1).ownBlock.toList,w.heap.size≤k:=fun k hk=>by rw[own_mem hk];exact t4.f.size
 have hbb:=h4.fr gb (by simp)
 have tbb:=t4.trans (Tr.of0 gb)
 have CL:=rnode_any hbb KV0 kind [] pl (by have:=B1.out;have:=HTL.out;have:=q4;omega)
 go_wp2_with fail
 refine CL.mono ?_
 rintro e wz ⟨rfl,Fz,hz,fz,sz⟩
 have tz:Tr F w Fz wz:=lay_tr tbb fz sz LO
 go_wp2
 go_ret
 exact⟨rfl,Fz,hz,tz⟩
set_option maxHeartbeats 2000000 in
theorem r_inside {ts:List Tok} {B rb:Nat} (hT:Toks ts) (K:KT ts) {f i kind pl:Nat} {ns:List PN} {w:World} {F:List Nat} {r:Except Nat (List Nat×Nat×List PN)} (H:RHyp ts B rb f) (h0:RS ts B rb F i ns w) (hn:ns.length≤2*i+1) (hP:wantR ts [40] i (bindR (P ts f .expr (i+1) ns) (fun v j ns=>wantR ts [41] j <| layR kind [] pl [hd v] (j+1) ns))=some r) : Calls Tryz.prog 218 #[.pointer (some ⟨rb,0,none⟩),.int .i64 (kind:Nat),.int .i64 (pl:Nat)] w (RPost ts B rb F w r):=by
 have hi:=h0.ti
 have HTL:Hid (ts.length≤200001):=h0.tl
 have t0:=Tr.refl F w
 have HP:Hid (_=some r):=hP
 clear hP
 have HN:Hid (ns.length≤2*i+1):=hn
 clear hn
 by_cases e1:nx ts (i) = [40]
 rotate_left
 ·have hP:=HP.out
  rw[wantR_no e1] at hP
  have C1:=rwant_no h0 K [40] (by unfold Sg;decide) e1
  cases hP
  go_enter Tryz.func218,Tryz.ntmps218
  go_wp2_with fail
  refine C1.mono ?_
  rintro e w1 ⟨rfl,hb1,f1⟩
  clear C1
  have fe1:=t0.ends f1
  go_wp2_with fail
  refine (rexpr_bad hb1).mono ?_
  rintro e w2 ⟨rfl,f2⟩
  have hb2:=hb1.fr f2
  have fe2:=fe1.trans (f2.sub (by simp))
  go_wp2_with fail
  refine (rwant_bad hb2 [41]).mono ?_
  rintro e w3 ⟨rfl,f3⟩
  have hb3:=hb2.fr f3
  have fe3:=fe2.trans (f3.sub (by simp))
  go_wp2_with fail
  refine (rnode_bad (ts:=ts) (rb:=rb) (p:=_) (by first | exact hb3 | exact hb3.fr ((Fr.refl _ _).alloc _)) _ _ _ _).mono ?_
  rintro e w4 ⟨rfl,f4⟩
  have f4:Fr [] w3 w4:=by first | exact f4 | exact ((Fr.refl [] _).alloc _).trans f4
  have hb4:=hb3.fr f4
  have fe4:=fe3.trans (f4.sub (by simp))
  go_wp2
  go_ret
  exact⟨_,rfl,hb4,fe4⟩
 have q1:=hT.more hi (show nx ts (i)≠[] by rw[e1];decide)
 have hP:=HP.out
 rw[wantR_yes e1] at hP
 have HP:Hid (_=some r):=hP
 clear hP
 have C1:=rwant_yes h0 K [40] (by unfold Sg;decide) e1 q1
 clear e1
 go_enter Tryz.func218,Tryz.ntmps218
 go_wp2_with fail
 refine C1.mono ?_
 rintro e w1 ⟨rfl,h1,f1⟩
 clear C1
 have s1:=Tr.of f1
 have t1:=t0.trans s1
 have h1:RS ts B rb F (i+1) ns w1:=h1
 have q1:i+1<ts.length:=q1
 rcases bindR_some HP.out with ⟨er,hr,he⟩ | ⟨v5,j5,n5,hr,hP⟩
 ·subst he
  have C5:=H f (.expr) _ _ w1 _ _ (Nat.le_refl _) h1 trivial (by have:=HN.out;omega) hr
  simp only[RCtr,ptr] at C5
  go_wp2_with fail
  refine C5.mono ?_
  rintro e w5 ⟨x5,rfl,hb5,f5⟩
  clear C5
  have fe5:=t1.ends f5
  go_wp2_with fail
  refine (rwant_bad hb5 [41]).mono ?_
  rintro e w6 ⟨rfl,f6⟩
  have hb6:=hb5.fr f6
  have fe6:=fe5.trans (f6.sub (by simp))
  go_wp2_with fail
  refine (rnode_bad (ts:=ts) (rb:=rb) (p:=_) (by first | exact hb6 | exact hb6.fr ((Fr.refl _ _).alloc _)) _ _ _ _).mono ?_
  rintro e w7 ⟨rfl,f7⟩
  have f7:Fr [] w6 w7:=by first | exact f7 | exact ((Fr.refl [] _).alloc _).trans f7
  have hb7:=hb6.fr f7
  have fe7:=fe6.trans (f7.sub (by simp))
  go_wp2
  go_ret
  exact⟨_,rfl,hb7,fe7⟩
 obtain⟨o5a,o5b,o5c,o5d,o5e⟩:=run_ok hT (nt:=.expr) (ns:=ns) h1.ti trivial hr
 simp only[consN,slack] at o5a o5d
 obtain⟨m5,rfl,hm5⟩:=o5e rfl
 have C5:=H f (.expr) _ _ w1 _ _ (Nat.le_refl _) h1 trivial (by have:=HN.out;omega) hr
 simp only[RCtr,ptr] at C5
 have HP:Hid (_=some r):=hP
 have B5:Hid (n5.length+1≤2*j5+0∧i<j5∧m5<n5.length):=by have:=HN.out;unfold Hid;omega
 have q5:=o5b
 clear hP hr o5a o5b o5c o5d o5e hm5
 go_wp2_with fail
 refine C5.mono ?_
 rintro e w5 ⟨he,F5,h5,s5⟩
 obtain rfl:e = .returned (.int .i64 (m5:Nat)):=he
 clear C5
 have f5:=s5.f
 have t5:=t1.trans s5
 by_cases e8:nx ts (j5) = [41]
 rotate_left
 ·have hP:=HP.out
  rw[wantR_no e8] at hP
  have C8:=rwant_no h5 K [41] (by unfold Sg;decide) e8
  cases hP
  go_wp2_with fail
  refine C8.mono ?_
  rintro e w8 ⟨rfl,hb8,f8⟩
  clear C8
  have fe8:=t5.ends f8
  go_wp2_with fail
  refine (rnode_bad (ts:=ts) (rb:=rb) (p:=_) (by first | exact hb8 | exact hb8.fr ((Fr.refl _ _).alloc _)) _ _ _ _).mono ?_
  rintro e w9 ⟨rfl,f9⟩
  have f9:Fr [] w8 w9:=by first | exact f9 | exact ((Fr.refl [] _).alloc _).trans f9
  have hb9:=hb8.fr f9
  have fe9:=fe8.trans (f9.sub (by simp))
  go_wp2
  go_ret
  exact⟨_,rfl,hb9,fe9⟩
 have q8:=hT.more q5 (show nx ts (j5)≠[] by rw[e8];decide)
 have hP:=HP.out
 rw[wantR_yes e8] at hP
 have HP:Hid (_=some r):=hP
 clear hP
 have C8:=rwant_yes h5 K [41] (by unfold Sg;decide) e8 q8
 clear e8
 go_wp2_with fail
 refine C8.mono ?_
 rintro e w8 ⟨rfl,h8,f8⟩
 clear C8
 have s8:=Tr.of f8
 have t8:=t5.trans s8
 have h8:RS ts B rb F5 (j5+1) n5 w8:=h8
 have q8:j5+1<ts.length:=q8
 have hP:=HP.out
 cases hP
 have gb:Fr [] w8 (w8.alloc (.cells #[.int .i64 (m5:Nat)] 3)):=(Fr.refl _ _).alloc _
 have ob:ON (w8.alloc (.cells #[.int .i64 (m5:Nat)] 3)) B (.slice (some ⟨w8.heap.size,0,none⟩) 1 1) [m5]:=ON.built w8 B (by have:=h8.fb rb h8.pf;omega) [m5] (by simp)
 have KV0:=ON.kv ob
 have LO:∀ k∈(Value.slice (some ⟨w8.heap.size,0,none⟩) 1 1).ownBlock.toList,w.heap.size≤k:=fun k hk=>by rw[own_mem hk];exact t8.f.size
 have hbb:=h8.fr gb (by simp)
 have tbb:=t8.trans (Tr.of0 gb)
 have CL:=rnode_any hbb KV0 kind [] pl (by have:=B5.out;have:=HTL.out;have:=q8;omega)
 go_wp2_with fail
 refine CL.mono ?_
 rintro e wz ⟨rfl,Fz,hz,fz,sz⟩
 have tz:Tr F w Fz wz:=lay_tr tbb fz sz LO
 go_wp2
 go_ret
 exact⟨rfl,Fz,hz,tz⟩
theorem laySg_app:∀ (a b:List Tok) (n:Nat) (ns:List PN),laySg (a++b) n ns=laySg b (laySg a n ns).1 (laySg a n ns).2
 | [],b,n,ns=>rfl
 | t::a,b,n,ns=>by simp only[List.cons_append,laySg];exact laySg_app a b _ _
def addS (t:Tok) : Except Nat (List Nat×Nat×List PN)→Except Nat (List Nat×Nat×List PN)
 | .ok (v,j,ms)=>.ok ([ms.length],j,ms++[⟨18,t.text,[hd v],t.frm⟩])
 | .error e=>.error e
theorem signed_cons {ts:List Tok} (t:Tok) : ∀ (f i:Nat) (acc:List Tok) (ns:List PN) (r:Except Nat (List Nat×Nat×List PN)),P ts f (.signedL (t::acc)) i ns=some r→∃ r0,P ts f (.signedL acc) i ns=some r0∧r=addS t r0
 | 0,_,_,_,_,h=>by simp[P] at h
 | f+1,i,acc,ns,r,h=>by
   simp only[P] at h ⊢
   by_cases e:isSg (nx ts i)=true
   ·rw[if_pos e] at h
    obtain⟨r0,h0,h1⟩:=signed_cons t f (i+1) (acc++[tk ts i]) ns r (by simpa using h)
    exact⟨r0,by rw[if_pos e];exact h0,h1⟩
   ·rw[if_neg e] at h
    rw[if_neg e]
    rcases bindR_some h with ⟨er,hr,he⟩ | ⟨v,j,ms,hr,hP⟩
    ·subst he
     exact⟨.error er,by rw[hr];rfl,rfl⟩
    ·cases f with
     | zero=>simp[P] at hP
     | succ f =>
       rw[hr]
       simp only[bindR,P] at hP ⊢
       refine⟨_,rfl,?_⟩
       rw[List.reverse_cons,laySg_app] at hP
       simpa [laySg,addS,hd] using hP.symm
theorem sign_yes {ts:List Tok} {f i:Nat} {ns:List PN} {r:Except Nat (List Nat×Nat×List PN)} (h:P ts (f+1) .signed i ns=some r) (e:isSg (nx ts i)=true) : ∃ r0,P ts f .signed (i+1) ns=some r0∧r=addS (tk ts i) r0:=by
 simp only[P] at h
 obtain _ | f:=f
 ·simp[P] at h
 ·simp only[P,if_pos e] at h
  obtain⟨r0,h0,h1⟩:=signed_cons (tk ts i) f (i+1) [] ns r (by simpa using h)
  exact⟨r0,by simpa only[P] using h0,h1⟩
theorem sign_no {ts:List Tok} {f i:Nat} {ns:List PN} {r:Except Nat (List Nat×Nat×List PN)} (h:P ts (f+1) .signed i ns=some r) (e:¬ isSg (nx ts i)=true) : ∃ g r0,g≤f∧P ts g .back i ns=some r0∧((∃ k,r0 = .error k∧r = .error k)∨∃ v j ms,r0 = .ok (v,j,ms)∧r = .ok ([hd v],j,ms)):=by
 simp only[P] at h
 obtain _ | f:=f
 ·simp[P] at h
 ·simp only[P,if_neg e] at h
  rcases bindR_some h with ⟨er,hr,he⟩ | ⟨v,j,ms,hr,hP⟩
  ·exact⟨f,_,by omega,hr,.inl ⟨er,rfl,he⟩⟩
  ·obtain _ | f:=f
   ·simp[P] at hP
   ·simp only[P,List.reverse_nil,laySg] at hP
    cases hP
    exact⟨f+1,_,by omega,hr,.inr ⟨v,j,ms,rfl,rfl⟩⟩
set_option maxHeartbeats 2000000 in
theorem r_signed {ts:List Tok} {B rb:Nat} (hT:Toks ts) (K:KT ts) {f i:Nat} {ns:List PN} {w:World} {F:List Nat} {r:Except Nat (List Nat×Nat×List PN)} (H:RHyp ts B rb f) (h0:RS ts B rb F i ns w) (hn:ns.length≤2*i+1) (hP:P ts (f+1) .signed i ns=some r) : RCtr ts B rb F w r .signed:=by
 have hi:=h0.ti
 have HTL:Hid (ts.length≤200001):=h0.tl
 have HP:Hid (P ts (f+1) .signed i ns=some r):=hP
 clear hP
 simp only[RCtr,ptr]
 have t0:=Tr.refl F w
 have HN:Hid (ns.length≤2*i+1):=hn
 clear hn
 have C1:=h0.now
 unfold tokA at C1
 go_enter Tryz.func196,Tryz.ntmps196
 go_wp2_with fail
 refine C1.mono ?_
 rintro e w1 ⟨rfl,f1⟩
 clear C1
 have h1:=h0.fr f1 (by simp)
 have t1:=t0.trans (Tr.of0 f1)
 have g2:Fr [] w1 (w1.alloc (.cells #[.int .i64 ((tk ts (i)).kind:Nat),.string ⟨(tk ts (i)).text.toArray⟩,.int .i64 ((tk ts (i)).frm:Nat),.int .i64 ((tk ts (i)).to:Nat),.int .i64 ((tk ts (i)).n:Nat)] 82)):=(Fr.refl _ _).alloc _
 have v2:=TB.new w1 (.int .i64 ((tk ts (i)).kind:Nat)) (.string ⟨(tk ts (i)).text.toArray⟩) (.int .i64 ((tk ts (i)).frm:Nat)) (.int .i64 ((tk ts (i)).to:Nat)) (.int .i64 ((tk ts (i)).n:Nat))
 have ni2:w1.heap.size∉F:=fun hm=>by have:=(h1.fb _ hm).2;omega
 have h2:=h1.fr g2 (by simp)
 have t2:=t1.trans (Tr.of0 g2)
 by_cases e3:nx ts (i) = [45]
 ·have q3:=hT.more hi (show nx ts (i)≠[] by rw[e3];decide)
  have C3:=rtake_yes h2 K [45] (by unfold Sg;decide) e3 q3
  have E3:Hid (nx ts (i) = [45]):=e3
  clear e3
  go_wp2_with fail
  refine C3.mono ?_
  rintro e w3 ⟨rfl,h3,f3⟩
  clear C3
  have s3:=Tr.of f3
  have t3:=t2.trans s3
  have u0_3:=v2.fr f3 ni2
  have ni0_3:=Tr.notin s3 ni2 v2.lt
  have h3:RS ts B rb F (i+1) ns w3:=h3
  have q3:i+1<ts.length:=q3
  obtain⟨r0,hr,he⟩:=sign_yes HP.out (show isSg (nx ts i)=true by rw[E3.out];decide)
  subst he
  clear HP E3
  have C7:=H f .signed _ _ w3 _ _ (Nat.le_refl _) h3 trivial (by have:=HN.out;omega) hr
  simp only[RCtr,ptr] at C7
  rcases r0 with er | ⟨v7,j7,n7⟩
  ·go_wp2_with fail
   refine C7.mono ?_
   rintro e w7 ⟨x7,rfl,hb7,f7⟩
   clear C7 hr
   have u7:=u0_3.fr f7 ni0_3
   have a1:=u7.c1
   have a2:=u7.c2
   have fe7:=t3.ends f7
   go_wp2_with fail
   refine (rnode_bad (ts:=ts) (rb:=rb) (p:=_) (by first | exact hb7 | exact hb7.fr ((Fr.refl _ _).alloc _)) _ _ _ _).mono ?_
   rintro e w9 ⟨rfl,f9⟩
   have f9:Fr [] w7 w9:=by first | exact f9 | exact ((Fr.refl [] _).alloc _).trans f9
   have hb9:=hb7.fr f9
   have fe9:=fe7.trans (f9.sub (by simp))
   go_wp2
   go_ret
   exact⟨_,rfl,hb9,fe9⟩
  obtain⟨o7a,o7b,o7c,o7d,o7e⟩:=run_ok hT (nt:=.signed) (ns:=ns) h3.ti trivial hr
  simp only[consN,slack] at o7a o7d
  obtain⟨m7,rfl,hm7⟩:=o7e rfl
  have B7:Hid (n7.length+1≤2*j7∧i<j7):=by have:=HN.out;unfold Hid;omega
  have q7:=o7b
  clear hr o7a o7b o7c o7d o7e hm7
  go_wp2_with fail
  refine C7.mono ?_
  rintro e w7 ⟨he,F7,h7,s7⟩
  obtain rfl:e = .returned (.int .i64 (m7:Nat)):=he
  clear C7
  have f7:=s7.f
  have t7:=t3.trans s7
  have u0_7:=u0_3.fr f7 ni0_3
  have ni0_7:=Tr.notin s7 ni0_3 u0_3.lt
  have a0_0:=u0_7.c0
  have a0_1:=u0_7.c1
  have a0_2:=u0_7.c2
  have a0_3:=u0_7.c3
  have a0_4:=u0_7.c4
  have gb:Fr [] w7 (w7.alloc (.cells #[.int .i64 (m7:Nat)] 3)):=(Fr.refl _ _).alloc _
  have ob:ON (w7.alloc (.cells #[.int .i64 (m7:Nat)] 3)) B (.slice (some ⟨w7.heap.size,0,none⟩) 1 1) [m7]:=ON.built w7 B (by have:=h7.fb rb h7.pf;omega) [m7] (by simp)
  have KV0:=ON.kv ob
  have LO:∀ k∈(Value.slice (some ⟨w7.heap.size,0,none⟩) 1 1).ownBlock.toList,w.heap.size≤k:=fun k hk=>by rw[own_mem hk];exact t7.f.size
  have hbb:=h7.fr gb (by simp)
  have tbb:=t7.trans (Tr.of0 gb)
  have CL:=rnode_any hbb KV0 18 (tk ts (i)).text (tk ts (i)).frm (by have:=B7.out;have:=HTL.out;have:=q7;omega)
  go_wp2_with fail
  refine CL.mono ?_
  rintro e wz ⟨rfl,Fz,hz,fz,sz⟩
  have tz:Tr F w Fz wz:=lay_tr tbb fz sz LO
  go_wp2
  go_ret
  exact⟨rfl,Fz,hz,tz⟩
 ·have C3:=rtake_no h2 K [45] (by unfold Sg;decide) e3
  have E3:Hid (¬ nx ts (i) = [45]):=e3
  clear e3
  go_wp2_with fail
  refine C3.mono ?_
  rintro e w3 ⟨rfl,f3⟩
  clear C3
  have h3:=h2.fr f3 (by simp)
  have t3:=t2.trans (Tr.of0 f3)
  have u0_3:=v2.fr f3 (by simp)
  by_cases e4:nx ts (i) = [33]
  ·have q4:=hT.more hi (show nx ts (i)≠[] by rw[e4];decide)
   have C4:=rtake_yes h3 K [33] (by unfold Sg;decide) e4 q4
   have E4:Hid (nx ts (i) = [33]):=e4
   clear e4
   go_wp2_with fail
   refine C4.mono ?_
   rintro e w4 ⟨rfl,h4,f4⟩
   clear C4
   have s4:=Tr.of f4
   have t4:=t3.trans s4
   have u0_4:=u0_3.fr f4 ni2
   have ni0_4:=Tr.notin s4 ni2 u0_3.lt
   have h4:RS ts B rb F (i+1) ns w4:=h4
   have q4:i+1<ts.length:=q4
   obtain⟨r0,hr,he⟩:=sign_yes HP.out (show isSg (nx ts i)=true by rw[E4.out];decide)
   subst he
   clear HP E4
   have C7:=H f .signed _ _ w4 _ _ (Nat.le_refl _) h4 trivial (by have:=HN.out;omega) hr
   simp only[RCtr,ptr] at C7
   rcases r0 with er | ⟨v7,j7,n7⟩
   ·go_wp2_with fail
    refine C7.mono ?_
    rintro e w7 ⟨x7,rfl,hb7,f7⟩
    clear C7 hr
    have u7:=u0_4.fr f7 ni0_4
    have a1:=u7.c1
    have a2:=u7.c2
    have fe7:=t4.ends f7
    go_wp2_with fail
    refine (rnode_bad (ts:=ts) (rb:=rb) (p:=_) (by first | exact hb7 | exact hb7.fr ((Fr.refl _ _).alloc _)) _ _ _ _).mono ?_
    rintro e w9 ⟨rfl,f9⟩
    have f9:Fr [] w7 w9:=by first | exact f9 | exact ((Fr.refl [] _).alloc _).trans f9
    have hb9:=hb7.fr f9
    have fe9:=fe7.trans (f9.sub (by simp))
    go_wp2
    go_ret
    exact⟨_,rfl,hb9,fe9⟩
   obtain⟨o7a,o7b,o7c,o7d,o7e⟩:=run_ok hT (nt:=.signed) (ns:=ns) h4.ti trivial hr
   simp only[consN,slack] at o7a o7d
   obtain⟨m7,rfl,hm7⟩:=o7e rfl
   have B7:Hid (n7.length+1≤2*j7∧i<j7):=by have:=HN.out;unfold Hid;omega
   have q7:=o7b
   clear hr o7a o7b o7c o7d o7e hm7
   go_wp2_with fail
   refine C7.mono ?_
   rintro e w7 ⟨he,F7,h7,s7⟩
   obtain rfl:e = .returned (.int .i64 (m7:Nat)):=he
   clear C7
   have f7:=s7.f
   have t7:=t4.trans s7
   have u0_7:=u0_4.fr f7 ni0_4
   have ni0_7:=Tr.notin s7 ni0_4 u0_4.lt
   have a0_0:=u0_7.c0
   have a0_1:=u0_7.c1
   have a0_2:=u0_7.c2
   have a0_3:=u0_7.c3
   have a0_4:=u0_7.c4
   have gb:Fr [] w7 (w7.alloc (.cells #[.int .i64 (m7:Nat)] 3)):=(Fr.refl _ _).alloc _
   have ob:ON (w7.alloc (.cells #[.int .i64 (m7:Nat)] 3)) B (.slice (some ⟨w7.heap.size,0,none⟩) 1 1) [m7]:=ON.built w7 B (by have:=h7.fb rb h7.pf;omega) [m7] (by simp)
   have KV0:=ON.kv ob
   have LO:∀ k∈(Value.slice (some ⟨w7.heap.size,0,none⟩) 1 1).ownBlock.toList,w.heap.size≤k:=fun k hk=>by rw[own_mem hk];exact t7.f.size
   have hbb:=h7.fr gb (by simp)
   have tbb:=t7.trans (Tr.of0 gb)
   have CL:=rnode_any hbb KV0 18 (tk ts (i)).text (tk ts (i)).frm (by have:=B7.out;have:=HTL.out;have:=q7;omega)
   go_wp2_with fail
   refine CL.mono ?_
   rintro e wz ⟨rfl,Fz,hz,fz,sz⟩
   have tz:Tr F w Fz wz:=lay_tr tbb fz sz LO
   go_wp2
   go_ret
   exact⟨rfl,Fz,hz,tz⟩
  ·have C4:=rtake_no h3 K [33] (by unfold Sg;decide) e4
   have E4:Hid (¬ nx ts (i) = [33]):=e4
   clear e4
   go_wp2_with fail
   refine C4.mono ?_
   rintro e w4 ⟨rfl,f4⟩
   clear C4
   have h4:=h3.fr f4 (by simp)
   have t4:=t3.trans (Tr.of0 f4)
   have u0_4:=u0_3.fr f4 (by simp)
   by_cases e5:nx ts (i) = [126]
   ·have q5:=hT.more hi (show nx ts (i)≠[] by rw[e5];decide)
    have C5:=rtake_yes h4 K [126] (by unfold Sg;decide) e5 q5
    have E5:Hid (nx ts (i) = [126]):=e5
    clear e5
    go_wp2_with fail
    refine C5.mono ?_
    rintro e w5 ⟨rfl,h5,f5⟩
    clear C5
    have s5:=Tr.of f5
    have t5:=t4.trans s5
    have u0_5:=u0_4.fr f5 ni2
    have ni0_5:=Tr.notin s5 ni2 u0_4.lt
    have h5:RS ts B rb F (i+1) ns w5:=h5
    have q5:i+1<ts.length:=q5
    obtain⟨r0,hr,he⟩:=sign_yes HP.out (show isSg (nx ts i)=true by rw[E5.out];decide)
    subst he
    clear HP E5
    have C7:=H f .signed _ _ w5 _ _ (Nat.le_refl _) h5 trivial (by have:=HN.out;omega) hr
    simp only[RCtr,ptr] at C7
    rcases r0 with er | ⟨v7,j7,n7⟩
    ·go_wp2_with fail
     refine C7.mono ?_
     rintro e w7 ⟨x7,rfl,hb7,f7⟩
     clear C7 hr
     have u7:=u0_5.fr f7 ni0_5
     have a1:=u7.c1
     have a2:=u7.c2
     have fe7:=t5.ends f7
     go_wp2_with fail
     refine (rnode_bad (ts:=ts) (rb:=rb) (p:=_) (by first | exact hb7 | exact hb7.fr ((Fr.refl _ _).alloc _)) _ _ _ _).mono ?_
     rintro e w9 ⟨rfl,f9⟩
     have f9:Fr [] w7 w9:=by first | exact f9 | exact ((Fr.refl [] _).alloc _).trans f9
     have hb9:=hb7.fr f9
     have fe9:=fe7.trans (f9.sub (by simp))
     go_wp2
     go_ret
     exact⟨_,rfl,hb9,fe9⟩
    obtain⟨o7a,o7b,o7c,o7d,o7e⟩:=run_ok hT (nt:=.signed) (ns:=ns) h5.ti trivial hr
    simp only[consN,slack] at o7a o7d
    obtain⟨m7,rfl,hm7⟩:=o7e rfl
    have B7:Hid (n7.length+1≤2*j7∧i<j7):=by have:=HN.out;unfold Hid;omega
    have q7:=o7b
    clear hr o7a o7b o7c o7d o7e hm7
    go_wp2_with fail
    refine C7.mono ?_
    rintro e w7 ⟨he,F7,h7,s7⟩
    obtain rfl:e = .returned (.int .i64 (m7:Nat)):=he
    clear C7
    have f7:=s7.f
    have t7:=t5.trans s7
    have u0_7:=u0_5.fr f7 ni0_5
    have ni0_7:=Tr.notin s7 ni0_5 u0_5.lt
    have a0_0:=u0_7.c0
    have a0_1:=u0_7.c1
    have a0_2:=u0_7.c2
    have a0_3:=u0_7.c3
    have a0_4:=u0_7.c4
    have gb:Fr [] w7 (w7.alloc (.cells #[.int .i64 (m7:Nat)] 3)):=(Fr.refl _ _).alloc _
    have ob:ON (w7.alloc (.cells #[.int .i64 (m7:Nat)] 3)) B (.slice (some ⟨w7.heap.size,0,none⟩) 1 1) [m7]:=ON.built w7 B (by have:=h7.fb rb h7.pf;omega) [m7] (by simp)
    have KV0:=ON.kv ob
    have LO:∀ k∈(Value.slice (some ⟨w7.heap.size,0,none⟩) 1 1).ownBlock.toList,w.heap.size≤k:=fun k hk=>by rw[own_mem hk];exact t7.f.size
    have hbb:=h7.fr gb (by simp)
    have tbb:=t7.trans (Tr.of0 gb)
    have CL:=rnode_any hbb KV0 18 (tk ts (i)).text (tk ts (i)).frm (by have:=B7.out;have:=HTL.out;have:=q7;omega)
    go_wp2_with fail
    refine CL.mono ?_
    rintro e wz ⟨rfl,Fz,hz,fz,sz⟩
    have tz:Tr F w Fz wz:=lay_tr tbb fz sz LO
    go_wp2
    go_ret
    exact⟨rfl,Fz,hz,tz⟩
   ·have C5:=rtake_no h4 K [126] (by unfold Sg;decide) e5
    have E5:Hid (¬ nx ts (i) = [126]):=e5
    clear e5
    go_wp2_with fail
    refine C5.mono ?_
    rintro e w5 ⟨rfl,f5⟩
    clear C5
    have h5:=h4.fr f5 (by simp)
    have t5:=t4.trans (Tr.of0 f5)
    have u0_5:=u0_4.fr f5 (by simp)
    have hne:¬ isSg (nx ts i)=true:=by
     unfold isSg
     simp only[Bool.or_eq_true,beq_iff_eq,not_or]
     exact⟨⟨E3.out,E4.out⟩,E5.out⟩
    obtain⟨g9,r0,hg9,hr,hc⟩:=sign_no HP.out hne
    clear HP hne E3 E4 E5
    have C9:=H g9 .back _ _ w5 _ _ hg9 h5 trivial (by have:=HN.out;omega) hr
    simp only[RCtr,ptr] at C9
    rcases hc with ⟨k9,rfl,rfl⟩ | ⟨v9,j9,n9,rfl,rfl⟩
    ·go_wp2_with fail
     refine C9.mono ?_
     rintro e w9 ⟨x9,rfl,hb9,f9⟩
     go_wp2
     go_ret
     exact⟨_,rfl,hb9,t5.ends f9⟩
    ·go_wp2_with fail
     refine C9.mono ?_
     rintro e w9 ⟨he,F9,h9,s9⟩
     obtain rfl:e = .returned (.int .i64 (hd v9:Nat)):=he
     go_wp2
     go_ret
     exact⟨rfl,F9,h9,t5.trans s9⟩
set_option maxHeartbeats 4000000 in
theorem r_stmt {ts:List Tok} {B rb:Nat} (hT:Toks ts) (K:KT ts) {f i:Nat} {ns:List PN} {w:World} {F:List Nat} {r:Except Nat (List Nat×Nat×List PN)} (H:RHyp ts B rb f) (h0:RS ts B rb F i ns w) (hn:ns.length≤2*i+1) (hP:P ts (f+1) .stmt i ns=some r) : RCtr ts B rb F w r .stmt:=by
 have hi:=h0.ti
 have HTL:Hid (ts.length≤200001):=h0.tl
 simp only[P] at hP
 have HP:Hid (_=some r):=hP
 clear hP
 simp only[RCtr,ptr]
 have t0:=Tr.refl F w
 have HN:Hid (ns.length≤2*i+1):=hn
 clear hn
 have C1:=h0.now
 unfold tokA at C1
 go_enter Tryz.func97,Tryz.ntmps97
 go_wp2_with fail
 refine C1.mono ?_
 rintro e w1 ⟨rfl,f1⟩
 clear C1
 have h1:=h0.fr f1 (by simp)
 have t1:=t0.trans (Tr.of0 f1)
 have g2:Fr [] w1 (w1.alloc (.cells #[.int .i64 ((tk ts (i)).kind:Nat),.string ⟨(tk ts (i)).text.toArray⟩,.int .i64 ((tk ts (i)).frm:Nat),.int .i64 ((tk ts (i)).to:Nat),.int .i64 ((tk ts (i)).n:Nat)] 82)):=(Fr.refl _ _).alloc _
 have v2:=TB.new w1 (.int .i64 ((tk ts (i)).kind:Nat)) (.string ⟨(tk ts (i)).text.toArray⟩) (.int .i64 ((tk ts (i)).frm:Nat)) (.int .i64 ((tk ts (i)).to:Nat)) (.int .i64 ((tk ts (i)).n:Nat))
 have ni2:w1.heap.size∉F:=fun hm=>by have:=(h1.fb _ hm).2;omega
 have h2:=h1.fr g2 (by simp)
 have t2:=t1.trans (Tr.of0 g2)
 by_cases e3:nx ts (i) = [108,101,116]
 ·have q3:=hT.more hi (show nx ts (i)≠[] by rw[e3];decide)
  have C3:=rtake_yes h2 K [108,101,116] (by unfold Sg;decide) e3 q3
  have E3:Hid (nx ts (i) = [108,101,116]):=e3
  clear e3
  go_wp2_with fail
  refine C3.mono ?_
  rintro e w3 ⟨rfl,h3,f3⟩
  clear C3
  have s3:=Tr.of f3
  have t3:=t2.trans s3
  have u0_3:=v2.fr f3 ni2
  have ni0_3:=Tr.notin s3 ni2 v2.lt
  have h3:RS ts B rb F (i+1) ns w3:=h3
  have q3:i+1<ts.length:=q3
  have hP:=HP.out
  rw[E3.out,show stmtNT [108,101,116]=some (.letS) from rfl] at hP
  clear HP E3
  obtain _ | f:=f
  ·simp[P] at hP
  simp only[P] at hP
  have HP:Hid (_=some r):=hP
  clear hP
  have C4:=h3.now
  unfold tokA at C4
  go_wp2_with fail
  refine C4.mono ?_
  rintro e w4 ⟨rfl,f4⟩
  clear C4
  have fl4:=fld2 ((tk ts (i+1)).kind:Nat) ((tk ts (i+1)).frm:Nat) ((tk ts (i+1)).to:Nat) ((tk ts (i+1)).n:Nat) ⟨(tk ts (i+1)).text.toArray⟩ w4
  have h4:=h3.fr f4 (by simp)
  have t4:=t3.trans (Tr.of0 f4)
  have u0_4:=u0_3.fr f4 (by simp)
  by_cases e5:nx ts (i+1)=nmB
  rotate_left
  ·have hP:=HP.out
   rw[wantR_no e5] at hP
   have C5:=rname_no h4 K e5
   cases hP
   go_wp2_with fail
   refine C5.mono ?_
   rintro e w5 ⟨rfl,hb5,f5⟩
   clear C5
   have fe5:=t4.ends f5
   have bu0_5:=u0_4.fr f5 ni0_3
   have bcp0_5:=bu0_5.c1
   have bcq0_5:=bu0_5.c2
   go_wp2_with fail
   refine (rwant_bad hb5 [61]).mono ?_
   rintro e w6 ⟨rfl,f6⟩
   have hb6:=hb5.fr f6
   have fe6:=fe5.trans (f6.sub (by simp))
   have bu0_6:=bu0_5.fr f6 (by simp)
   have bcp0_6:=bu0_6.c1
   have bcq0_6:=bu0_6.c2
   go_wp2_with fail
   refine (rexpr_bad hb6).mono ?_
   rintro e w7 ⟨rfl,f7⟩
   have hb7:=hb6.fr f7
   have fe7:=fe6.trans (f7.sub (by simp))
   have bu0_7:=bu0_6.fr f7 (by simp)
   have bcp0_7:=bu0_7.c1
   have bcq0_7:=bu0_7.c2
   go_wp2_with fail
   refine (rwant_bad hb7 [59]).mono ?_
   rintro e w8 ⟨rfl,f8⟩
   have hb8:=hb7.fr f8
   have fe8:=fe7.trans (f8.sub (by simp))
   have bu0_8:=bu0_7.fr f8 (by simp)
   have bcp0_8:=bu0_8.c1
   have bcq0_8:=bu0_8.c2
   go_wp2_with fail
   refine (rnode_bad (ts:=ts) (rb:=rb) (p:=_) (by first | exact hb8 | exact hb8.fr ((Fr.refl _ _).alloc _)) _ _ _ _).mono ?_
   rintro e w9 ⟨rfl,f9⟩
   have f9:Fr [] w8 w9:=by first | exact f9 | exact ((Fr.refl [] _).alloc _).trans f9
   have hb9:=hb8.fr f9
   have fe9:=fe8.trans (f9.sub (by simp))
   have bu0_9:=bu0_8.fr f9 (by simp)
   have bcp0_9:=bu0_9.c1
   have bcq0_9:=bu0_9.c2
   go_wp2
   go_ret
   exact⟨_,rfl,hb9,fe9⟩
  have q5:=hT.more q3 (show nx ts (i+1)≠[] by rw[e5];decide)
  have hP:=HP.out
  rw[wantR_yes e5] at hP
  have HP:Hid (_=some r):=hP
  clear hP
  have C5:=rname_yes h4 K e5 q5
  clear e5
  go_wp2_with fail
  refine C5.mono ?_
  rintro e w5 ⟨rfl,h5,f5⟩
  clear C5
  have s5:=Tr.of f5
  have t5:=t4.trans s5
  have u0_5:=u0_4.fr f5 ni0_3
  have ni0_5:=Tr.notin s5 ni0_3 u0_4.lt
  have h5:RS ts B rb F (i+2) ns w5:=h5
  have q5:i+2<ts.length:=q5
  by_cases e10:nx ts (i+2) = [61]
  rotate_left
  ·have hP:=HP.out
   rw[wantR_no e10] at hP
   have C10:=rwant_no h5 K [61] (by unfold Sg;decide) e10
   cases hP
   go_wp2_with fail
   refine C10.mono ?_
   rintro e w10 ⟨rfl,hb10,f10⟩
   clear C10
   have fe10:=t5.ends f10
   have bu0_10:=u0_5.fr f10 ni0_5
   have bcp0_10:=bu0_10.c1
   have bcq0_10:=bu0_10.c2
   go_wp2_with fail
   refine (rexpr_bad hb10).mono ?_
   rintro e w11 ⟨rfl,f11⟩
   have hb11:=hb10.fr f11
   have fe11:=fe10.trans (f11.sub (by simp))
   have bu0_11:=bu0_10.fr f11 (by simp)
   have bcp0_11:=bu0_11.c1
   have bcq0_11:=bu0_11.c2
   go_wp2_with fail
   refine (rwant_bad hb11 [59]).mono ?_
   rintro e w12 ⟨rfl,f12⟩
   have hb12:=hb11.fr f12
   have fe12:=fe11.trans (f12.sub (by simp))
   have bu0_12:=bu0_11.fr f12 (by simp)
   have bcp0_12:=bu0_12.c1
   have bcq0_12:=bu0_12.c2
   go_wp2_with fail
   refine (rnode_bad (ts:=ts) (rb:=rb) (p:=_) (by first | exact hb12 | exact hb12.fr ((Fr.refl _ _).alloc _)) _ _ _ _).mono ?_
   rintro e w13 ⟨rfl,f13⟩
   have f13:Fr [] w12 w13:=by first | exact f13 | exact ((Fr.refl [] _).alloc _).trans f13
   have hb13:=hb12.fr f13
   have fe13:=fe12.trans (f13.sub (by simp))
   have bu0_13:=bu0_12.fr f13 (by simp)
   have bcp0_13:=bu0_13.c1
   have bcq0_13:=bu0_13.c2
   go_wp2
   go_ret
   exact⟨_,rfl,hb13,fe13⟩
  have q10:=hT.more q5 (show nx ts (i+2)≠[] by rw[e10];decide)
  have hP:=HP.out
  rw[wantR_yes e10] at hP
  have HP:Hid (_=some r):=hP
  clear hP
  have C10:=rwant_yes h5 K [61] (by unfold Sg;decide) e10 q10
  clear e10
  go_wp2_with fail
  refine C10.mono ?_
  rintro e w10 ⟨rfl,h10,f10⟩
  clear C10
  have s10:=Tr.of f10
  have t10:=t5.trans s10
  have u0_10:=u0_5.fr f10 ni0_5
  have ni0_10:=Tr.notin s10 ni0_5 u0_5.lt
  have h10:RS ts B rb F (i+3) ns w10:=h10
  have q10:i+3<ts.length:=q10
  rcases bindR_some HP.out with ⟨er,hr,he⟩ | ⟨v14,j14,n14,hr,hP⟩
  ·subst he
   have C14:=H f (.expr) _ _ w10 _ _ (by omega) h10 trivial (by have:=HN.out;omega) hr
   simp only[RCtr,ptr] at C14
   go_wp2_with fail
   refine C14.mono ?_
   rintro e w14 ⟨x14,rfl,hb14,f14⟩
   clear C14
   have fe14:=t10.ends f14
   have bu0_14:=u0_10.fr f14 ni0_10
   have bcp0_14:=bu0_14.c1
   have bcq0_14:=bu0_14.c2
   go_wp2_with fail
   refine (rwant_bad hb14 [59]).mono ?_
   rintro e w15 ⟨rfl,f15⟩
   have hb15:=hb14.fr f15
   have fe15:=fe14.trans (f15.sub (by simp))
   have bu0_15:=bu0_14.fr f15 (by simp)
   have bcp0_15:=bu0_15.c1
   have bcq0_15:=bu0_15.c2
   go_wp2_with fail
   refine (rnode_bad (ts:=ts) (rb:=rb) (p:=_) (by first | exact hb15 | exact hb15.fr ((Fr.refl _ _).alloc _)) _ _ _ _).mono ?_
   rintro e w16 ⟨rfl,f16⟩
   have f16:Fr [] w15 w16:=by first | exact f16 | exact ((Fr.refl [] _).alloc _).trans f16
   have hb16:=hb15.fr f16
   have fe16:=fe15.trans (f16.sub (by simp))
   have bu0_16:=bu0_15.fr f16 (by simp)
   have bcp0_16:=bu0_16.c1
   have bcq0_16:=bu0_16.c2
   go_wp2
   go_ret
   exact⟨_,rfl,hb16,fe16⟩
  obtain⟨o14a,o14b,o14c,o14d,o14e⟩:=run_ok hT (nt:=.expr) (ns:=ns) h10.ti trivial hr
  simp only[consN,slack] at o14a o14d
  obtain⟨m14,rfl,hm14⟩:=o14e rfl
  have C14:=H f (.expr) _ _ w10 _ _ (by omega) h10 trivial (by have:=HN.out;omega) hr
  simp only[RCtr,ptr] at C14
  have HP:Hid (_=some r):=hP
  have B14:Hid (n14.length+5≤2*j14+0∧i<j14∧m14<n14.length):=by have:=HN.out;unfold Hid;omega
  have q14:=o14b
  clear hP hr o14a o14b o14c o14d o14e hm14
  go_wp2_with fail
  refine C14.mono ?_
  rintro e w14 ⟨he,F14,h14,s14⟩
  obtain rfl:e = .returned (.int .i64 (m14:Nat)):=he
  clear C14
  have f14:=s14.f
  have t14:=t10.trans s14
  have u0_14:=u0_10.fr f14 ni0_10
  have ni0_14:=Tr.notin s14 ni0_10 u0_10.lt
  by_cases e17:nx ts (j14) = [59]
  rotate_left
  ·have hP:=HP.out
   rw[wantR_no e17] at hP
   have C17:=rwant_no h14 K [59] (by unfold Sg;decide) e17
   cases hP
   go_wp2_with fail
   refine C17.mono ?_
   rintro e w17 ⟨rfl,hb17,f17⟩
   clear C17
   have fe17:=t14.ends f17
   have bu0_17:=u0_14.fr f17 ni0_14
   have bcp0_17:=bu0_17.c1
   have bcq0_17:=bu0_17.c2
   go_wp2_with fail
   refine (rnode_bad (ts:=ts) (rb:=rb) (p:=_) (by first | exact hb17 | exact hb17.fr ((Fr.refl _ _).alloc _)) _ _ _ _).mono ?_
   rintro e w18 ⟨rfl,f18⟩
   have f18:Fr [] w17 w18:=by first | exact f18 | exact ((Fr.refl [] _).alloc _).trans f18
   have hb18:=hb17.fr f18
   have fe18:=fe17.trans (f18.sub (by simp))
   have bu0_18:=bu0_17.fr f18 (by simp)
   have bcp0_18:=bu0_18.c1
   have bcq0_18:=bu0_18.c2
   go_wp2
   go_ret
   exact⟨_,rfl,hb18,fe18⟩
  have q17:=hT.more q14 (show nx ts (j14)≠[] by rw[e17];decide)
  have hP:=HP.out
  rw[wantR_yes e17] at hP
  have HP:Hid (_=some r):=hP
  clear hP
  have C17:=rwant_yes h14 K [59] (by unfold Sg;decide) e17 q17
  clear e17
  go_wp2_with fail
  refine C17.mono ?_
  rintro e w17 ⟨rfl,h17,f17⟩
  clear C17
  have s17:=Tr.of f17
  have t17:=t14.trans s17
  have u0_17:=u0_14.fr f17 ni0_14
  have ni0_17:=Tr.notin s17 ni0_14 u0_14.lt
  have h17:RS ts B rb F14 (j14+1) n14 w17:=h17
  have q17:j14+1<ts.length:=q17
  have hP:=HP.out
  cases hP
  have a0_0:=u0_17.c0
  have a0_1:=u0_17.c1
  have a0_2:=u0_17.c2
  have a0_3:=u0_17.c3
  have a0_4:=u0_17.c4
  have gb:Fr [] w17 (w17.alloc (.cells #[.int .i64 (m14:Nat)] 3)):=(Fr.refl _ _).alloc _
  have ob:ON (w17.alloc (.cells #[.int .i64 (m14:Nat)] 3)) B (.slice (some ⟨w17.heap.size,0,none⟩) 1 1) [m14]:=ON.built w17 B (by have:=h17.fb rb h17.pf;omega) [m14] (by simp)
  have KV0:=ON.kv ob
  have LO:∀ k∈(Value.slice (some ⟨w17.heap.size,0,none⟩) 1 1).ownBlock.toList,w.heap.size≤k:=fun k hk=>by rw[own_mem hk];exact t17.f.size
  have hbb:=h17.fr gb (by simp)
  have tbb:=t17.trans (Tr.of0 gb)
  have CL:=rnode_any hbb KV0 5 (tk ts (i+1)).text (tk ts (i+1)).frm (by have:=B14.out;have:=HTL.out;have:=q17;omega)
  go_wp2_with fail
  refine CL.mono ?_
  rintro e wz ⟨rfl,Fz,hz,fz,sz⟩
  have tz:Tr F w Fz wz:=lay_tr tbb fz sz LO
  go_wp2
  go_ret
  exact⟨rfl,Fz,hz,tz⟩
 ·have C3:=rtake_no h2 K [108,101,116] (by unfold Sg;decide) e3
  have E3:Hid (¬ nx ts (i) = [108,101,116]):=e3
  clear e3
  go_wp2_with fail
  refine C3.mono ?_
  rintro e w3 ⟨rfl,f3⟩
  clear C3
  have h3:=h2.fr f3 (by simp)
  have t3:=t2.trans (Tr.of0 f3)
  have u0_3:=v2.fr f3 (by simp)
  by_cases e4:nx ts (i) = [105,102]
  ·have q4:=hT.more hi (show nx ts (i)≠[] by rw[e4];decide)
   have C4:=rtake_yes h3 K [105,102] (by unfold Sg;decide) e4 q4
   have E4:Hid (nx ts (i) = [105,102]):=e4
   clear e4
   go_wp2_with fail
   refine C4.mono ?_
   rintro e w4 ⟨rfl,h4,f4⟩
   clear C4
   have s4:=Tr.of f4
   have t4:=t3.trans s4
   have u0_4:=u0_3.fr f4 ni2
   have ni0_4:=Tr.notin s4 ni2 u0_3.lt
   have h4:RS ts B rb F (i+1) ns w4:=h4
   have q4:i+1<ts.length:=q4
   have hP:=HP.out
   rw[E4.out,show stmtNT [105,102]=some (.choice) from rfl] at hP
   clear HP E4
   obtain _ | f:=f
   ·simp[P] at hP
   simp only[P] at hP
   have HP:Hid (_=some r):=hP
   clear hP
   rcases bindR_some HP.out with ⟨er,hr,he⟩ | ⟨v5,j5,n5,hr,hP⟩
   ·subst he
    have C5:=H f (.expr) _ _ w4 _ _ (by omega) h4 trivial (by have:=HN.out;omega) hr
    simp only[RCtr,ptr] at C5
    go_wp2_with fail
    refine C5.mono ?_
    rintro e w5 ⟨x5,rfl,hb5,f5⟩
    clear C5
    have fe5:=t4.ends f5
    have bu0_5:=u0_4.fr f5 ni0_4
    have bcp0_5:=bu0_5.c1
    have bcq0_5:=bu0_5.c2
    go_wp2_with fail
    refine (rblock_bad hb5).mono ?_
    rintro e w6 ⟨rfl,f6⟩
    have hb6:=hb5.fr f6
    have fe6:=fe5.trans (f6.sub (by simp))
    have bu0_6:=bu0_5.fr f6 (by simp)
    have bcp0_6:=bu0_6.c1
    have bcq0_6:=bu0_6.c2
    go_wp2_with fail
    refine (rtake_bad hb6 [101,108,115,101]).mono ?_
    rintro e w7 ⟨rfl,f7⟩
    have hb7:=hb6.fr f7
    have fe7:=fe6.trans (f7.sub (by simp))
    have bu0_7:=bu0_6.fr f7 (by simp)
    have bcp0_7:=bu0_7.c1
    have bcq0_7:=bu0_7.c2
    go_wp2_with fail
    refine (rnode_bad (ts:=ts) (rb:=rb) (p:=_) (by first | exact hb7 | exact hb7.fr ((Fr.refl _ _).alloc _)) _ _ _ _).mono ?_
    rintro e w8 ⟨rfl,f8⟩
    have f8:Fr [] w7 w8:=by first | exact f8 | exact ((Fr.refl [] _).alloc _).trans f8
    have hb8:=hb7.fr f8
    have fe8:=fe7.trans (f8.sub (by simp))
    have bu0_8:=bu0_7.fr f8 (by simp)
    have bcp0_8:=bu0_8.c1
    have bcq0_8:=bu0_8.c2
    go_wp2_with fail
    refine (rnode_bad (ts:=ts) (rb:=rb) (p:=_) (by first | exact hb8 | exact hb8.fr ((Fr.refl _ _).alloc _)) _ _ _ _).mono ?_
    rintro e w9 ⟨rfl,f9⟩
    have f9:Fr [] w8 w9:=by first | exact f9 | exact ((Fr.refl [] _).alloc _).trans f9
    have hb9:=hb8.fr f9
    have fe9:=fe8.trans (f9.sub (by simp))
    have bu0_9:=bu0_8.fr f9 (by simp)
    have bcp0_9:=bu0_9.c1
    have bcq0_9:=bu0_9.c2
    go_wp2
    go_ret
    exact⟨_,rfl,hb9,fe9⟩
   obtain⟨o5a,o5b,o5c,o5d,o5e⟩:=run_ok hT (nt:=.expr) (ns:=ns) h4.ti trivial hr
   simp only[consN,slack] at o5a o5d
   obtain⟨m5,rfl,hm5⟩:=o5e rfl
   have C5:=H f (.expr) _ _ w4 _ _ (by omega) h4 trivial (by have:=HN.out;omega) hr
   simp only[RCtr,ptr] at C5
   have HP:Hid (_=some r):=hP
   have B5:Hid (n5.length+1≤2*j5+0∧i<j5∧m5<n5.length):=by have:=HN.out;unfold Hid;omega
   have q5:=o5b
   clear hP hr o5a o5b o5c o5d o5e hm5
   go_wp2_with fail
   refine C5.mono ?_
   rintro e w5 ⟨he,F5,h5,s5⟩
   obtain rfl:e = .returned (.int .i64 (m5:Nat)):=he
   clear C5
   have f5:=s5.f
   have t5:=t4.trans s5
   have u0_5:=u0_4.fr f5 ni0_4
   have ni0_5:=Tr.notin s5 ni0_4 u0_4.lt
   rcases bindR_some HP.out with ⟨er,hr,he⟩ | ⟨v10,j10,n10,hr,hP⟩
   ·subst he
    have C10:=H f (.block 0) _ _ w5 _ _ (by omega) h5 trivial (by have:=B5.out;omega) hr
    simp only[RCtr,ptr] at C10
    go_wp2_with fail
    refine C10.mono ?_
    rintro e w10 ⟨x10,rfl,hb10,f10⟩
    clear C10
    have fe10:=t5.ends f10
    have bu0_10:=u0_5.fr f10 ni0_5
    have bcp0_10:=bu0_10.c1
    have bcq0_10:=bu0_10.c2
    go_wp2_with fail
    refine (rtake_bad hb10 [101,108,115,101]).mono ?_
    rintro e w11 ⟨rfl,f11⟩
    have hb11:=hb10.fr f11
    have fe11:=fe10.trans (f11.sub (by simp))
    have bu0_11:=bu0_10.fr f11 (by simp)
    have bcp0_11:=bu0_11.c1
    have bcq0_11:=bu0_11.c2
    go_wp2_with fail
    refine (rnode_bad (ts:=ts) (rb:=rb) (p:=_) (by first | exact hb11 | exact hb11.fr ((Fr.refl _ _).alloc _)) _ _ _ _).mono ?_
    rintro e w12 ⟨rfl,f12⟩
    have f12:Fr [] w11 w12:=by first | exact f12 | exact ((Fr.refl [] _).alloc _).trans f12
    have hb12:=hb11.fr f12
    have fe12:=fe11.trans (f12.sub (by simp))
    have bu0_12:=bu0_11.fr f12 (by simp)
    have bcp0_12:=bu0_12.c1
    have bcq0_12:=bu0_12.c2
    go_wp2_with fail
    refine (rnode_bad (ts:=ts) (rb:=rb) (p:=_) (by first | exact hb12 | exact hb12.fr ((Fr.refl _ _).alloc _)) _ _ _ _).mono ?_
    rintro e w13 ⟨rfl,f13⟩
    have f13:Fr [] w12 w13:=by first | exact f13 | exact ((Fr.refl [] _).alloc _).trans f13
    have hb13:=hb12.fr f13
    have fe13:=fe12.trans (f13.sub (by simp))
    have bu0_13:=bu0_12.fr f13 (by simp)
    have bcp0_13:=bu0_13.c1
    have bcq0_13:=bu0_13.c2
    go_wp2
    go_ret
    exact⟨_,rfl,hb13,fe13⟩
   obtain⟨o10a,o10b,o10c,o10d,o10e⟩:=run_ok hT (nt:=.block 0) (ns:=n5) h5.ti trivial hr
   simp only[consN,slack] at o10a o10d
   obtain⟨m10,rfl,hm10⟩:=o10e rfl
   have C10:=H f (.block 0) _ _ w5 _ _ (by omega) h5 trivial (by have:=B5.out;omega) hr
   simp only[RCtr,ptr] at C10
   have HP:Hid (_=some r):=hP
   have B10:Hid (n10.length+1≤2*j10+0∧i<j10∧m10<n10.length):=by have:=B5.out;unfold Hid;omega
   have q10:=o10b
   clear hP hr o10a o10b o10c o10d o10e hm10
   go_wp2_with fail
   refine C10.mono ?_
   rintro e w10 ⟨he,F10,h10,s10⟩
   obtain rfl:e = .returned (.int .i64 (m10:Nat)):=he
   clear C10
   have f10:=s10.f
   have t10:=t5.trans s10
   have u0_10:=u0_5.fr f10 ni0_5
   have ni0_10:=Tr.notin s10 ni0_5 u0_5.lt
   have hP:=HP.out
   obtain _ | f:=f
   ·simp[P,bindR] at hP
   simp only[P] at hP
   have HP:Hid (_=some r):=hP
   clear hP
   by_cases e14:nx ts (j10) = [101,108,115,101]
   ·have q14:=hT.more q10 (show nx ts (j10)≠[] by rw[e14];decide)
    have C14:=rtake_yes h10 K [101,108,115,101] (by unfold Sg;decide) e14 q14
    have hP:=HP.out
    rw[if_pos e14] at hP
    have HP:Hid (_=some r):=hP
    clear hP
    clear e14
    go_wp2_with fail
    refine C14.mono ?_
    rintro e w14 ⟨rfl,h14,f14⟩
    clear C14
    have s14:=Tr.of f14
    have t14:=t10.trans s14
    have u0_14:=u0_10.fr f14 ni0_10
    have ni0_14:=Tr.notin s14 ni0_10 u0_10.lt
    have h14:RS ts B rb F10 (j10+1) n10 w14:=h14
    have q14:j10+1<ts.length:=q14
    rcases bindR_some HP.out with ⟨er,hr,he⟩ | ⟨v15,j15,n15,hr,hP⟩
    ·subst he
     have C15:=H f (.block 0) _ _ w14 _ _ (by omega) h14 trivial (by have:=B10.out;omega) hr
     simp only[RCtr,ptr] at C15
     go_wp2_with fail
     refine C15.mono ?_
     rintro e w15 ⟨x15,rfl,hb15,f15⟩
     clear C15
     have fe15:=t14.ends f15
     have bu0_15:=u0_14.fr f15 ni0_14
     have bcp0_15:=bu0_15.c1
     have bcq0_15:=bu0_15.c2
     go_wp2_with fail
     refine (rnode_bad (ts:=ts) (rb:=rb) (p:=_) (by first | exact hb15 | exact hb15.fr ((Fr.refl _ _).alloc _)) _ _ _ _).mono ?_
     rintro e w16 ⟨rfl,f16⟩
     have f16:Fr [] w15 w16:=by first | exact f16 | exact ((Fr.refl [] _).alloc _).trans f16
     have hb16:=hb15.fr f16
     have fe16:=fe15.trans (f16.sub (by simp))
     have bu0_16:=bu0_15.fr f16 (by simp)
     have bcp0_16:=bu0_16.c1
     have bcq0_16:=bu0_16.c2
     go_wp2
     go_ret
     exact⟨_,rfl,hb16,fe16⟩
    obtain⟨o15a,o15b,o15c,o15d,o15e⟩:=run_ok hT (nt:=.block 0) (ns:=n10) h14.ti trivial hr
    simp only[consN,slack] at o15a o15d
    obtain⟨m15,rfl,hm15⟩:=o15e rfl
    have C15:=H f (.block 0) _ _ w14 _ _ (by omega) h14 trivial (by have:=B10.out;omega) hr
    simp only[RCtr,ptr] at C15
    have HP:Hid (_=some r):=hP
    have B15:Hid (n15.length+3≤2*j15+0∧i<j15∧m15<n15.length):=by have:=B10.out;unfold Hid;omega
    have q15:=o15b
    clear hP hr o15a o15b o15c o15d o15e hm15
    go_wp2_with fail
    refine C15.mono ?_
    rintro e w15 ⟨he,F15,h15,s15⟩
    obtain rfl:e = .returned (.int .i64 (m15:Nat)):=he
    clear C15
    have f15:=s15.f
    have t15:=t14.trans s15
    have u0_15:=u0_14.fr f15 ni0_14
    have ni0_15:=Tr.notin s15 ni0_14 u0_14.lt
    have hP:=HP.out
    cases hP
    have a0_0:=u0_15.c0
    have a0_1:=u0_15.c1
    have a0_2:=u0_15.c2
    have a0_3:=u0_15.c3
    have a0_4:=u0_15.c4
    have gb:Fr [] w15 (w15.alloc (.cells #[.int .i64 (m5:Nat),.int .i64 (m10:Nat),.int .i64 (m15:Nat)] 3)):=(Fr.refl _ _).alloc _
    have ob:ON (w15.alloc (.cells #[.int .i64 (m5:Nat),.int .i64 (m10:Nat),.int .i64 (m15:Nat)] 3)) B (.slice (some ⟨w15.heap.size,0,none⟩) 3 3) [m5,m10,m15]:=ON.built w15 B (by have:=h15.fb rb h15.pf;omega) [m5,m10,m15] (by simp)
    have KV0:=ON.kv ob
    have LO:∀ k∈(Value.slice (some ⟨w15.heap.size,0,none⟩) 3 3).ownBlock.toList,w.heap.size≤k:=fun k hk=>by rw[own_mem hk];exact t15.f.size
    have hbb:=h15.fr gb (by simp)
    have tbb:=t15.trans (Tr.of0 gb)
    have CL:=rnode_any hbb KV0 7 [] (tk ts (i)).frm (by have:=B15.out;have:=HTL.out;have:=q15;omega)
    go_wp2_with fail
    refine CL.mono ?_
    rintro e wz ⟨rfl,Fz,hz,fz,sz⟩
    have tz:Tr F w Fz wz:=lay_tr tbb fz sz LO
    go_wp2
    go_ret
    exact⟨rfl,Fz,hz,tz⟩
   ·have C14:=rtake_no h10 K [101,108,115,101] (by unfold Sg;decide) e14
    have hP:=HP.out
    rw[if_neg e14] at hP
    have HP:Hid (_=some r):=hP
    clear hP
    clear e14
    go_wp2_with fail
    refine C14.mono ?_
    rintro e w14 ⟨rfl,f14⟩
    clear C14
    have h14:=h10.fr f14 (by simp)
    have t14:=t10.trans (Tr.of0 f14)
    have u0_14:=u0_10.fr f14 (by simp)
    have hP:=HP.out
    rw[bindR_lay] at hP
    have HP:Hid (_=some r):=hP
    clear hP
    have a0_0:=u0_14.c0
    have a0_1:=u0_14.c1
    have a0_2:=u0_14.c2
    have a0_3:=u0_14.c3
    have a0_4:=u0_14.c4
    have KV0:=KV.nil B w14
    have LO:∀ k∈([] : List Nat),w.heap.size≤k:=by simp
    have CL:=rnode_any h14 KV0 14 [] 0 (by have:=B10.out;have:=HTL.out;have:=q10;omega)
    go_wp2_with fail
    refine CL.mono ?_
    rintro e wz ⟨rfl,Fz,hz,fz,sz⟩
    have tz:Tr F w Fz wz:=lay_tr t14 fz sz LO
    have s15:Tr F10 w14 Fz wz:=lay_tr (Tr.refl _ _) fz sz (by simp)
    clear CL KV0 LO tz
    have f15:=s15.f
    have t15:=t14.trans s15
    have h15:=hz
    clear hz fz sz
    have u0_15:=u0_14.fr f15 ni0_10
    have ni0_15:=Tr.notin s15 ni0_10 u0_14.lt
    have hP:=HP.out
    cases hP
    have a0_0:=u0_15.c0
    have a0_1:=u0_15.c1
    have a0_2:=u0_15.c2
    have a0_3:=u0_15.c3
    have a0_4:=u0_15.c4
    have gb:Fr [] wz (wz.alloc (.cells #[.int .i64 (m5:Nat),.int .i64 (m10:Nat),.int .i64 (n10.length:Nat)] 3)):=(Fr.refl _ _).alloc _
    have ob:ON (wz.alloc (.cells #[.int .i64 (m5:Nat),.int .i64 (m10:Nat),.int .i64 (n10.length:Nat)] 3)) B (.slice (some ⟨wz.heap.size,0,none⟩) 3 3) [m5,m10,n10.length]:=ON.built wz B (by have:=h15.fb rb h15.pf;omega) [m5,m10,n10.length] (by simp)
    have KV0:=ON.kv ob
    have LO:∀ k∈(Value.slice (some ⟨wz.heap.size,0,none⟩) 3 3).ownBlock.toList,w.heap.size≤k:=fun k hk=>by rw[own_mem hk];exact t15.f.size
    have hbb:=h15.fr gb (by simp)
    have tbb:=t15.trans (Tr.of0 gb)
    have CL:=rnode_any hbb KV0 7 [] (tk ts (i)).frm (by have:=And.intro B10.out (show ((n10++[(⟨14,[],[],0⟩ : PN)])).length=n10.length+1 by simp);have:=HTL.out;have:=q10;omega)
    go_wp2_with fail
    refine CL.mono ?_
    rintro e wz ⟨rfl,Fz,hz,fz,sz⟩
    have tz:Tr F w Fz wz:=lay_tr tbb fz sz LO
    go_wp2
    go_ret
    exact⟨by simp[hd],Fz,hz,tz⟩
  ·have C4:=rtake_no h3 K [105,102] (by unfold Sg;decide) e4
   have E4:Hid (¬ nx ts (i) = [105,102]):=e4
   clear e4
   go_wp2_with fail
   refine C4.mono ?_
   rintro e w4 ⟨rfl,f4⟩
   clear C4
   have h4:=h3.fr f4 (by simp)
   have t4:=t3.trans (Tr.of0 f4)
   have u0_4:=u0_3.fr f4 (by simp)
   by_cases e5:nx ts (i) = [119,104,105,108,101]
   ·have q5:=hT.more hi (show nx ts (i)≠[] by rw[e5];decide)
    have C5:=rtake_yes h4 K [119,104,105,108,101] (by unfold Sg;decide) e5 q5
    have E5:Hid (nx ts (i) = [119,104,105,108,101]):=e5
    clear e5
    go_wp2_with fail
    refine C5.mono ?_
    rintro e w5 ⟨rfl,h5,f5⟩
    clear C5
    have s5:=Tr.of f5
    have t5:=t4.trans s5
    have u0_5:=u0_4.fr f5 ni2
    have ni0_5:=Tr.notin s5 ni2 u0_4.lt
    have h5:RS ts B rb F (i+1) ns w5:=h5
    have q5:i+1<ts.length:=q5
    have hP:=HP.out
    rw[E5.out,show stmtNT [119,104,105,108,101]=some (.whileS) from rfl] at hP
    clear HP E5
    obtain _ | f:=f
    ·simp[P] at hP
    simp only[P] at hP
    have HP:Hid (_=some r):=hP
    clear hP
    rcases bindR_some HP.out with ⟨er,hr,he⟩ | ⟨v6,j6,n6,hr,hP⟩
    ·subst he
     have C6:=H f (.expr) _ _ w5 _ _ (by omega) h5 trivial (by have:=HN.out;omega) hr
     simp only[RCtr,ptr] at C6
     go_wp2_with fail
     refine C6.mono ?_
     rintro e w6 ⟨x6,rfl,hb6,f6⟩
     clear C6
     have fe6:=t5.ends f6
     have bu0_6:=u0_5.fr f6 ni0_5
     have bcp0_6:=bu0_6.c1
     have bcq0_6:=bu0_6.c2
     go_wp2_with fail
     refine (rblock_bad hb6).mono ?_
     rintro e w7 ⟨rfl,f7⟩
     have hb7:=hb6.fr f7
     have fe7:=fe6.trans (f7.sub (by simp))
     have bu0_7:=bu0_6.fr f7 (by simp)
     have bcp0_7:=bu0_7.c1
     have bcq0_7:=bu0_7.c2
     go_wp2_with fail
     refine (rnode_bad (ts:=ts) (rb:=rb) (p:=_) (by first | exact hb7 | exact hb7.fr ((Fr.refl _ _).alloc _)) _ _ _ _).mono ?_
     rintro e w8 ⟨rfl,f8⟩
     have f8:Fr [] w7 w8:=by first | exact f8 | exact ((Fr.refl [] _).alloc _).trans f8
     have hb8:=hb7.fr f8
     have fe8:=fe7.trans (f8.sub (by simp))
     have bu0_8:=bu0_7.fr f8 (by simp)
     have bcp0_8:=bu0_8.c1
     have bcq0_8:=bu0_8.c2
     go_wp2
     go_ret
     exact⟨_,rfl,hb8,fe8⟩
    obtain⟨o6a,o6b,o6c,o6d,o6e⟩:=run_ok hT (nt:=.expr) (ns:=ns) h5.ti trivial hr
    simp only[consN,slack] at o6a o6d
    obtain⟨m6,rfl,hm6⟩:=o6e rfl
    have C6:=H f (.expr) _ _ w5 _ _ (by omega) h5 trivial (by have:=HN.out;omega) hr
    simp only[RCtr,ptr] at C6
    have HP:Hid (_=some r):=hP
    have B6:Hid (n6.length+1≤2*j6+0∧i<j6∧m6<n6.length):=by have:=HN.out;unfold Hid;omega
    have q6:=o6b
    clear hP hr o6a o6b o6c o6d o6e hm6
    go_wp2_with fail
    refine C6.mono ?_
    rintro e w6 ⟨he,F6,h6,s6⟩
    obtain rfl:e = .returned (.int .i64 (m6:Nat)):=he
    clear C6
    have f6:=s6.f
    have t6:=t5.trans s6
    have u0_6:=u0_5.fr f6 ni0_5
    have ni0_6:=Tr.notin s6 ni0_5 u0_5.lt
    rcases bindR_some HP.out with ⟨er,hr,he⟩ | ⟨v9,j9,n9,hr,hP⟩
    ·subst he
     have C9:=H f (.block 0) _ _ w6 _ _ (by omega) h6 trivial (by have:=B6.out;omega) hr
     simp only[RCtr,ptr] at C9
     go_wp2_with fail
     refine C9.mono ?_
     rintro e w9 ⟨x9,rfl,hb9,f9⟩
     clear C9
     have fe9:=t6.ends f9
     have bu0_9:=u0_6.fr f9 ni0_6
     have bcp0_9:=bu0_9.c1
     have bcq0_9:=bu0_9.c2
     go_wp2_with fail
     refine (rnode_bad (ts:=ts) (rb:=rb) (p:=_) (by first | exact hb9 | exact hb9.fr ((Fr.refl _ _).alloc _)) _ _ _ _).mono ?_
     rintro e w10 ⟨rfl,f10⟩
     have f10:Fr [] w9 w10:=by first | exact f10 | exact ((Fr.refl [] _).alloc _).trans f10
     have hb10:=hb9.fr f10
     have fe10:=fe9.trans (f10.sub (by simp))
     have bu0_10:=bu0_9.fr f10 (by simp)
     have bcp0_10:=bu0_10.c1
     have bcq0_10:=bu0_10.c2
     go_wp2
     go_ret
     exact⟨_,rfl,hb10,fe10⟩
    obtain⟨o9a,o9b,o9c,o9d,o9e⟩:=run_ok hT (nt:=.block 0) (ns:=n6) h6.ti trivial hr
    simp only[consN,slack] at o9a o9d
    obtain⟨m9,rfl,hm9⟩:=o9e rfl
    have C9:=H f (.block 0) _ _ w6 _ _ (by omega) h6 trivial (by have:=B6.out;omega) hr
    simp only[RCtr,ptr] at C9
    have HP:Hid (_=some r):=hP
    have B9:Hid (n9.length+1≤2*j9+0∧i<j9∧m9<n9.length):=by have:=B6.out;unfold Hid;omega
    have q9:=o9b
    clear hP hr o9a o9b o9c o9d o9e hm9
    go_wp2_with fail
    refine C9.mono ?_
    rintro e w9 ⟨he,F9,h9,s9⟩
    obtain rfl:e = .returned (.int .i64 (m9:Nat)):=he
    clear C9
    have f9:=s9.f
    have t9:=t6.trans s9
    have u0_9:=u0_6.fr f9 ni0_6
    have ni0_9:=Tr.notin s9 ni0_6 u0_6.lt
    have hP:=HP.out
    cases hP
    have a0_0:=u0_9.c0
    have a0_1:=u0_9.c1
    have a0_2:=u0_9.c2
    have a0_3:=u0_9.c3
    have a0_4:=u0_9.c4
    have gb:Fr [] w9 (w9.alloc (.cells #[.int .i64 (m6:Nat),.int .i64 (m9:Nat)] 3)):=(Fr.refl _ _).alloc _
    have ob:ON (w9.alloc (.cells #[.int .i64 (m6:Nat),.int .i64 (m9:Nat)] 3)) B (.slice (some ⟨w9.heap.size,0,none⟩) 2 2) [m6,m9]:=ON.built w9 B (by have:=h9.fb rb h9.pf;omega) [m6,m9] (by simp)
    have KV0:=ON.kv ob
    have LO:∀ k∈(Value.slice (some ⟨w9.heap.size,0,none⟩) 2 2).ownBlock.toList,w.heap.size≤k:=fun k hk=>by rw[own_mem hk];exact t9.f.size
    have hbb:=h9.fr gb (by simp)
    have tbb:=t9.trans (Tr.of0 gb)
    have CL:=rnode_any hbb KV0 8 [] (tk ts (i)).frm (by have:=B9.out;have:=HTL.out;have:=q9;omega)
    go_wp2_with fail
    refine CL.mono ?_
    rintro e wz ⟨rfl,Fz,hz,fz,sz⟩
    have tz:Tr F w Fz wz:=lay_tr tbb fz sz LO
    go_wp2
    go_ret
    exact⟨rfl,Fz,hz,tz⟩
   ·have C5:=rtake_no h4 K [119,104,105,108,101] (by unfold Sg;decide) e5
    have E5:Hid (¬ nx ts (i) = [119,104,105,108,101]):=e5
    clear e5
    go_wp2_with fail
    refine C5.mono ?_
    rintro e w5 ⟨rfl,f5⟩
    clear C5
    have h5:=h4.fr f5 (by simp)
    have t5:=t4.trans (Tr.of0 f5)
    have u0_5:=u0_4.fr f5 (by simp)
    by_cases e6:nx ts (i) = [114,101,116,117,114,110]
    ·have q6:=hT.more hi (show nx ts (i)≠[] by rw[e6];decide)
     have C6:=rtake_yes h5 K [114,101,116,117,114,110] (by unfold Sg;decide) e6 q6
     have E6:Hid (nx ts (i) = [114,101,116,117,114,110]):=e6
     clear e6
     go_wp2_with fail
     refine C6.mono ?_
     rintro e w6 ⟨rfl,h6,f6⟩
     clear C6
     have s6:=Tr.of f6
     have t6:=t5.trans s6
     have u0_6:=u0_5.fr f6 ni2
     have ni0_6:=Tr.notin s6 ni2 u0_5.lt
     have h6:RS ts B rb F (i+1) ns w6:=h6
     have q6:i+1<ts.length:=q6
     have hP:=HP.out
     rw[E6.out,show stmtNT [114,101,116,117,114,110]=some (.worded 9) from rfl] at hP
     clear HP E6
     obtain _ | f:=f
     ·simp[P] at hP
     simp only[P] at hP
     have HP:Hid (_=some r):=hP
     clear hP
     have a0_0:=u0_6.c0
     have a0_1:=u0_6.c1
     have a0_2:=u0_6.c2
     have a0_3:=u0_6.c3
     have a0_4:=u0_6.c4
     have C7:=r_valued hT K (kind:=9) (pl:=(tk ts (i)).frm) (H.less (g:=f) (by omega)) h6 (by have:=HN.out;omega) HP.out
     rcases r with er | ⟨v7,j7,n7⟩
     ·go_wp2_with fail
      refine C7.mono ?_
      rintro e w7 ⟨x7,rfl,hb7,f7⟩
      go_wp2
      go_ret
      exact⟨_,rfl,hb7,t6.ends f7⟩
     ·go_wp2_with fail
      refine C7.mono ?_
      rintro e w7 ⟨he,F7,h7,s7⟩
      obtain rfl:e = .returned (.int .i64 (hd v7:Nat)):=he
      go_wp2
      go_ret
      exact⟨rfl,F7,h7,t6.trans s7⟩
    ·have C6:=rtake_no h5 K [114,101,116,117,114,110] (by unfold Sg;decide) e6
     have E6:Hid (¬ nx ts (i) = [114,101,116,117,114,110]):=e6
     clear e6
     go_wp2_with fail
     refine C6.mono ?_
     rintro e w6 ⟨rfl,f6⟩
     clear C6
     have h6:=h5.fr f6 (by simp)
     have t6:=t5.trans (Tr.of0 f6)
     have u0_6:=u0_5.fr f6 (by simp)
     by_cases e7:nx ts (i) = [111,117,116]
     ·have q7:=hT.more hi (show nx ts (i)≠[] by rw[e7];decide)
      have C7:=rtake_yes h6 K [111,117,116] (by unfold Sg;decide) e7 q7
      have E7:Hid (nx ts (i) = [111,117,116]):=e7
      clear e7
      go_wp2_with fail
      refine C7.mono ?_
      rintro e w7 ⟨rfl,h7,f7⟩
      clear C7
      have s7:=Tr.of f7
      have t7:=t6.trans s7
      have u0_7:=u0_6.fr f7 ni2
      have ni0_7:=Tr.notin s7 ni2 u0_6.lt
      have h7:RS ts B rb F (i+1) ns w7:=h7
      have q7:i+1<ts.length:=q7
      have hP:=HP.out
      rw[E7.out,show stmtNT [111,117,116]=some (.worded 10) from rfl] at hP
      clear HP E7
      obtain _ | f:=f
      ·simp[P] at hP
      simp only[P] at hP
      have HP:Hid (_=some r):=hP
      clear hP
      have a0_0:=u0_7.c0
      have a0_1:=u0_7.c1
      have a0_2:=u0_7.c2
      have a0_3:=u0_7.c3
      have a0_4:=u0_7.c4
      have C8:=r_valued hT K (kind:=10) (pl:=(tk ts (i)).frm) (H.less (g:=f) (by omega)) h7 (by have:=HN.out;omega) HP.out
      rcases r with er | ⟨v8,j8,n8⟩
      ·go_wp2_with fail
       refine C8.mono ?_
       rintro e w8 ⟨x8,rfl,hb8,f8⟩
       go_wp2
       go_ret
       exact⟨_,rfl,hb8,t7.ends f8⟩
      ·go_wp2_with fail
       refine C8.mono ?_
       rintro e w8 ⟨he,F8,h8,s8⟩
       obtain rfl:e = .returned (.int .i64 (hd v8:Nat)):=he
       go_wp2
       go_ret
       exact⟨rfl,F8,h8,t7.trans s8⟩
     ·have C7:=rtake_no h6 K [111,117,116] (by unfold Sg;decide) e7
      have E7:Hid (¬ nx ts (i) = [111,117,116]):=e7
      clear e7
      go_wp2_with fail
      refine C7.mono ?_
      rintro e w7 ⟨rfl,f7⟩
      clear C7
      have h7:=h6.fr f7 (by simp)
      have t7:=t6.trans (Tr.of0 f7)
      have u0_7:=u0_6.fr f7 (by simp)
      by_cases e8:nx ts (i) = [115,116,111,112]
      ·have q8:=hT.more hi (show nx ts (i)≠[] by rw[e8];decide)
       have C8:=rtake_yes h7 K [115,116,111,112] (by unfold Sg;decide) e8 q8
       have E8:Hid (nx ts (i) = [115,116,111,112]):=e8
       clear e8
       go_wp2_with fail
       refine C8.mono ?_
       rintro e w8 ⟨rfl,h8,f8⟩
       clear C8
       have s8:=Tr.of f8
       have t8:=t7.trans s8
       have u0_8:=u0_7.fr f8 ni2
       have ni0_8:=Tr.notin s8 ni2 u0_7.lt
       have h8:RS ts B rb F (i+1) ns w8:=h8
       have q8:i+1<ts.length:=q8
       have hP:=HP.out
       rw[E8.out,show stmtNT [115,116,111,112]=some (.worded 11) from rfl] at hP
       clear HP E8
       obtain _ | f:=f
       ·simp[P] at hP
       simp only[P] at hP
       have HP:Hid (_=some r):=hP
       clear hP
       have a0_0:=u0_8.c0
       have a0_1:=u0_8.c1
       have a0_2:=u0_8.c2
       have a0_3:=u0_8.c3
       have a0_4:=u0_8.c4
       have C9:=r_valued hT K (kind:=11) (pl:=(tk ts (i)).frm) (H.less (g:=f) (by omega)) h8 (by have:=HN.out;omega) HP.out
       rcases r with er | ⟨v9,j9,n9⟩
       ·go_wp2_with fail
        refine C9.mono ?_
        rintro e w9 ⟨x9,rfl,hb9,f9⟩
        go_wp2
        go_ret
        exact⟨_,rfl,hb9,t8.ends f9⟩
       ·go_wp2_with fail
        refine C9.mono ?_
        rintro e w9 ⟨he,F9,h9,s9⟩
        obtain rfl:e = .returned (.int .i64 (hd v9:Nat)):=he
        go_wp2
        go_ret
        exact⟨rfl,F9,h9,t8.trans s9⟩
      ·have C8:=rtake_no h7 K [115,116,111,112] (by unfold Sg;decide) e8
       have E8:Hid (¬ nx ts (i) = [115,116,111,112]):=e8
       clear e8
       go_wp2_with fail
       refine C8.mono ?_
       rintro e w8 ⟨rfl,f8⟩
       clear C8
       have h8:=h7.fr f8 (by simp)
       have t8:=t7.trans (Tr.of0 f8)
       have u0_8:=u0_7.fr f8 (by simp)
       by_cases e9:nx ts (i) = [109,101,114,103,101]
       ·have q9:=hT.more hi (show nx ts (i)≠[] by rw[e9];decide)
        have C9:=rtake_yes h8 K [109,101,114,103,101] (by unfold Sg;decide) e9 q9
        have E9:Hid (nx ts (i) = [109,101,114,103,101]):=e9
        clear e9
        go_wp2_with fail
        refine C9.mono ?_
        rintro e w9 ⟨rfl,h9,f9⟩
        clear C9
        have s9:=Tr.of f9
        have t9:=t8.trans s9
        have u0_9:=u0_8.fr f9 ni2
        have ni0_9:=Tr.notin s9 ni2 u0_8.lt
        have h9:RS ts B rb F (i+1) ns w9:=h9
        have q9:i+1<ts.length:=q9
        have hP:=HP.out
        rw[E9.out,show stmtNT [109,101,114,103,101]=some (.merge) from rfl] at hP
        clear HP E9
        obtain _ | f:=f
        ·simp[P] at hP
        simp only[P] at hP
        have HP:Hid (_=some r):=hP
        clear hP
        by_cases e10:nx ts (i+1) = [40]
        rotate_left
        ·have hP:=HP.out
         rw[wantR_no e10] at hP
         have C10:=rwant_no h9 K [40] (by unfold Sg;decide) e10
         cases hP
         go_wp2_with fail
         refine C10.mono ?_
         rintro e w10 ⟨rfl,hb10,f10⟩
         clear C10
         have fe10:=t9.ends f10
         have bu0_10:=u0_9.fr f10 ni0_9
         have bcp0_10:=bu0_10.c1
         have bcq0_10:=bu0_10.c2
         go_wp2_with fail
         refine (rnames_bad hb10 [41]).mono ?_
         rintro e w11 ⟨rfl,f11⟩
         have hb11:=hb10.fr f11
         have fe11:=fe10.trans (f11.sub (by simp))
         have bu0_11:=bu0_10.fr f11 (by simp)
         have bcp0_11:=bu0_11.c1
         have bcq0_11:=bu0_11.c2
         go_wp2_with fail
         refine (rwant_bad hb11 [59]).mono ?_
         rintro e w12 ⟨rfl,f12⟩
         have hb12:=hb11.fr f12
         have fe12:=fe11.trans (f12.sub (by simp))
         have bu0_12:=bu0_11.fr f12 (by simp)
         have bcp0_12:=bu0_12.c1
         have bcq0_12:=bu0_12.c2
         go_wp2_with fail
         refine (rnode_bad (ts:=ts) (rb:=rb) (p:=_) (by first | exact hb12 | exact hb12.fr ((Fr.refl _ _).alloc _)) _ _ _ _).mono ?_
         rintro e w13 ⟨rfl,f13⟩
         have f13:Fr [] w12 w13:=by first | exact f13 | exact ((Fr.refl [] _).alloc _).trans f13
         have hb13:=hb12.fr f13
         have fe13:=fe12.trans (f13.sub (by simp))
         have bu0_13:=bu0_12.fr f13 (by simp)
         have bcp0_13:=bu0_13.c1
         have bcq0_13:=bu0_13.c2
         go_wp2
         go_ret
         exact⟨_,rfl,hb13,fe13⟩
        have q10:=hT.more q9 (show nx ts (i+1)≠[] by rw[e10];decide)
        have hP:=HP.out
        rw[wantR_yes e10] at hP
        have HP:Hid (_=some r):=hP
        clear hP
        have C10:=rwant_yes h9 K [40] (by unfold Sg;decide) e10 q10
        clear e10
        go_wp2_with fail
        refine C10.mono ?_
        rintro e w10 ⟨rfl,h10,f10⟩
        clear C10
        have s10:=Tr.of f10
        have t10:=t9.trans s10
        have u0_10:=u0_9.fr f10 ni0_9
        have ni0_10:=Tr.notin s10 ni0_9 u0_9.lt
        have h10:RS ts B rb F (i+2) ns w10:=h10
        have q10:i+2<ts.length:=q10
        rcases bindR_some HP.out with ⟨er,hr,he⟩ | ⟨v14,j14,n14,hr,hP⟩
        ·subst he
         have C14:=H f (.listed false [41]) _ _ w10 _ _ (by omega) h10 (by simp[preN]) (by have:=HN.out;omega) hr
         simp only[RCtr,ptr] at C14
         replace C14:=C14 (by unfold Sg;decide) (by decide)
         go_wp2_with fail
         refine C14.mono ?_
         rintro e w14 ⟨rfl,hb14,f14⟩
         clear C14
         have fe14:=t10.ends f14
         have bu0_14:=u0_10.fr f14 ni0_10
         have bcp0_14:=bu0_14.c1
         have bcq0_14:=bu0_14.c2
         go_wp2_with fail
         refine (rwant_bad hb14 [59]).mono ?_
         rintro e w15 ⟨rfl,f15⟩
         have hb15:=hb14.fr f15
         have fe15:=fe14.trans (f15.sub (by simp))
         have bu0_15:=bu0_14.fr f15 (by simp)
         have bcp0_15:=bu0_15.c1
         have bcq0_15:=bu0_15.c2
         go_wp2_with fail
         refine (rnode_bad (ts:=ts) (rb:=rb) (p:=_) (by first | exact hb15 | exact hb15.fr ((Fr.refl _ _).alloc _)) _ _ _ _).mono ?_
         rintro e w16 ⟨rfl,f16⟩
         have f16:Fr [] w15 w16:=by first | exact f16 | exact ((Fr.refl [] _).alloc _).trans f16
         have hb16:=hb15.fr f16
         have fe16:=fe15.trans (f16.sub (by simp))
         have bu0_16:=bu0_15.fr f16 (by simp)
         have bcp0_16:=bu0_16.c1
         have bcq0_16:=bu0_16.c2
         go_wp2
         go_ret
         exact⟨_,rfl,hb16,fe16⟩
        obtain⟨o14a,o14b,o14c,o14d,_⟩:=run_ok hT (nt:=.listed false [41]) (ns:=ns) h10.ti (by simp[preN]) hr
        simp only[consN,slack] at o14a o14d
        have C14:=H f (.listed false [41]) _ _ w10 _ _ (by omega) h10 (by simp[preN]) (by have:=HN.out;omega) hr
        simp only[RCtr,ptr] at C14
        replace C14:=C14 (by unfold Sg;decide) (by decide)
        have HP:Hid (_=some r):=hP
        have B14:Hid (n14.length+3≤2*j14+0∧i<j14):=by have:=HN.out;unfold Hid;omega
        have q14:=o14b
        clear hP hr o14a o14b o14c o14d
        go_wp2_with fail
        refine C14.mono ?_
        rintro e w14 ⟨x14,F14,rfl,o14,y14,h14,s14⟩
        clear C14
        have f14:=s14.f
        have z14:Hid (∀ k,(x14:Value).ownBlock=some k→w.heap.size≤k):=fun k hk=>Nat.le_trans t10.f.size (y14 k hk).2
        have ny14:∀ k,(x14:Value).ownBlock=some k→k∉F14:=fun k hk=>(y14 k hk).1
        clear y14
        have t14:=t10.trans s14
        have u0_14:=u0_10.fr f14 ni0_10
        have ni0_14:=Tr.notin s14 ni0_10 u0_10.lt
        by_cases e17:nx ts (j14) = [59]
        rotate_left
        ·have hP:=HP.out
         rw[wantR_no e17] at hP
         have C17:=rwant_no h14 K [59] (by unfold Sg;decide) e17
         cases hP
         go_wp2_with fail
         refine C17.mono ?_
         rintro e w17 ⟨rfl,hb17,f17⟩
         clear C17
         have fe17:=t14.ends f17
         have bu0_17:=u0_14.fr f17 ni0_14
         have bcp0_17:=bu0_17.c1
         have bcq0_17:=bu0_17.c2
         go_wp2_with fail
         refine (rnode_bad (ts:=ts) (rb:=rb) (p:=_) (by first | exact hb17 | exact hb17.fr ((Fr.refl _ _).alloc _)) _ _ _ _).mono ?_
         rintro e w18 ⟨rfl,f18⟩
         have f18:Fr [] w17 w18:=by first | exact f18 | exact ((Fr.refl [] _).alloc _).trans f18
         have hb18:=hb17.fr f18
         have fe18:=fe17.trans (f18.sub (by simp))
         have bu0_18:=bu0_17.fr f18 (by simp)
         have bcp0_18:=bu0_18.c1
         have bcq0_18:=bu0_18.c2
         go_wp2
         go_ret
         exact⟨_,rfl,hb18,fe18⟩
        have q17:=hT.more q14 (show nx ts (j14)≠[] by rw[e17];decide)
        have hP:=HP.out
        rw[wantR_yes e17] at hP
        have HP:Hid (_=some r):=hP
        clear hP
        have C17:=rwant_yes h14 K [59] (by unfold Sg;decide) e17 q17
        clear e17
        go_wp2_with fail
        refine C17.mono ?_
        rintro e w17 ⟨rfl,h17,f17⟩
        clear C17
        have s17:=Tr.of f17
        have t17:=t14.trans s17
        have u0_17:=u0_14.fr f17 ni0_14
        have ni0_17:=Tr.notin s17 ni0_14 u0_14.lt
        have o0_17:=own_fr o14 f17 (fun k hk=>ny14 k hk)
        have oi0_17:∀ k,(x14).ownBlock=some k→k∉F14:=fun k hk=>Tr.notin s17 (ny14 k hk) (o14.lt k hk).2
        have h17:RS ts B rb F14 (j14+1) n14 w17:=h17
        have q17:j14+1<ts.length:=q17
        have hP:=HP.out
        cases hP
        have a0_0:=u0_17.c0
        have a0_1:=u0_17.c1
        have a0_2:=u0_17.c2
        have a0_3:=u0_17.c3
        have a0_4:=u0_17.c4
        obtain⟨za,zc,hx,_⟩:=own_slice o0_17
        have KV0:=ON.kv o0_17
        have LO:∀ k∈(x14).ownBlock.toList,w.heap.size≤k:=fun k hk=>z14.out k (by simpa using hk)
        subst hx
        have CL:=rnode_any h17 KV0 13 [] (tk ts (i)).frm (by have:=B14.out;have:=HTL.out;have:=q17;omega)
        go_wp2_with fail
        refine CL.mono ?_
        rintro e wz ⟨rfl,Fz,hz,fz,sz⟩
        have tz:Tr F w Fz wz:=lay_tr t17 fz sz LO
        go_wp2
        go_ret
        exact⟨rfl,Fz,hz,tz⟩
       ·have C9:=rtake_no h8 K [109,101,114,103,101] (by unfold Sg;decide) e9
        have E9:Hid (¬ nx ts (i) = [109,101,114,103,101]):=e9
        clear e9
        go_wp2_with fail
        refine C9.mono ?_
        rintro e w9 ⟨rfl,f9⟩
        clear C9
        have h9:=h8.fr f9 (by simp)
        have t9:=t8.trans (Tr.of0 f9)
        have u0_9:=u0_8.fr f9 (by simp)
        have hP:=HP.out
        rw[show stmtNT (nx ts i)=none by unfold stmtNT;rw[if_neg E3.out,if_neg E4.out,if_neg E5.out,if_neg E6.out,if_neg E7.out,if_neg E8.out,if_neg E9.out]] at hP
        have HP:Hid (_=some r):=hP
        clear hP E3 E4 E5 E6 E7 E8 E9
        rcases r with er | ⟨v10,j10,n10⟩
        ·have C10:=H f (.setOrDo) _ _ w9 _ _ (Nat.le_refl _) h9 trivial (by have:=HN.out;omega) HP.out
         simp only[RCtr,ptr] at C10
         go_wp2_with fail
         refine C10.mono ?_
         rintro e w10 ⟨x10,rfl,hb10,f10⟩
         go_wp2
         go_ret
         exact⟨_,rfl,hb10,t9.ends f10⟩
        ·obtain⟨_,_,_,_,oe⟩:=run_ok hT (nt:=.setOrDo) (ns:=ns) h9.ti trivial HP.out
         obtain⟨m10,rfl,hm10⟩:=oe rfl
         have C10:=H f (.setOrDo) _ _ w9 _ _ (Nat.le_refl _) h9 trivial (by have:=HN.out;omega) HP.out
         simp only[RCtr,ptr] at C10
         go_wp2_with fail
         refine C10.mono ?_
         rintro e w10 ⟨he,F10,h10,s10⟩
         obtain rfl:e = .returned (.int .i64 (m10:Nat)):=he
         go_wp2
         go_ret
         exact⟨rfl,F10,h10,t9.trans s10⟩
set_option maxHeartbeats 4000000 in
theorem r_first {ts:List Tok} {B rb:Nat} (hT:Toks ts) (K:KT ts) {f i:Nat} {ns:List PN} {w:World} {F:List Nat} {r:Except Nat (List Nat×Nat×List PN)} (H:RHyp ts B rb f) (h0:RS ts B rb F i ns w) (hn:ns.length≤2*i+1) (hP:P ts (f+1) .first i ns=some r) : RCtr ts B rb F w r .first:=by
 have hi:=h0.ti
 have HTL:Hid (ts.length≤200001):=h0.tl
 simp only[P] at hP
 have HP:Hid (_=some r):=hP
 clear hP
 simp only[RCtr,ptr]
 have t0:=Tr.refl F w
 have HN:Hid (ns.length≤2*i+1):=hn
 clear hn
 have C1:=h0.now
 unfold tokA at C1
 go_enter Tryz.func198,Tryz.ntmps198
 go_wp2_with fail
 refine C1.mono ?_
 rintro e w1 ⟨rfl,f1⟩
 clear C1
 have h1:=h0.fr f1 (by simp)
 have t1:=t0.trans (Tr.of0 f1)
 have g2:Fr [] w1 (w1.alloc (.cells #[.int .i64 ((tk ts (i)).kind:Nat),.string ⟨(tk ts (i)).text.toArray⟩,.int .i64 ((tk ts (i)).frm:Nat),.int .i64 ((tk ts (i)).to:Nat),.int .i64 ((tk ts (i)).n:Nat)] 82)):=(Fr.refl _ _).alloc _
 have v2:=TB.new w1 (.int .i64 ((tk ts (i)).kind:Nat)) (.string ⟨(tk ts (i)).text.toArray⟩) (.int .i64 ((tk ts (i)).frm:Nat)) (.int .i64 ((tk ts (i)).to:Nat)) (.int .i64 ((tk ts (i)).n:Nat))
 have ni2:w1.heap.size∉F:=fun hm=>by have:=(h1.fb _ hm).2;omega
 have h2:=h1.fr g2 (by simp)
 have t2:=t1.trans (Tr.of0 g2)
 have HNM:Hid ((tk ts i).n≤9223372036854775807):=hT.num i
 by_cases en:nx ts (i)=numB
 ·have EN:Hid (nx ts i=numB):=en
  have HNE:Hid (nx ts i≠[]):=by unfold Hid;rw[en];decide
  have k4:=(K.num hi).1 en
  have hk4:((((tk ts i).kind:Nat) : Int) == 4)=true:=by simp;omega
  clear en k4
  have hP:=HP.out
  rw[EN.out,show firstNT numB=some (.number) from rfl] at hP
  clear HP EN
  obtain _ | f:=f
  ·simp[P] at hP
  simp only[P] at hP
  have HP:Hid (_=some r):=hP
  clear hP
  have hP:=HP.out
  cases hP
  clear HP
  have a0_0:=v2.c0
  have a0_1:=v2.c1
  have a0_2:=v2.c2
  have a0_3:=v2.c3
  have a0_4:=v2.c4
  have q3:=hT.more hi HNE.out
  obtain⟨_,c1_3,_,c3_3,cz_3⟩:=h2.cells
  have z1_3:=cz_3 1
  clear cz_3
  have hbi3:(i:Int)+1≤200001:=by have:=HTL.out;omega
  have h3:=h2.step q3
  have ei3:((i+1:Nat) : Int)=(i:Int)+1:=by omega
  rw[ei3] at h3
  clear ei3
  have g3:Fr [rb] (w1.alloc (.cells #[.int .i64 ((tk ts (i)).kind:Nat),.string ⟨(tk ts (i)).text.toArray⟩,.int .i64 ((tk ts (i)).frm:Nat),.int .i64 ((tk ts (i)).to:Nat),.int .i64 ((tk ts (i)).n:Nat)] 82)) ((w1.alloc (.cells #[.int .i64 ((tk ts (i)).kind:Nat),.string ⟨(tk ts (i)).text.toArray⟩,.int .i64 ((tk ts (i)).frm:Nat),.int .i64 ((tk ts (i)).to:Nat),.int .i64 ((tk ts (i)).n:Nat)] 82)).setCell ⟨rb,1,none⟩ (.int .i64 ((i:Int)+1))):=Fr.setCell (Fr.refl _ _) (.inl (by simp)) _
  have f3:Fr F (w1.alloc (.cells #[.int .i64 ((tk ts (i)).kind:Nat),.string ⟨(tk ts (i)).text.toArray⟩,.int .i64 ((tk ts (i)).frm:Nat),.int .i64 ((tk ts (i)).to:Nat),.int .i64 ((tk ts (i)).n:Nat)] 82)) ((w1.alloc (.cells #[.int .i64 ((tk ts (i)).kind:Nat),.string ⟨(tk ts (i)).text.toArray⟩,.int .i64 ((tk ts (i)).frm:Nat),.int .i64 ((tk ts (i)).to:Nat),.int .i64 ((tk ts (i)).n:Nat)] 82)).setCell ⟨rb,1,none⟩ (.int .i64 ((i:Int)+1))):=g3.sub (fun k hk=>.inl (by simp at hk;subst hk;exact h2.pf))
  have s3:=Tr.of f3
  have t3:=t2.trans s3
  have u0_3:=v2.fr f3 ni2
  have ni0_3:=Tr.notin s3 ni2 v2.lt
  go_wp2
  have bA:=u0_3
  have r2:∀ w',Fr F ((w1.alloc (.cells #[.int .i64 ((tk ts (i)).kind:Nat),.string ⟨(tk ts (i)).text.toArray⟩,.int .i64 ((tk ts (i)).frm:Nat),.int .i64 ((tk ts (i)).to:Nat),.int .i64 ((tk ts (i)).n:Nat)] 82)).setCell ⟨rb,1,none⟩ (.int .i64 ((i:Int)+1))) w'→w'.cell? ⟨w1.heap.size,2,none⟩=_:=fun w' f=>(u0_3.fr f ni0_3).c2
  have r4:∀ w',Fr F ((w1.alloc (.cells #[.int .i64 ((tk ts (i)).kind:Nat),.string ⟨(tk ts (i)).text.toArray⟩,.int .i64 ((tk ts (i)).frm:Nat),.int .i64 ((tk ts (i)).to:Nat),.int .i64 ((tk ts (i)).n:Nat)] 82)).setCell ⟨rb,1,none⟩ (.int .i64 ((i:Int)+1))) w'→w'.cell? ⟨w1.heap.size,4,none⟩=_:=fun w' f=>(u0_3.fr f ni0_3).c4
  have HLN:Hid (ns.length+1≤1000000):=by have:=HN.out;have:=HTL.out;unfold Hid;omega
  generalize hWA:((w1.alloc (.cells #[.int .i64 ((tk ts (i)).kind:Nat),.string ⟨(tk ts (i)).text.toArray⟩,.int .i64 ((tk ts (i)).frm:Nat),.int .i64 ((tk ts (i)).to:Nat),.int .i64 ((tk ts (i)).n:Nat)] 82)).setCell ⟨rb,1,none⟩ (.int .i64 ((i:Int)+1)))=wA at *
  have fA:Fr F wA wA:=Fr.refl _ _
  clear bA
  go_region_held3 (fun w'=>Fr F wA w') (with_reducible (first | assumption | (refine Fr.drew ?_;assumption)))
   (first
    | (go_at_call 216;refine (rdigits_any _ (tk ts i).n _ (Nat.le_refl _) HNM.out).mono ?_;rintro e w3 ⟨rfl,rfl⟩;have f03:Fr [] wA wA.drew:=((Fr.refl [] wA).drew);have fF3:Fr F wA wA.drew:=f03.sub (by simp))
    | (go_at_call 35;refine (rnode_any (h3.fr f03 (by simp)) (KV.nil B _) 15 (Lib.decDigits (tk ts i).n) (tk ts i).frm HLN.out).mono ?_;rintro e wz ⟨rfl,Fz,hz,fz,sz⟩;have fFz:Fr F wA wz:=(fF3.trans fz)))
  have tz:Tr F w Fz wz:=lay_tr (G:=[]) (t3.trans (Tr.of0 f03)) fz sz (by simp)
  go_wp2
  go_ret
  exact⟨rfl,Fz,hz,tz⟩
 ·have EN:Hid (¬ nx ts i=numB):=en
  have hk4:((((tk ts i).kind:Nat) : Int) == 4)=false:=beq_int_false (by have:=mt (K.num hi).2 en;omega)
  clear en HNM
  obtain⟨_,_,_,c3,_⟩:=h2.cells
  have a0_0:=v2.c0
  have a0_1:=v2.c1
  have a0_2:=v2.c2
  have a0_3:=v2.c3
  have a0_4:=v2.c4
  by_cases em:nx ts (i)=nmB
  ·have EM:Hid (nx ts i=nmB):=em
   have HNE:Hid (nx ts i≠[]):=by unfold Hid;rw[em];decide
   have k1:=(K.name hi).1 em
   have hk1:((((tk ts i).kind:Nat) : Int) == 1)=true:=by simp;omega
   clear em k1
   have hP:=HP.out
   rw[EM.out,show firstNT nmB=some (.nameOrCall) from rfl] at hP
   clear HP EM
   obtain _ | f:=f
   ·simp[P] at hP
   simp only[P] at hP
   have HP:Hid (_=some r):=hP
   clear hP
   clear c3
   have q4:=hT.more hi HNE.out
   obtain⟨_,c1_4,_,c3_4,cz_4⟩:=h2.cells
   have z1_4:=cz_4 1
   clear cz_4
   have hbi4:(i:Int)+1≤200001:=by have:=HTL.out;omega
   have h4:=h2.step q4
   have ei4:((i+1:Nat) : Int)=(i:Int)+1:=by omega
   rw[ei4] at h4
   clear ei4
   have g4:Fr [rb] (w1.alloc (.cells #[.int .i64 ((tk ts (i)).kind:Nat),.string ⟨(tk ts (i)).text.toArray⟩,.int .i64 ((tk ts (i)).frm:Nat),.int .i64 ((tk ts (i)).to:Nat),.int .i64 ((tk ts (i)).n:Nat)] 82)) ((w1.alloc (.cells #[.int .i64 ((tk ts (i)).kind:Nat),.string ⟨(tk ts (i)).text.toArray⟩,.int .i64 ((tk ts (i)).frm:Nat),.int .i64 ((tk ts (i)).to:Nat),.int .i64 ((tk ts (i)).n:Nat)] 82)).setCell ⟨rb,1,none⟩ (.int .i64 ((i:Int)+1))):=Fr.setCell (Fr.refl _ _) (.inl (by simp)) _
   have f4:Fr F (w1.alloc (.cells #[.int .i64 ((tk ts (i)).kind:Nat),.string ⟨(tk ts (i)).text.toArray⟩,.int .i64 ((tk ts (i)).frm:Nat),.int .i64 ((tk ts (i)).to:Nat),.int .i64 ((tk ts (i)).n:Nat)] 82)) ((w1.alloc (.cells #[.int .i64 ((tk ts (i)).kind:Nat),.string ⟨(tk ts (i)).text.toArray⟩,.int .i64 ((tk ts (i)).frm:Nat),.int .i64 ((tk ts (i)).to:Nat),.int .i64 ((tk ts (i)).n:Nat)] 82)).setCell ⟨rb,1,none⟩ (.int .i64 ((i:Int)+1))):=g4.sub (fun k hk=>.inl (by simp at hk;subst hk;exact h2.pf))
   have s4:=Tr.of f4
   have t4:=t2.trans s4
   have u0_4:=v2.fr f4 ni2
   have ni0_4:=Tr.notin s4 ni2 v2.lt
   by_cases e5:nx ts (i+1) = [40]
   ·have q5:=hT.more q4 (show nx ts (i+1)≠[] by rw[e5];decide)
    have C5:=rtake_yes h4 K [40] (by unfold Sg;decide) e5 q5
    have hP:=HP.out
    rw[if_pos e5] at hP
    have HP:Hid (_=some r):=hP
    clear hP
    clear e5
    go_wp2_with fail
    refine C5.mono ?_
    rintro e w5 ⟨rfl,h5,f5⟩
    clear C5
    have s5:=Tr.of f5
    have t5:=t4.trans s5
    have u0_5:=u0_4.fr f5 ni0_4
    have ni0_5:=Tr.notin s5 ni0_4 u0_4.lt
    have h5:RS ts B rb F (i+2) ns w5:=h5
    have q5:i+2<ts.length:=q5
    rcases bindR_some HP.out with ⟨er,hr,he⟩ | ⟨v6,j6,n6,hr,hP⟩
    ·subst he
     have C6:=H f (.listed true [41]) _ _ w5 _ _ (by omega) h5 (by simp[preN]) (by have:=HN.out;omega) hr
     simp only[RCtr,ptr] at C6
     replace C6:=C6 trivial
     go_wp2_with fail
     refine C6.mono ?_
     rintro e w6 ⟨rfl,hb6,f6⟩
     clear C6
     have fe6:=t5.ends f6
     have bu0_6:=u0_5.fr f6 ni0_5
     have bcp0_6:=bu0_6.c1
     have bcq0_6:=bu0_6.c2
     go_wp2_with fail
     refine (rnode_bad (ts:=ts) (rb:=rb) (p:=_) (by first | exact hb6 | exact hb6.fr ((Fr.refl _ _).alloc _)) _ _ _ _).mono ?_
     rintro e w7 ⟨rfl,f7⟩
     have f7:Fr [] w6 w7:=by first | exact f7 | exact ((Fr.refl [] _).alloc _).trans f7
     have hb7:=hb6.fr f7
     have fe7:=fe6.trans (f7.sub (by simp))
     have bu0_7:=bu0_6.fr f7 (by simp)
     have bcp0_7:=bu0_7.c1
     have bcq0_7:=bu0_7.c2
     go_wp2
     go_ret
     exact⟨_,rfl,hb7,fe7⟩
    obtain⟨o6a,o6b,o6c,o6d,_⟩:=run_ok hT (nt:=.listed true [41]) (ns:=ns) h5.ti (by simp[preN]) hr
    simp only[consN,slack] at o6a o6d
    have C6:=H f (.listed true [41]) _ _ w5 _ _ (by omega) h5 (by simp[preN]) (by have:=HN.out;omega) hr
    simp only[RCtr,ptr] at C6
    replace C6:=C6 trivial
    have HP:Hid (_=some r):=hP
    have B6:Hid (n6.length+3≤2*j6+0∧i<j6):=by have:=HN.out;unfold Hid;omega
    have q6:=o6b
    clear hP hr o6a o6b o6c o6d
    go_wp2_with fail
    refine C6.mono ?_
    rintro e w6 ⟨x6,F6,rfl,o6,y6,h6,s6⟩
    clear C6
    have f6:=s6.f
    have z6:Hid (∀ k,(x6:Value).ownBlock=some k→w.heap.size≤k):=fun k hk=>Nat.le_trans t5.f.size (y6 k hk).2
    have ny6:∀ k,(x6:Value).ownBlock=some k→k∉F6:=fun k hk=>(y6 k hk).1
    clear y6
    have t6:=t5.trans s6
    have u0_6:=u0_5.fr f6 ni0_5
    have ni0_6:=Tr.notin s6 ni0_5 u0_5.lt
    have hP:=HP.out
    cases hP
    have a0_0:=u0_6.c0
    have a0_1:=u0_6.c1
    have a0_2:=u0_6.c2
    have a0_3:=u0_6.c3
    have a0_4:=u0_6.c4
    obtain⟨za,zc,hx,_⟩:=own_slice o6
    have KV0:=ON.kv o6
    have LO:∀ k∈(x6).ownBlock.toList,w.heap.size≤k:=fun k hk=>z6.out k (by simpa using hk)
    subst hx
    have CL:=rnode_any h6 KV0 22 (tk ts (i)).text (tk ts (i)).frm (by have:=B6.out;have:=HTL.out;have:=q6;omega)
    go_wp2_with fail
    refine CL.mono ?_
    rintro e wz ⟨rfl,Fz,hz,fz,sz⟩
    have tz:Tr F w Fz wz:=lay_tr t6 fz sz LO
    go_wp2
    go_ret
    exact⟨rfl,Fz,hz,tz⟩
   ·have C5:=rtake_no h4 K [40] (by unfold Sg;decide) e5
    have hP:=HP.out
    rw[if_neg e5] at hP
    have HP:Hid (_=some r):=hP
    clear hP
    clear e5
    go_wp2_with fail
    refine C5.mono ?_
    rintro e w5 ⟨rfl,f5⟩
    clear C5
    have h5:=h4.fr f5 (by simp)
    have t5:=t4.trans (Tr.of0 f5)
    have u0_5:=u0_4.fr f5 (by simp)
    have hP:=HP.out
    cases hP
    have a0_0:=u0_5.c0
    have a0_1:=u0_5.c1
    have a0_2:=u0_5.c2
    have a0_3:=u0_5.c3
    have a0_4:=u0_5.c4
    have KV0:=KV.nil B w5
    have LO:∀ k∈([] : List Nat),w.heap.size≤k:=by simp
    have CL:=rnode_any h5 KV0 17 (tk ts (i)).text (tk ts (i)).frm (by have:=HN.out;have:=HTL.out;have:=q4;omega)
    go_wp2_with fail
    refine CL.mono ?_
    rintro e wz ⟨rfl,Fz,hz,fz,sz⟩
    have tz:Tr F w Fz wz:=lay_tr t5 fz sz LO
    go_wp2
    go_ret
    exact⟨rfl,Fz,hz,tz⟩
  ·have EM:Hid (¬ nx ts i=nmB):=em
   have hk1:((((tk ts i).kind:Nat) : Int) == 1)=false:=beq_int_false (by have:=mt (K.name hi).2 em;omega)
   clear em
   by_cases e9:nx ts (i) = [110,117,108,108]
   ·have q9:=hT.more hi (show nx ts (i)≠[] by rw[e9];decide)
    have C9:=rtake_yes h2 K [110,117,108,108] (by unfold Sg;decide) e9 q9
    have E9:Hid (nx ts (i) = [110,117,108,108]):=e9
    clear e9
    go_wp2_with fail
    refine C9.mono ?_
    rintro e w9 ⟨rfl,h9,f9⟩
    clear C9
    have s9:=Tr.of f9
    have t9:=t2.trans s9
    have u0_9:=v2.fr f9 ni2
    have ni0_9:=Tr.notin s9 ni2 v2.lt
    have h9:RS ts B rb F (i+1) ns w9:=h9
    have q9:i+1<ts.length:=q9
    have hP:=HP.out
    rw[E9.out,show firstNT [110,117,108,108]=some (.alone 16) from rfl] at hP
    clear HP E9
    obtain _ | f:=f
    ·simp[P] at hP
    simp only[P] at hP
    have HP:Hid (_=some r):=hP
    clear hP
    have hP:=HP.out
    cases hP
    have a0_0:=u0_9.c0
    have a0_1:=u0_9.c1
    have a0_2:=u0_9.c2
    have a0_3:=u0_9.c3
    have a0_4:=u0_9.c4
    have KV0:=KV.nil B w9
    have LO:∀ k∈([] : List Nat),w.heap.size≤k:=by simp
    have CL:=rnode_any h9 KV0 16 [] (tk ts (i)).frm (by have:=HN.out;have:=HTL.out;have:=q9;omega)
    go_wp2_with fail
    refine CL.mono ?_
    rintro e wz ⟨rfl,Fz,hz,fz,sz⟩
    have tz:Tr F w Fz wz:=lay_tr t9 fz sz LO
    go_wp2
    go_ret
    exact⟨rfl,Fz,hz,tz⟩
   ·have C9:=rtake_no h2 K [110,117,108,108] (by unfold Sg;decide) e9
    have E9:Hid (¬ nx ts (i) = [110,117,108,108]):=e9
    clear e9
    go_wp2_with fail
    refine C9.mono ?_
    rintro e w9 ⟨rfl,f9⟩
    clear C9
    have h9:=h2.fr f9 (by simp)
    have t9:=t2.trans (Tr.of0 f9)
    have u0_9:=v2.fr f9 (by simp)
    by_cases e10:nx ts (i) = [114,111,111,116]
    ·have q10:=hT.more hi (show nx ts (i)≠[] by rw[e10];decide)
     have C10:=rtake_yes h9 K [114,111,111,116] (by unfold Sg;decide) e10 q10
     have E10:Hid (nx ts (i) = [114,111,111,116]):=e10
     clear e10
     go_wp2_with fail
     refine C10.mono ?_
     rintro e w10 ⟨rfl,h10,f10⟩
     clear C10
     have s10:=Tr.of f10
     have t10:=t9.trans s10
     have u0_10:=u0_9.fr f10 ni2
     have ni0_10:=Tr.notin s10 ni2 u0_9.lt
     have h10:RS ts B rb F (i+1) ns w10:=h10
     have q10:i+1<ts.length:=q10
     have hP:=HP.out
     rw[E10.out,show firstNT [114,111,111,116]=some (.alone 30) from rfl] at hP
     clear HP E10
     obtain _ | f:=f
     ·simp[P] at hP
     simp only[P] at hP
     have HP:Hid (_=some r):=hP
     clear hP
     have hP:=HP.out
     cases hP
     have a0_0:=u0_10.c0
     have a0_1:=u0_10.c1
     have a0_2:=u0_10.c2
     have a0_3:=u0_10.c3
     have a0_4:=u0_10.c4
     have KV0:=KV.nil B w10
     have LO:∀ k∈([] : List Nat),w.heap.size≤k:=by simp
     have CL:=rnode_any h10 KV0 30 [] (tk ts (i)).frm (by have:=HN.out;have:=HTL.out;have:=q10;omega)
     go_wp2_with fail
     refine CL.mono ?_
     rintro e wz ⟨rfl,Fz,hz,fz,sz⟩
     have tz:Tr F w Fz wz:=lay_tr t10 fz sz LO
     go_wp2
     go_ret
     exact⟨rfl,Fz,hz,tz⟩
    ·have C10:=rtake_no h9 K [114,111,111,116] (by unfold Sg;decide) e10
     have E10:Hid (¬ nx ts (i) = [114,111,111,116]):=e10
     clear e10
     go_wp2_with fail
     refine C10.mono ?_
     rintro e w10 ⟨rfl,f10⟩
     clear C10
     have h10:=h9.fr f10 (by simp)
     have t10:=t9.trans (Tr.of0 f10)
     have u0_10:=u0_9.fr f10 (by simp)
     by_cases e11:nx ts (i) = [110,101,119]
     ·have q11:=hT.more hi (show nx ts (i)≠[] by rw[e11];decide)
      have C11:=rtake_yes h10 K [110,101,119] (by unfold Sg;decide) e11 q11
      have E11:Hid (nx ts (i) = [110,101,119]):=e11
      clear e11
      go_wp2_with fail
      refine C11.mono ?_
      rintro e w11 ⟨rfl,h11,f11⟩
      clear C11
      have s11:=Tr.of f11
      have t11:=t10.trans s11
      have u0_11:=u0_10.fr f11 ni2
      have ni0_11:=Tr.notin s11 ni2 u0_10.lt
      have h11:RS ts B rb F (i+1) ns w11:=h11
      have q11:i+1<ts.length:=q11
      have hP:=HP.out
      rw[E11.out,show firstNT [110,101,119]=some (.made) from rfl] at hP
      clear HP E11
      obtain _ | f:=f
      ·simp[P] at hP
      simp only[P] at hP
      have HP:Hid (_=some r):=hP
      clear hP
      have C12:=h11.now
      unfold tokA at C12
      go_wp2_with fail
      refine C12.mono ?_
      rintro e w12 ⟨rfl,f12⟩
      clear C12
      have fl12:=fld2 ((tk ts (i+1)).kind:Nat) ((tk ts (i+1)).frm:Nat) ((tk ts (i+1)).to:Nat) ((tk ts (i+1)).n:Nat) ⟨(tk ts (i+1)).text.toArray⟩ w12
      have h12:=h11.fr f12 (by simp)
      have t12:=t11.trans (Tr.of0 f12)
      have u0_12:=u0_11.fr f12 (by simp)
      by_cases e13:nx ts (i+1)=nmB
      rotate_left
      ·have hP:=HP.out
       rw[wantR_no e13] at hP
       have C13:=rname_no h12 K e13
       cases hP
       go_wp2_with fail
       refine C13.mono ?_
       rintro e w13 ⟨rfl,hb13,f13⟩
       clear C13
       have fe13:=t12.ends f13
       have bu0_13:=u0_12.fr f13 ni0_11
       have bcp0_13:=bu0_13.c1
       have bcq0_13:=bu0_13.c2
       go_wp2_with fail
       refine (rnode_bad (ts:=ts) (rb:=rb) (p:=_) (by first | exact hb13 | exact hb13.fr ((Fr.refl _ _).alloc _)) _ _ _ _).mono ?_
       rintro e w14 ⟨rfl,f14⟩
       have f14:Fr [] w13 w14:=by first | exact f14 | exact ((Fr.refl [] _).alloc _).trans f14
       have hb14:=hb13.fr f14
       have fe14:=fe13.trans (f14.sub (by simp))
       have bu0_14:=bu0_13.fr f14 (by simp)
       have bcp0_14:=bu0_14.c1
       have bcq0_14:=bu0_14.c2
       go_wp2
       go_ret
       exact⟨_,rfl,hb14,fe14⟩
      have q13:=hT.more q11 (show nx ts (i+1)≠[] by rw[e13];decide)
      have hP:=HP.out
      rw[wantR_yes e13] at hP
      have HP:Hid (_=some r):=hP
      clear hP
      have C13:=rname_yes h12 K e13 q13
      clear e13
      go_wp2_with fail
      refine C13.mono ?_
      rintro e w13 ⟨rfl,h13,f13⟩
      clear C13
      have s13:=Tr.of f13
      have t13:=t12.trans s13
      have u0_13:=u0_12.fr f13 ni0_11
      have ni0_13:=Tr.notin s13 ni0_11 u0_12.lt
      have h13:RS ts B rb F (i+2) ns w13:=h13
      have q13:i+2<ts.length:=q13
      have hP:=HP.out
      cases hP
      have a0_0:=u0_13.c0
      have a0_1:=u0_13.c1
      have a0_2:=u0_13.c2
      have a0_3:=u0_13.c3
      have a0_4:=u0_13.c4
      have KV0:=KV.nil B w13
      have LO:∀ k∈([] : List Nat),w.heap.size≤k:=by simp
      have CL:=rnode_any h13 KV0 23 (tk ts (i+1)).text (tk ts (i+1)).frm (by have:=HN.out;have:=HTL.out;have:=q13;omega)
      go_wp2_with fail
      refine CL.mono ?_
      rintro e wz ⟨rfl,Fz,hz,fz,sz⟩
      have tz:Tr F w Fz wz:=lay_tr t13 fz sz LO
      go_wp2
      go_ret
      exact⟨rfl,Fz,hz,tz⟩
     ·have C11:=rtake_no h10 K [110,101,119] (by unfold Sg;decide) e11
      have E11:Hid (¬ nx ts (i) = [110,101,119]):=e11
      clear e11
      go_wp2_with fail
      refine C11.mono ?_
      rintro e w11 ⟨rfl,f11⟩
      clear C11
      have h11:=h10.fr f11 (by simp)
      have t11:=t10.trans (Tr.of0 f11)
      have u0_11:=u0_10.fr f11 (by simp)
      by_cases e12:nx ts (i) = [97,114,114]
      ·have q12:=hT.more hi (show nx ts (i)≠[] by rw[e12];decide)
       have C12:=rtake_yes h11 K [97,114,114] (by unfold Sg;decide) e12 q12
       have E12:Hid (nx ts (i) = [97,114,114]):=e12
       clear e12
       go_wp2_with fail
       refine C12.mono ?_
       rintro e w12 ⟨rfl,h12,f12⟩
       clear C12
       have s12:=Tr.of f12
       have t12:=t11.trans s12
       have u0_12:=u0_11.fr f12 ni2
       have ni0_12:=Tr.notin s12 ni2 u0_11.lt
       have h12:RS ts B rb F (i+1) ns w12:=h12
       have q12:i+1<ts.length:=q12
       have hP:=HP.out
       rw[E12.out,show firstNT [97,114,114]=some (.about 24) from rfl] at hP
       clear HP E12
       obtain _ | f:=f
       ·simp[P] at hP
       simp only[P] at hP
       have HP:Hid (_=some r):=hP
       clear hP
       have hP:=HP.out
       obtain _ | f:=f
       ·simp[P,bindR] at hP
       simp only[P,bindR_want,bindR_assoc,bindR_ok] at hP
       have a0_0:=u0_12.c0
       have a0_1:=u0_12.c1
       have a0_2:=u0_12.c2
       have a0_3:=u0_12.c3
       have a0_4:=u0_12.c4
       have C13:=r_inside hT K (kind:=24) (pl:=(tk ts (i)).frm) (H.less (g:=f) (by omega)) h12 (by have:=HN.out;omega) hP
       rcases r with er | ⟨v13,j13,n13⟩
       ·go_wp2_with fail
        refine C13.mono ?_
        rintro e w13 ⟨x13,rfl,hb13,f13⟩
        go_wp2
        go_ret
        exact⟨_,rfl,hb13,t12.ends f13⟩
       ·go_wp2_with fail
        refine C13.mono ?_
        rintro e w13 ⟨he,F13,h13,s13⟩
        obtain rfl:e = .returned (.int .i64 (hd v13:Nat)):=he
        go_wp2
        go_ret
        exact⟨rfl,F13,h13,t12.trans s13⟩
      ·have C12:=rtake_no h11 K [97,114,114] (by unfold Sg;decide) e12
       have E12:Hid (¬ nx ts (i) = [97,114,114]):=e12
       clear e12
       go_wp2_with fail
       refine C12.mono ?_
       rintro e w12 ⟨rfl,f12⟩
       clear C12
       have h12:=h11.fr f12 (by simp)
       have t12:=t11.trans (Tr.of0 f12)
       have u0_12:=u0_11.fr f12 (by simp)
       by_cases e13:nx ts (i) = [108,101,110]
       ·have q13:=hT.more hi (show nx ts (i)≠[] by rw[e13];decide)
        have C13:=rtake_yes h12 K [108,101,110] (by unfold Sg;decide) e13 q13
        have E13:Hid (nx ts (i) = [108,101,110]):=e13
        clear e13
        go_wp2_with fail
        refine C13.mono ?_
        rintro e w13 ⟨rfl,h13,f13⟩
        clear C13
        have s13:=Tr.of f13
        have t13:=t12.trans s13
        have u0_13:=u0_12.fr f13 ni2
        have ni0_13:=Tr.notin s13 ni2 u0_12.lt
        have h13:RS ts B rb F (i+1) ns w13:=h13
        have q13:i+1<ts.length:=q13
        have hP:=HP.out
        rw[E13.out,show firstNT [108,101,110]=some (.about 25) from rfl] at hP
        clear HP E13
        obtain _ | f:=f
        ·simp[P] at hP
        simp only[P] at hP
        have HP:Hid (_=some r):=hP
        clear hP
        have hP:=HP.out
        obtain _ | f:=f
        ·simp[P,bindR] at hP
        simp only[P,bindR_want,bindR_assoc,bindR_ok] at hP
        have a0_0:=u0_13.c0
        have a0_1:=u0_13.c1
        have a0_2:=u0_13.c2
        have a0_3:=u0_13.c3
        have a0_4:=u0_13.c4
        have C14:=r_inside hT K (kind:=25) (pl:=(tk ts (i)).frm) (H.less (g:=f) (by omega)) h13 (by have:=HN.out;omega) hP
        rcases r with er | ⟨v14,j14,n14⟩
        ·go_wp2_with fail
         refine C14.mono ?_
         rintro e w14 ⟨x14,rfl,hb14,f14⟩
         go_wp2
         go_ret
         exact⟨_,rfl,hb14,t13.ends f14⟩
        ·go_wp2_with fail
         refine C14.mono ?_
         rintro e w14 ⟨he,F14,h14,s14⟩
         obtain rfl:e = .returned (.int .i64 (hd v14:Nat)):=he
         go_wp2
         go_ret
         exact⟨rfl,F14,h14,t13.trans s14⟩
       ·have C13:=rtake_no h12 K [108,101,110] (by unfold Sg;decide) e13
        have E13:Hid (¬ nx ts (i) = [108,101,110]):=e13
        clear e13
        go_wp2_with fail
        refine C13.mono ?_
        rintro e w13 ⟨rfl,f13⟩
        clear C13
        have h13:=h12.fr f13 (by simp)
        have t13:=t12.trans (Tr.of0 f13)
        have u0_13:=u0_12.fr f13 (by simp)
        by_cases e14:nx ts (i) = [105,109,103]
        ·have q14:=hT.more hi (show nx ts (i)≠[] by rw[e14];decide)
         have C14:=rtake_yes h13 K [105,109,103] (by unfold Sg;decide) e14 q14
         have E14:Hid (nx ts (i) = [105,109,103]):=e14
         clear e14
         go_wp2_with fail
         refine C14.mono ?_
         rintro e w14 ⟨rfl,h14,f14⟩
         clear C14
         have s14:=Tr.of f14
         have t14:=t13.trans s14
         have u0_14:=u0_13.fr f14 ni2
         have ni0_14:=Tr.notin s14 ni2 u0_13.lt
         have h14:RS ts B rb F (i+1) ns w14:=h14
         have q14:i+1<ts.length:=q14
         have hP:=HP.out
         rw[E14.out,show firstNT [105,109,103]=some (.about 27) from rfl] at hP
         clear HP E14
         obtain _ | f:=f
         ·simp[P] at hP
         simp only[P] at hP
         have HP:Hid (_=some r):=hP
         clear hP
         have hP:=HP.out
         obtain _ | f:=f
         ·simp[P,bindR] at hP
         simp only[P,bindR_want,bindR_assoc,bindR_ok] at hP
         have a0_0:=u0_14.c0
         have a0_1:=u0_14.c1
         have a0_2:=u0_14.c2
         have a0_3:=u0_14.c3
         have a0_4:=u0_14.c4
         have C15:=r_inside hT K (kind:=27) (pl:=(tk ts (i)).frm) (H.less (g:=f) (by omega)) h14 (by have:=HN.out;omega) hP
         rcases r with er | ⟨v15,j15,n15⟩
         ·go_wp2_with fail
          refine C15.mono ?_
          rintro e w15 ⟨x15,rfl,hb15,f15⟩
          go_wp2
          go_ret
          exact⟨_,rfl,hb15,t14.ends f15⟩
         ·go_wp2_with fail
          refine C15.mono ?_
          rintro e w15 ⟨he,F15,h15,s15⟩
          obtain rfl:e = .returned (.int .i64 (hd v15:Nat)):=he
          go_wp2
          go_ret
          exact⟨rfl,F15,h15,t14.trans s15⟩
        ·have C14:=rtake_no h13 K [105,109,103] (by unfold Sg;decide) e14
         have E14:Hid (¬ nx ts (i) = [105,109,103]):=e14
         clear e14
         go_wp2_with fail
         refine C14.mono ?_
         rintro e w14 ⟨rfl,f14⟩
         clear C14
         have h14:=h13.fr f14 (by simp)
         have t14:=t13.trans (Tr.of0 f14)
         have u0_14:=u0_13.fr f14 (by simp)
         by_cases e15:nx ts (i) = [112,114,111,109,111,116,101]
         ·have q15:=hT.more hi (show nx ts (i)≠[] by rw[e15];decide)
          have C15:=rtake_yes h14 K [112,114,111,109,111,116,101] (by unfold Sg;decide) e15 q15
          have E15:Hid (nx ts (i) = [112,114,111,109,111,116,101]):=e15
          clear e15
          go_wp2_with fail
          refine C15.mono ?_
          rintro e w15 ⟨rfl,h15,f15⟩
          clear C15
          have s15:=Tr.of f15
          have t15:=t14.trans s15
          have u0_15:=u0_14.fr f15 ni2
          have ni0_15:=Tr.notin s15 ni2 u0_14.lt
          have h15:RS ts B rb F (i+1) ns w15:=h15
          have q15:i+1<ts.length:=q15
          have hP:=HP.out
          rw[E15.out,show firstNT [112,114,111,109,111,116,101]=some (.about 29) from rfl] at hP
          clear HP E15
          obtain _ | f:=f
          ·simp[P] at hP
          simp only[P] at hP
          have HP:Hid (_=some r):=hP
          clear hP
          have hP:=HP.out
          obtain _ | f:=f
          ·simp[P,bindR] at hP
          simp only[P,bindR_want,bindR_assoc,bindR_ok] at hP
          have a0_0:=u0_15.c0
          have a0_1:=u0_15.c1
          have a0_2:=u0_15.c2
          have a0_3:=u0_15.c3
          have a0_4:=u0_15.c4
          have C16:=r_inside hT K (kind:=29) (pl:=(tk ts (i)).frm) (H.less (g:=f) (by omega)) h15 (by have:=HN.out;omega) hP
          rcases r with er | ⟨v16,j16,n16⟩
          ·go_wp2_with fail
           refine C16.mono ?_
           rintro e w16 ⟨x16,rfl,hb16,f16⟩
           go_wp2
           go_ret
           exact⟨_,rfl,hb16,t15.ends f16⟩
          ·go_wp2_with fail
           refine C16.mono ?_
           rintro e w16 ⟨he,F16,h16,s16⟩
           obtain rfl:e = .returned (.int .i64 (hd v16:Nat)):=he
           go_wp2
           go_ret
           exact⟨rfl,F16,h16,t15.trans s16⟩
         ·have C15:=rtake_no h14 K [112,114,111,109,111,116,101] (by unfold Sg;decide) e15
          have E15:Hid (¬ nx ts (i) = [112,114,111,109,111,116,101]):=e15
          clear e15
          go_wp2_with fail
          refine C15.mono ?_
          rintro e w15 ⟨rfl,f15⟩
          clear C15
          have h15:=h14.fr f15 (by simp)
          have t15:=t14.trans (Tr.of0 f15)
          have u0_15:=u0_14.fr f15 (by simp)
          by_cases e16:nx ts (i) = [105,110]
          ·have q16:=hT.more hi (show nx ts (i)≠[] by rw[e16];decide)
           have C16:=rtake_yes h15 K [105,110] (by unfold Sg;decide) e16 q16
           have E16:Hid (nx ts (i) = [105,110]):=e16
           clear e16
           go_wp2_with fail
           refine C16.mono ?_
           rintro e w16 ⟨rfl,h16,f16⟩
           clear C16
           have s16:=Tr.of f16
           have t16:=t15.trans s16
           have u0_16:=u0_15.fr f16 ni2
           have ni0_16:=Tr.notin s16 ni2 u0_15.lt
           have h16:RS ts B rb F (i+1) ns w16:=h16
           have q16:i+1<ts.length:=q16
           have hP:=HP.out
           rw[E16.out,show firstNT [105,110]=some (.empty 26) from rfl] at hP
           clear HP E16
           obtain _ | f:=f
           ·simp[P] at hP
           simp only[P] at hP
           have HP:Hid (_=some r):=hP
           clear hP
           by_cases e17:nx ts (i+1) = [40]
           rotate_left
           ·have hP:=HP.out
            rw[wantR_no e17] at hP
            have C17:=rwant_no h16 K [40] (by unfold Sg;decide) e17
            cases hP
            go_wp2_with fail
            refine C17.mono ?_
            rintro e w17 ⟨rfl,hb17,f17⟩
            clear C17
            have fe17:=t16.ends f17
            have bu0_17:=u0_16.fr f17 ni0_16
            have bcp0_17:=bu0_17.c1
            have bcq0_17:=bu0_17.c2
            go_wp2_with fail
            refine (rwant_bad hb17 [41]).mono ?_
            rintro e w18 ⟨rfl,f18⟩
            have hb18:=hb17.fr f18
            have fe18:=fe17.trans (f18.sub (by simp))
            have bu0_18:=bu0_17.fr f18 (by simp)
            have bcp0_18:=bu0_18.c1
            have bcq0_18:=bu0_18.c2
            go_wp2_with fail
            refine (rnode_bad (ts:=ts) (rb:=rb) (p:=_) (by first | exact hb18 | exact hb18.fr ((Fr.refl _ _).alloc _)) _ _ _ _).mono ?_
            rintro e w19 ⟨rfl,f19⟩
            have f19:Fr [] w18 w19:=by first | exact f19 | exact ((Fr.refl [] _).alloc _).trans f19
            have hb19:=hb18.fr f19
            have fe19:=fe18.trans (f19.sub (by simp))
            have bu0_19:=bu0_18.fr f19 (by simp)
            have bcp0_19:=bu0_19.c1
            have bcq0_19:=bu0_19.c2
            go_wp2
            go_ret
            exact⟨_,rfl,hb19,fe19⟩
           have q17:=hT.more q16 (show nx ts (i+1)≠[] by rw[e17];decide)
           have hP:=HP.out
           rw[wantR_yes e17] at hP
           have HP:Hid (_=some r):=hP
           clear hP
           have C17:=rwant_yes h16 K [40] (by unfold Sg;decide) e17 q17
           clear e17
           go_wp2_with fail
           refine C17.mono ?_
           rintro e w17 ⟨rfl,h17,f17⟩
           clear C17
           have s17:=Tr.of f17
           have t17:=t16.trans s17
           have u0_17:=u0_16.fr f17 ni0_16
           have ni0_17:=Tr.notin s17 ni0_16 u0_16.lt
           have h17:RS ts B rb F (i+2) ns w17:=h17
           have q17:i+2<ts.length:=q17
           by_cases e20:nx ts (i+2) = [41]
           rotate_left
           ·have hP:=HP.out
            rw[wantR_no e20] at hP
            have C20:=rwant_no h17 K [41] (by unfold Sg;decide) e20
            cases hP
            go_wp2_with fail
            refine C20.mono ?_
            rintro e w20 ⟨rfl,hb20,f20⟩
            clear C20
            have fe20:=t17.ends f20
            have bu0_20:=u0_17.fr f20 ni0_17
            have bcp0_20:=bu0_20.c1
            have bcq0_20:=bu0_20.c2
            go_wp2_with fail
            refine (rnode_bad (ts:=ts) (rb:=rb) (p:=_) (by first | exact hb20 | exact hb20.fr ((Fr.refl _ _).alloc _)) _ _ _ _).mono ?_
            rintro e w21 ⟨rfl,f21⟩
            have f21:Fr [] w20 w21:=by first | exact f21 | exact ((Fr.refl [] _).alloc _).trans f21
            have hb21:=hb20.fr f21
            have fe21:=fe20.trans (f21.sub (by simp))
            have bu0_21:=bu0_20.fr f21 (by simp)
            have bcp0_21:=bu0_21.c1
            have bcq0_21:=bu0_21.c2
            go_wp2
            go_ret
            exact⟨_,rfl,hb21,fe21⟩
           have q20:=hT.more q17 (show nx ts (i+2)≠[] by rw[e20];decide)
           have hP:=HP.out
           rw[wantR_yes e20] at hP
           have HP:Hid (_=some r):=hP
           clear hP
           have C20:=rwant_yes h17 K [41] (by unfold Sg;decide) e20 q20
           clear e20
           go_wp2_with fail
           refine C20.mono ?_
           rintro e w20 ⟨rfl,h20,f20⟩
           clear C20
           have s20:=Tr.of f20
           have t20:=t17.trans s20
           have u0_20:=u0_17.fr f20 ni0_17
           have ni0_20:=Tr.notin s20 ni0_17 u0_17.lt
           have h20:RS ts B rb F (i+3) ns w20:=h20
           have q20:i+3<ts.length:=q20
           have hP:=HP.out
           cases hP
           have a0_0:=u0_20.c0
           have a0_1:=u0_20.c1
           have a0_2:=u0_20.c2
           have a0_3:=u0_20.c3
           have a0_4:=u0_20.c4
           have KV0:=KV.nil B w20
           have LO:∀ k∈([] : List Nat),w.heap.size≤k:=by simp
           have CL:=rnode_any h20 KV0 26 [] (tk ts (i)).frm (by have:=HN.out;have:=HTL.out;have:=q20;omega)
           go_wp2_with fail
           refine CL.mono ?_
           rintro e wz ⟨rfl,Fz,hz,fz,sz⟩
           have tz:Tr F w Fz wz:=lay_tr t20 fz sz LO
           go_wp2
           go_ret
           exact⟨rfl,Fz,hz,tz⟩
          ·have C16:=rtake_no h15 K [105,110] (by unfold Sg;decide) e16
           have E16:Hid (¬ nx ts (i) = [105,110]):=e16
           clear e16
           go_wp2_with fail
           refine C16.mono ?_
           rintro e w16 ⟨rfl,f16⟩
           clear C16
           have h16:=h15.fr f16 (by simp)
           have t16:=t15.trans (Tr.of0 f16)
           have u0_16:=u0_15.fr f16 (by simp)
           by_cases e17:nx ts (i) = [115,105,122,101]
           ·have q17:=hT.more hi (show nx ts (i)≠[] by rw[e17];decide)
            have C17:=rtake_yes h16 K [115,105,122,101] (by unfold Sg;decide) e17 q17
            have E17:Hid (nx ts (i) = [115,105,122,101]):=e17
            clear e17
            go_wp2_with fail
            refine C17.mono ?_
            rintro e w17 ⟨rfl,h17,f17⟩
            clear C17
            have s17:=Tr.of f17
            have t17:=t16.trans s17
            have u0_17:=u0_16.fr f17 ni2
            have ni0_17:=Tr.notin s17 ni2 u0_16.lt
            have h17:RS ts B rb F (i+1) ns w17:=h17
            have q17:i+1<ts.length:=q17
            have hP:=HP.out
            rw[E17.out,show firstNT [115,105,122,101]=some (.empty 28) from rfl] at hP
            clear HP E17
            obtain _ | f:=f
            ·simp[P] at hP
            simp only[P] at hP
            have HP:Hid (_=some r):=hP
            clear hP
            by_cases e18:nx ts (i+1) = [40]
            rotate_left
            ·have hP:=HP.out
             rw[wantR_no e18] at hP
             have C18:=rwant_no h17 K [40] (by unfold Sg;decide) e18
             cases hP
             go_wp2_with fail
             refine C18.mono ?_
             rintro e w18 ⟨rfl,hb18,f18⟩
             clear C18
             have fe18:=t17.ends f18
             have bu0_18:=u0_17.fr f18 ni0_17
             have bcp0_18:=bu0_18.c1
             have bcq0_18:=bu0_18.c2
             go_wp2_with fail
             refine (rwant_bad hb18 [41]).mono ?_
             rintro e w19 ⟨rfl,f19⟩
             have hb19:=hb18.fr f19
             have fe19:=fe18.trans (f19.sub (by simp))
             have bu0_19:=bu0_18.fr f19 (by simp)
             have bcp0_19:=bu0_19.c1
             have bcq0_19:=bu0_19.c2
             go_wp2_with fail
             refine (rnode_bad (ts:=ts) (rb:=rb) (p:=_) (by first | exact hb19 | exact hb19.fr ((Fr.refl _ _).alloc _)) _ _ _ _).mono ?_
             rintro e w20 ⟨rfl,f20⟩
             have f20:Fr [] w19 w20:=by first | exact f20 | exact ((Fr.refl [] _).alloc _).trans f20
             have hb20:=hb19.fr f20
             have fe20:=fe19.trans (f20.sub (by simp))
             have bu0_20:=bu0_19.fr f20 (by simp)
             have bcp0_20:=bu0_20.c1
             have bcq0_20:=bu0_20.c2
             go_wp2
             go_ret
             exact⟨_,rfl,hb20,fe20⟩
            have q18:=hT.more q17 (show nx ts (i+1)≠[] by rw[e18];decide)
            have hP:=HP.out
            rw[wantR_yes e18] at hP
            have HP:Hid (_=some r):=hP
            clear hP
            have C18:=rwant_yes h17 K [40] (by unfold Sg;decide) e18 q18
            clear e18
            go_wp2_with fail
            refine C18.mono ?_
            rintro e w18 ⟨rfl,h18,f18⟩
            clear C18
            have s18:=Tr.of f18
            have t18:=t17.trans s18
            have u0_18:=u0_17.fr f18 ni0_17
            have ni0_18:=Tr.notin s18 ni0_17 u0_17.lt
            have h18:RS ts B rb F (i+2) ns w18:=h18
            have q18:i+2<ts.length:=q18
            by_cases e21:nx ts (i+2) = [41]
            rotate_left
            ·have hP:=HP.out
             rw[wantR_no e21] at hP
             have C21:=rwant_no h18 K [41] (by unfold Sg;decide) e21
             cases hP
             go_wp2_with fail
             refine C21.mono ?_
             rintro e w21 ⟨rfl,hb21,f21⟩
             clear C21
             have fe21:=t18.ends f21
             have bu0_21:=u0_18.fr f21 ni0_18
             have bcp0_21:=bu0_21.c1
             have bcq0_21:=bu0_21.c2
             go_wp2_with fail
             refine (rnode_bad (ts:=ts) (rb:=rb) (p:=_) (by first | exact hb21 | exact hb21.fr ((Fr.refl _ _).alloc _)) _ _ _ _).mono ?_
             rintro e w22 ⟨rfl,f22⟩
             have f22:Fr [] w21 w22:=by first | exact f22 | exact ((Fr.refl [] _).alloc _).trans f22
             have hb22:=hb21.fr f22
             have fe22:=fe21.trans (f22.sub (by simp))
             have bu0_22:=bu0_21.fr f22 (by simp)
             have bcp0_22:=bu0_22.c1
             have bcq0_22:=bu0_22.c2
             go_wp2
             go_ret
             exact⟨_,rfl,hb22,fe22⟩
            have q21:=hT.more q18 (show nx ts (i+2)≠[] by rw[e21];decide)
            have hP:=HP.out
            rw[wantR_yes e21] at hP
            have HP:Hid (_=some r):=hP
            clear hP
            have C21:=rwant_yes h18 K [41] (by unfold Sg;decide) e21 q21
            clear e21
            go_wp2_with fail
            refine C21.mono ?_
            rintro e w21 ⟨rfl,h21,f21⟩
            clear C21
            have s21:=Tr.of f21
            have t21:=t18.trans s21
            have u0_21:=u0_18.fr f21 ni0_18
            have ni0_21:=Tr.notin s21 ni0_18 u0_18.lt
            have h21:RS ts B rb F (i+3) ns w21:=h21
            have q21:i+3<ts.length:=q21
            have hP:=HP.out
            cases hP
            have a0_0:=u0_21.c0
            have a0_1:=u0_21.c1
            have a0_2:=u0_21.c2
            have a0_3:=u0_21.c3
            have a0_4:=u0_21.c4
            have KV0:=KV.nil B w21
            have LO:∀ k∈([] : List Nat),w.heap.size≤k:=by simp
            have CL:=rnode_any h21 KV0 28 [] (tk ts (i)).frm (by have:=HN.out;have:=HTL.out;have:=q21;omega)
            go_wp2_with fail
            refine CL.mono ?_
            rintro e wz ⟨rfl,Fz,hz,fz,sz⟩
            have tz:Tr F w Fz wz:=lay_tr t21 fz sz LO
            go_wp2
            go_ret
            exact⟨rfl,Fz,hz,tz⟩
           ·have C17:=rtake_no h16 K [115,105,122,101] (by unfold Sg;decide) e17
            have E17:Hid (¬ nx ts (i) = [115,105,122,101]):=e17
            clear e17
            go_wp2_with fail
            refine C17.mono ?_
            rintro e w17 ⟨rfl,f17⟩
            clear C17
            have h17:=h16.fr f17 (by simp)
            have t17:=t16.trans (Tr.of0 f17)
            have u0_17:=u0_16.fr f17 (by simp)
            by_cases e18:nx ts (i) = [40]
            ·have q18:=hT.more hi (show nx ts (i)≠[] by rw[e18];decide)
             have C18:=rtake_yes h17 K [40] (by unfold Sg;decide) e18 q18
             have E18:Hid (nx ts (i) = [40]):=e18
             clear e18
             go_wp2_with fail
             refine C18.mono ?_
             rintro e w18 ⟨rfl,h18,f18⟩
             clear C18
             have s18:=Tr.of f18
             have t18:=t17.trans s18
             have u0_18:=u0_17.fr f18 ni2
             have ni0_18:=Tr.notin s18 ni2 u0_17.lt
             have h18:RS ts B rb F (i+1) ns w18:=h18
             have q18:i+1<ts.length:=q18
             have hP:=HP.out
             rw[E18.out,show firstNT [40]=some .brack from rfl] at hP
             obtain _ | f:=f
             ·simp[P] at hP
             simp only[P] at hP
             rw[wantR_yes E18.out] at hP
             clear HP E18
             have HP:Hid (_=some r):=hP
             clear hP
             rcases bindR_some HP.out with ⟨er,hr,he⟩ | ⟨v19,j19,n19,hr,hP⟩
             ·subst he
              have C19:=H f (.expr) _ _ w18 _ _ (by omega) h18 trivial (by have:=HN.out;omega) hr
              simp only[RCtr,ptr] at C19
              go_wp2_with fail
              refine C19.mono ?_
              rintro e w19 ⟨x19,rfl,hb19,f19⟩
              clear C19
              have fe19:=t18.ends f19
              have bu0_19:=u0_18.fr f19 ni0_18
              have bcp0_19:=bu0_19.c1
              have bcq0_19:=bu0_19.c2
              go_wp2_with fail
              refine (rwant_bad hb19 [41]).mono ?_
              rintro e w20 ⟨rfl,f20⟩
              have hb20:=hb19.fr f20
              have fe20:=fe19.trans (f20.sub (by simp))
              have bu0_20:=bu0_19.fr f20 (by simp)
              have bcp0_20:=bu0_20.c1
              have bcq0_20:=bu0_20.c2
              go_wp2
              go_ret
              exact⟨_,rfl,hb20,fe20⟩
             obtain⟨o19a,o19b,o19c,o19d,o19e⟩:=run_ok hT (nt:=.expr) (ns:=ns) h18.ti trivial hr
             simp only[consN,slack] at o19a o19d
             obtain⟨m19,rfl,hm19⟩:=o19e rfl
             have C19:=H f (.expr) _ _ w18 _ _ (by omega) h18 trivial (by have:=HN.out;omega) hr
             simp only[RCtr,ptr] at C19
             have HP:Hid (_=some r):=hP
             have B19:Hid (n19.length+1≤2*j19+0∧i<j19∧m19<n19.length):=by have:=HN.out;unfold Hid;omega
             have q19:=o19b
             clear hP hr o19a o19b o19c o19d o19e hm19
             go_wp2_with fail
             refine C19.mono ?_
             rintro e w19 ⟨he,F19,h19,s19⟩
             obtain rfl:e = .returned (.int .i64 (m19:Nat)):=he
             clear C19
             have f19:=s19.f
             have t19:=t18.trans s19
             have u0_19:=u0_18.fr f19 ni0_18
             have ni0_19:=Tr.notin s19 ni0_18 u0_18.lt
             by_cases e21:nx ts (j19) = [41]
             rotate_left
             ·have hP:=HP.out
              rw[wantR_no e21] at hP
              have C21:=rwant_no h19 K [41] (by unfold Sg;decide) e21
              cases hP
              go_wp2_with fail
              refine C21.mono ?_
              rintro e w21 ⟨rfl,hb21,f21⟩
              clear C21
              have fe21:=t19.ends f21
              have bu0_21:=u0_19.fr f21 ni0_19
              have bcp0_21:=bu0_21.c1
              have bcq0_21:=bu0_21.c2
              go_wp2
              go_ret
              exact⟨_,rfl,hb21,fe21⟩
             have q21:=hT.more q19 (show nx ts (j19)≠[] by rw[e21];decide)
             have hP:=HP.out
             rw[wantR_yes e21] at hP
             have HP:Hid (_=some r):=hP
             clear hP
             have C21:=rwant_yes h19 K [41] (by unfold Sg;decide) e21 q21
             clear e21
             go_wp2_with fail
             refine C21.mono ?_
             rintro e w21 ⟨rfl,h21,f21⟩
             clear C21
             have s21:=Tr.of f21
             have t21:=t19.trans s21
             have u0_21:=u0_19.fr f21 ni0_19
             have ni0_21:=Tr.notin s21 ni0_19 u0_19.lt
             have h21:RS ts B rb F19 (j19+1) n19 w21:=h21
             have q21:j19+1<ts.length:=q21
             have hP:=HP.out
             cases hP
             go_wp2
             go_ret
             exact⟨rfl,_,h21,t21⟩
            ·have C18:=rtake_no h17 K [40] (by unfold Sg;decide) e18
             have E18:Hid (¬ nx ts (i) = [40]):=e18
             clear e18
             go_wp2_with fail
             refine C18.mono ?_
             rintro e w18 ⟨rfl,f18⟩
             clear C18
             have h18:=h17.fr f18 (by simp)
             have t18:=t17.trans (Tr.of0 f18)
             have u0_18:=u0_17.fr f18 (by simp)
             have hP:=HP.out
             rw[show firstNT (nx ts i)=none by unfold firstNT;rw[if_neg (show ¬ nx ts i = [110,117,109,98,101,114] from EN.out),if_neg (show ¬ nx ts i = [110,97,109,101] from EM.out),if_neg E9.out,if_neg E10.out,if_neg E11.out,if_neg E12.out,if_neg E13.out,if_neg E16.out,if_neg E14.out,if_neg E17.out,if_neg E15.out,if_neg E18.out]] at hP
             cases hP
             have CF:=h18.fail
             go_wp2_with fail
             refine CF.mono ?_
             rintro e wz ⟨rfl,hbz,fz⟩
             go_wp2
             go_ret
             exact⟨_,rfl,hbz,t18.ends fz⟩
def measR (ts:List Tok) (rb:Nat) (w:World) : Nat:=match w.cell? ⟨rb,3,none⟩ with | some (.bool true)=>0 | _=>ts.length-posOf rb w+1
theorem RS.meas {ts:List Tok} {B rb:Nat} {F:List Nat} {i:Nat} {ns:List PN} {w:World} (h:RS ts B rb F i ns w) : measR ts rb w=ts.length-i+1:=by
 obtain⟨_,c1,_,c3,_⟩:=h.cells
 unfold measR posOf
 rw[c3,c1]
 simp
theorem RB.meas {ts:List Tok} {rb p:Nat} {w:World} (h:RB ts rb p w) : measR ts rb w=0:=by
 unfold measR
 rw[h.cells]
theorem chainL_yes {ts:List Tok} {g line n i:Nat} {ns:List PN} {r:Except Nat (List Nat×Nat×List PN)} (h:P ts (g+1) (.chainL line n) i ns=some r) (e:lineL (nx ts i)=line) : ∃ g',g'≤g∧bindR (P ts g' (.chain (line+1)) (i+1) ns) (fun v j ns=>P ts g (.chainL line ns.length) j (ns++[⟨19,(tk ts i).text,[n,hd v],(tk ts i).frm⟩]))=some r:=by
 rw[P] at h
 simp only[if_pos e] at h
 rcases g with _ | g'
 ·simp[P,bindR] at h
 ·have hj:P ts (g' + 1) (.joined n (line+1)) i ns=bindR (P ts g' (.chain (line+1)) (i+1) ns) fun v j ns=>layR 19 (tk ts i).text (tk ts i).frm [n,hd v] j ns:=by rw[P]
  rw[hj,bindR_assoc] at h
  exact⟨g',by omega,h⟩
theorem chainL_no {ts:List Tok} {g line n i:Nat} {ns:List PN} {r:Except Nat (List Nat×Nat×List PN)} (h:P ts (g+1) (.chainL line n) i ns=some r) (e:¬ lineL (nx ts i)=line) : r = .ok ([n],i,ns):=by
 rw[P] at h
 simp only[if_neg e] at h
 cases h
 rfl
theorem backL_dot {ts:List Tok} {g n i:Nat} {ns:List PN} {r:Except Nat (List Nat×Nat×List PN)} (h:P ts (g+1) (.backL n) i ns=some r) (e:nx ts i = [46]) : wantR ts nmB (i+1) (P ts g (.backL ns.length) (i+2) (ns++[⟨20,(tk ts (i+1)).text,[n],(tk ts i).frm⟩]))=some r:=by
 rw[P] at h
 simp only[if_pos e] at h
 rcases g with _ | g'
 ·simp[P,bindR] at h
 ·have hj:P ts (g' + 1) (.field n) i ns=wantR ts nmB (i+1) (layR 20 (tk ts (i+1)).text (tk ts i).frm [n] (i+2) ns):=by rw[P]
  rw[hj,bindR_want,bindR_lay] at h
  exact h
theorem backL_el {ts:List Tok} {g n i:Nat} {ns:List PN} {r:Except Nat (List Nat×Nat×List PN)} (h:P ts (g+1) (.backL n) i ns=some r) (e0:¬ nx ts i = [46]) (e:nx ts i = [91]) : ∃ g',g'≤g∧bindR (P ts g' .expr (i+1) ns) (fun v j ns=>wantR ts [93] j (P ts g (.backL ns.length) (j+1) (ns++[⟨21,[],[n,hd v],(tk ts i).frm⟩])))=some r:=by
 rw[P] at h
 simp only[if_neg e0,if_pos e] at h
 rcases g with _ | g'
 ·simp[P,bindR] at h
 ·have hj:P ts (g' + 1) (.elem n) i ns=bindR (P ts g' .expr (i+1) ns) fun v j ns=>wantR ts [93] j <| layR 21 [] (tk ts i).frm [n,hd v] (j+1) ns:=by rw[P]
  rw[hj,bindR_assoc] at h
  simp only[bindR_want,bindR_lay] at h
  exact⟨g',by omega,h⟩
theorem backL_no {ts:List Tok} {g n i:Nat} {ns:List PN} {r:Except Nat (List Nat×Nat×List PN)} (h:P ts (g+1) (.backL n) i ns=some r) (e0:¬ nx ts i = [46]) (e:¬ nx ts i = [91]) : r = .ok ([n],i,ns):=by
 rw[P] at h
 simp only[if_neg e0,if_neg e] at h
 cases h
 rfl
set_option maxHeartbeats 4000000 in
theorem r_chain {ts:List Tok} {B rb:Nat} (hT:Toks ts) (K:KT ts) {f i line:Nat} {ns:List PN} {w:World} {F:List Nat} {r:Except Nat (List Nat×Nat×List PN)} (H:RHyp ts B rb f) (h0:RS ts B rb F i ns w) (hl:line≤7) (hn:ns.length≤2*i+1) (hP:P ts (f+1) (.chain line) i ns=some r) : RCtr ts B rb F w r (.chain line):=by
 simp only[RCtr,ptr]
 intro lev hlev hlev1
 subst hlev
 have hi:=h0.ti
 have HTL:Hid (ts.length≤200001):=h0.tl
 simp only[P] at hP
 have t0:=Tr.refl F w
 have HN:Hid (ns.length≤2*i+1):=hn
 clear hn
 by_cases h7:lev+1=7
 ·rw[if_pos h7] at hP
  obtain rfl:lev=6:=by omega
  clear h7 hl hlev1
  have HP:Hid (_=some r):=hP
  clear hP
  rcases r with er | ⟨v1,j1,n1⟩
  ·have C1:=H f (.signed) _ _ w _ _ (Nat.le_refl _) h0 trivial (by have:=HN.out;omega) HP.out
   simp only[RCtr,ptr] at C1
   go_enter Tryz.func176,Tryz.ntmps176
   go_wp2_with fail
   refine C1.mono ?_
   rintro e w1 ⟨x1,rfl,hb1,f1⟩
   go_wp2
   go_ret
   exact⟨_,rfl,hb1,t0.ends f1⟩
  ·obtain⟨_,_,_,_,oe⟩:=run_ok hT (nt:=.signed) (ns:=ns) h0.ti trivial HP.out
   obtain⟨m1,rfl,hm1⟩:=oe rfl
   have C1:=H f (.signed) _ _ w _ _ (Nat.le_refl _) h0 trivial (by have:=HN.out;omega) HP.out
   simp only[RCtr,ptr] at C1
   go_enter Tryz.func176,Tryz.ntmps176
   go_wp2_with fail
   refine C1.mono ?_
   rintro e w1 ⟨he,F1,h1,s1⟩
   obtain rfl:e = .returned (.int .i64 (m1:Nat)):=he
   go_wp2
   go_ret
   exact⟨rfl,F1,h1,t0.trans s1⟩
 ·rw[if_neg h7] at hP
  have hl5:(lev:Int)≤5:=by omega
  have hl0:(1:Int)≤lev:=by omega
  have HLV:Hid (lev≤5∧1≤lev):=by unfold Hid;omega
  clear h7 hl hlev1
  have HP:Hid (_=some r):=hP
  clear hP
  have ec:((lev+1:Nat) : Int)=(lev:Int)+1:=by omega
  rcases bindR_some HP.out with ⟨er,hr,he⟩ | ⟨v2,j2,n2,hr,hP⟩
  ·subst he
   have C2:=H f (.chain (lev+1+1)) _ _ w _ _ (Nat.le_refl _) h0 (show 0<lev+1+1∧lev+1+1≤7 by have:=HLV.out;omega) (by have:=HN.out;omega) hr
   simp only[RCtr,ptr] at C2
   replace C2:=C2 (lev+1) rfl (by omega)
   rw[ec] at C2
   go_enter Tryz.func176,Tryz.ntmps176
   go_wp2_with fail
   refine C2.mono ?_
   rintro e w2 ⟨x2,rfl,hb2,f2⟩
   clear C2
   have fe2:=t0.ends f2
   have c3:=hb2.cells
   go_wp2
   go_loopw [5] (fun _ wr=>wr=w2) (fun _ _=>0)
   case atStart=>rfl
   case round =>
    subst hrel
    go_wp2
    go_ret
    exact⟨_,rfl,hb2,fe2⟩
  obtain⟨o2a,o2b,o2c,o2d,o2e⟩:=run_ok hT (nt:=.chain (lev+1+1)) (ns:=ns) h0.ti (show 0<lev+1+1∧lev+1+1≤7 by have:=HLV.out;omega) hr
  simp only[consN,slack] at o2a o2d
  obtain⟨m2,rfl,hm2⟩:=o2e rfl
  have C2:=H f (.chain (lev+1+1)) _ _ w _ _ (Nat.le_refl _) h0 (show 0<lev+1+1∧lev+1+1≤7 by have:=HLV.out;omega) (by have:=HN.out;omega) hr
  simp only[RCtr,ptr] at C2
  replace C2:=C2 (lev+1) rfl (by omega)
  rw[ec] at C2
  have HP:Hid (_=some r):=hP
  have B2:Hid (n2.length+0≤2*j2+1∧i<j2∧m2<n2.length):=by have:=HN.out;unfold Hid;omega
  have q2:=o2b
  clear hP hr o2a o2b o2c o2d o2e hm2
  go_enter Tryz.func176,Tryz.ntmps176
  go_wp2_with fail
  refine C2.mono ?_
  rintro e w2 ⟨he,F2,h2,s2⟩
  obtain rfl:e = .returned (.int .i64 (m2:Nat)):=he
  clear C2
  have f2:=s2.f
  have t2:=t0.trans s2
  go_wp2
  go_loopw [5] (fun ev wr=>(∃ g n i' ns' F',ev = .int .i64 (n:Nat)∧g≤f∧RS ts B rb F' i' ns' wr∧Tr F w F' wr∧Hid (ns'.length≤2*i' + 1∧n<ns'.length)∧Hid (P ts g (.chainL (lev+1) n) i' ns' = some r))∨(∃ k,r = .error k∧RB ts rb (tk ts k).frm wr∧Fr F w wr)) (fun _ wr=>measR ts rb wr)
  case atStart=>exact .inl ⟨f,m2,_,_,_,rfl,Nat.le_refl _,h2,t2,by have:=B2.out;unfold Hid;omega,HP⟩
  case round =>
   rcases hrel with ⟨g,n,p,ms,F1,rfl,hg,hps,htr,hbd,hPP⟩ | ⟨k,rfl,hb,fe⟩
   rotate_left
   ·have c3:=hb.cells
    go_wp2
    go_ret
    exact⟨_,rfl,hb,fe⟩
   obtain _ | g:=g
   ·exact absurd hPP.out (by simp[P])
   have HG:Hid (g+1≤f):=hg
   have hpi:=hps.ti
   have HPI:Hid (p<ts.length∧measR ts rb wr=ts.length-p+1):=⟨hpi,hps.meas⟩
   clear hg
   clear h2 t2 HP
   obtain⟨_,_,_,c3w,_⟩:=hps.cells
   have C11:=hps.now
   unfold tokA at C11
   go_wp2_with fail
   refine C11.mono ?_
   rintro e w11 ⟨rfl,f11⟩
   clear C11
   have h11:=hps.fr f11 (by simp)
   have t11:=htr.trans (Tr.of0 f11)
   have g12:Fr [] w11 (w11.alloc (.cells #[.int .i64 ((tk ts (p)).kind:Nat),.string ⟨(tk ts (p)).text.toArray⟩,.int .i64 ((tk ts (p)).frm:Nat),.int .i64 ((tk ts (p)).to:Nat),.int .i64 ((tk ts (p)).n:Nat)] 82)):=(Fr.refl _ _).alloc _
   have v12:=TB.new w11 (.int .i64 ((tk ts (p)).kind:Nat)) (.string ⟨(tk ts (p)).text.toArray⟩) (.int .i64 ((tk ts (p)).frm:Nat)) (.int .i64 ((tk ts (p)).to:Nat)) (.int .i64 ((tk ts (p)).n:Nat))
   have ni12:w11.heap.size∉F1:=fun hm=>by have:=(h11.fb _ hm).2;omega
   have h12:=h11.fr g12 (by simp)
   have t12:=t11.trans (Tr.of0 g12)
   have a0_0:=v12.c0
   have a0_1:=v12.c1
   have a0_2:=v12.c2
   have a0_3:=v12.c3
   have a0_4:=v12.c4
   by_cases L:lineL (nx ts p)=lev+1
   ·obtain⟨g',hg',hP⟩:=chainL_yes hPP.out L
    obtain⟨k3,kt⟩:=K.line hpi (show lineL (nx ts p)≠0 by rw[L];omega)
    have HNE:Hid (nx ts p≠[]):=fun e=>by rw[e] at L;simp[lineL] at L
    have hk:((((tk ts p).kind:Nat) : Int) != 3)=false:=by simp;omega
    have CC:=fun w=>rlevel_any (tk ts p).text w
    have el:levS (tk ts p).text=lev:=by unfold levS;rw[← kt,L];rfl
    rw[el] at CC
    clear L el k3 kt hPP
    have HP:Hid (_=some r):=hP
    clear hP
    have HG' : Hid (g'≤f):=by have:=HG.out;unfold Hid;omega
    clear hg'
    go_wp2_with fail
    refine (CC _).mono ?_
    rintro e w' ⟨rfl,rfl⟩
    clear CC
    have q13:=hT.more hpi HNE.out
    obtain⟨_,c1_13,_,c3_13,cz_13⟩:=h12.cells
    have z1_13:=cz_13 1
    clear cz_13
    have hbi13:(p:Int)+1≤200001:=by have:=HTL.out;omega
    have h13:=h12.step q13
    have ei13:((p+1:Nat) : Int)=(p:Int)+1:=by omega
    rw[ei13] at h13
    clear ei13
    have g13:Fr [rb] (w11.alloc (.cells #[.int .i64 ((tk ts (p)).kind:Nat),.string ⟨(tk ts (p)).text.toArray⟩,.int .i64 ((tk ts (p)).frm:Nat),.int .i64 ((tk ts (p)).to:Nat),.int .i64 ((tk ts (p)).n:Nat)] 82)) ((w11.alloc (.cells #[.int .i64 ((tk ts (p)).kind:Nat),.string ⟨(tk ts (p)).text.toArray⟩,.int .i64 ((tk ts (p)).frm:Nat),.int .i64 ((tk ts (p)).to:Nat),.int .i64 ((tk ts (p)).n:Nat)] 82)).setCell ⟨rb,1,none⟩ (.int .i64 ((p:Int)+1))):=Fr.setCell (Fr.refl _ _) (.inl (by simp)) _
    have f13:Fr F1 (w11.alloc (.cells #[.int .i64 ((tk ts (p)).kind:Nat),.string ⟨(tk ts (p)).text.toArray⟩,.int .i64 ((tk ts (p)).frm:Nat),.int .i64 ((tk ts (p)).to:Nat),.int .i64 ((tk ts (p)).n:Nat)] 82)) ((w11.alloc (.cells #[.int .i64 ((tk ts (p)).kind:Nat),.string ⟨(tk ts (p)).text.toArray⟩,.int .i64 ((tk ts (p)).frm:Nat),.int .i64 ((tk ts (p)).to:Nat),.int .i64 ((tk ts (p)).n:Nat)] 82)).setCell ⟨rb,1,none⟩ (.int .i64 ((p:Int)+1))):=g13.sub (fun k hk=>.inl (by simp at hk;subst hk;exact h12.pf))
    have s13:=Tr.of f13
    have t13:=t12.trans s13
    have u0_13:=v12.fr f13 ni12
    have ni0_13:=Tr.notin s13 ni12 v12.lt
    rcases bindR_some HP.out with ⟨er,hr,he⟩ | ⟨v14,j14,n14,hr,hP⟩
    ·subst he
     have C14:=H g' (.chain (lev+1+1)) _ _ ((w11.alloc (.cells #[.int .i64 ((tk ts (p)).kind:Nat),.string ⟨(tk ts (p)).text.toArray⟩,.int .i64 ((tk ts (p)).frm:Nat),.int .i64 ((tk ts (p)).to:Nat),.int .i64 ((tk ts (p)).n:Nat)] 82)).setCell ⟨rb,1,none⟩ (.int .i64 ((p:Int)+1))) _ _ HG'.out h13 (show 0<lev+1+1∧lev+1+1≤7 by have:=HLV.out;omega) (by have:=hbd.out;omega) hr
     simp only[RCtr,ptr] at C14
     replace C14:=C14 (lev+1) rfl (by omega)
     rw[ec] at C14
     go_wp2_with fail
     refine C14.mono ?_
     rintro e w14 ⟨x14,rfl,hb14,f14⟩
     clear C14
     have fe14:=t13.ends f14
     have bu0_14:=u0_13.fr f14 ni0_13
     have bcp0_14:=bu0_14.c1
     have bcq0_14:=bu0_14.c2
     go_wp2_with fail
     refine (rnode_bad (ts:=ts) (rb:=rb) (p:=_) (by first | exact hb14 | exact hb14.fr ((Fr.refl _ _).alloc _)) _ _ _ _).mono ?_
     rintro e w15 ⟨rfl,f15⟩
     have f15:Fr [] w14 w15:=by first | exact f15 | exact ((Fr.refl [] _).alloc _).trans f15
     have hb15:=hb14.fr f15
     have fe15:=fe14.trans (f15.sub (by simp))
     have bu0_15:=bu0_14.fr f15 (by simp)
     have bcp0_15:=bu0_15.c1
     have bcq0_15:=bu0_15.c2
     have HM9:Hid (measR ts rb w15=0):=hb15.meas
     go_wp2
     go_roundw
     case rel=>exact .inr ⟨_,rfl,hb15,fe15⟩
     case measure=>have e2:=HPI.out;have e3:=HM9.out;omega
    obtain⟨o14a,o14b,o14c,o14d,o14e⟩:=run_ok hT (nt:=.chain (lev+1+1)) (ns:=ms) h13.ti (show 0<lev+1+1∧lev+1+1≤7 by have:=HLV.out;omega) hr
    simp only[consN,slack] at o14a o14d
    obtain⟨m14,rfl,hm14⟩:=o14e rfl
    have C14:=H g' (.chain (lev+1+1)) _ _ ((w11.alloc (.cells #[.int .i64 ((tk ts (p)).kind:Nat),.string ⟨(tk ts (p)).text.toArray⟩,.int .i64 ((tk ts (p)).frm:Nat),.int .i64 ((tk ts (p)).to:Nat),.int .i64 ((tk ts (p)).n:Nat)] 82)).setCell ⟨rb,1,none⟩ (.int .i64 ((p:Int)+1))) _ _ HG'.out h13 (show 0<lev+1+1∧lev+1+1≤7 by have:=HLV.out;omega) (by have:=hbd.out;omega) hr
    simp only[RCtr,ptr] at C14
    replace C14:=C14 (lev+1) rfl (by omega)
    rw[ec] at C14
    have HP:Hid (_=some r):=hP
    have B14:Hid (n14.length+1≤2*j14+0∧p<j14∧m14<n14.length):=by have:=hbd.out;unfold Hid;omega
    have q14:=o14b
    clear hP hr o14a o14b o14c o14d o14e hm14
    go_wp2_with fail
    refine C14.mono ?_
    rintro e w14 ⟨he,F14,h14,s14⟩
    obtain rfl:e = .returned (.int .i64 (m14:Nat)):=he
    clear C14
    have f14:=s14.f
    have t14:=t13.trans s14
    have u0_14:=u0_13.fr f14 ni0_13
    have ni0_14:=Tr.notin s14 ni0_13 u0_13.lt
    have a0_0:=u0_14.c0
    have a0_1:=u0_14.c1
    have a0_2:=u0_14.c2
    have a0_3:=u0_14.c3
    have a0_4:=u0_14.c4
    have gb:Fr [] w14 (w14.alloc (.cells #[.int .i64 (n:Nat),.int .i64 (m14:Nat)] 3)):=(Fr.refl _ _).alloc _
    have ob:ON (w14.alloc (.cells #[.int .i64 (n:Nat),.int .i64 (m14:Nat)] 3)) B (.slice (some ⟨w14.heap.size,0,none⟩) 2 2) [n,m14]:=ON.built w14 B (by have:=h14.fb rb h14.pf;omega) [n,m14] (by simp)
    have KV0:=ON.kv ob
    have LO:∀ k∈(Value.slice (some ⟨w14.heap.size,0,none⟩) 2 2).ownBlock.toList,w.heap.size≤k:=fun k hk=>by rw[own_mem hk];exact t14.f.size
    have hbb:=h14.fr gb (by simp)
    have tbb:=t14.trans (Tr.of0 gb)
    have CL:=rnode_any hbb KV0 19 (tk ts (p)).text (tk ts (p)).frm (by have:=B14.out;have:=HTL.out;have:=q14;omega)
    go_wp2_with fail
    refine CL.mono ?_
    rintro e wz ⟨rfl,Fz,hz,fz,sz⟩
    have tz:Tr F w Fz wz:=lay_tr tbb fz sz LO
    have s16:Tr F14 w14 Fz wz:=lay_tr (Tr.of0 gb) fz sz (fun k hk=>by rw[own_mem hk];exact Nat.le_refl _)
    clear CL KV0 LO tz ob
    have f16:=s16.f
    have t16:=t14.trans s16
    have h16:=hz
    clear hz fz sz
    have u0_16:=u0_14.fr f16 ni0_14
    have ni0_16:=Tr.notin s16 ni0_14 u0_14.lt
    have HM9:Hid (measR ts rb wz=ts.length-(j14)+1):=h16.meas
    go_wp2
    go_roundw
    case rel=>exact .inl ⟨g,_,_,_,_,rfl,by have:=HG.out;omega,h16,t16,(by have:=B14.out;unfold Hid;simp;omega),HP⟩
    case measure=>have e2:=HPI.out;have e3:=HM9.out;have:=B14.out;have:=q14;omega
   ·have hr:=chainL_no hPP.out L
    subst hr
    clear hPP
    by_cases k3:(tk ts p).kind=3
    ·have kt:nx ts p=(tk ts p).text:=by unfold nx nxT;simp[k3]
     have hk:((((tk ts p).kind:Nat) : Int) != 3)=false:=by simp;omega
     have CC:=fun w=>rlevel_any (tk ts p).text w
     have el:(((levS (tk ts p).text:Nat) : Int) != (lev:Int))=true:=by
      have h1:levS (tk ts p).text≠lev:=by unfold levS;rw[← kt];have:=HLV.out;omega
      simp;omega
     clear L k3 kt
     generalize levS (tk ts p).text=LV at *
     go_wp2_with fail
     refine (CC _).mono ?_
     rintro e w' ⟨rfl,rfl⟩
     go_wp2
     go_ret
     exact⟨rfl,_,h12,t12⟩
    ·have hk:((((tk ts p).kind:Nat) : Int) != 3)=true:=by simp;omega
     clear L k3
     go_wp2
     go_ret
     exact⟨rfl,_,h12,t12⟩
end Go.Proofs.YtnmfcaahdeddnaaGreatDoor
