/-
  Parts of the proof; conditions: as each says.
-/
import Derived.Maps.OwnSet
import Derived.StringKeys
import Derived.RegionDies
import Derived.BigQuiet
import Derived.Test.YtnmfcaahdeddnaaGreatDoorMgJLIC
set_option maxRecDepth 100000
namespace Go.Proofs.YtnmfcaahdeddnaaGreatDoor.T5
open Go.RowKit Go.Maps
set_option linter.unusedVariables false
set_option linter.unusedSimpArgs false
theorem law9:Keyed Tryz.prog 9:=string_keyed Tryz.underlying9
theorem under123:Tryz.prog.underlying 123=some (.map 9 3):=by kernel_rfl
theorem zero3 (w:World) : (zeroValue 3).run Tryz.prog w = .ok (.int .i64 0) w:=by kernel_rfl
def MA (W:World) (mb n:Nat) (m:NM) : Prop :=
 ∃ D:DataW Unit,W.ownsMap Tryz.prog 9 (plainElem Tryz.prog 3) mb n D∧∀ k:List UInt8,Maps.has D (.string k)=(m k).isSome∧D.atKey (.string k) (.lit (.int .i64 0)) = .lit (.int .i64 (((m k).getD 0:Nat) : Int))
theorem MA.fr {S:List Nat} {W W' : World} {mb n:Nat} {m:NM} (h:MA W mb n m) (g:Fr S W W') (hS:mb∉S) : MA W' mb n m:=by
 obtain⟨D,⟨es,clock,hb,r⟩,hD⟩:=h
 exact⟨D,⟨es,clock,(g.block mb (Array.getElem?_eq_some_iff.1 hb).1 hS).trans hb,r⟩,hD⟩
theorem MA.map {W:World} {mb n:Nat} {m:NM} (h:MA W mb n m) : ∃ es c,W.heap[mb]? = some (.map es c):=by
 obtain⟨D,⟨es,clock,hb,_⟩,_⟩:=h
 exact⟨es,clock,hb⟩
theorem MA.lt {W:World} {mb n:Nat} {m:NM} (h:MA W mb n m) : mb<W.heap.size:=by
 obtain⟨es,c,hb⟩:=h.map
 exact (Array.getElem?_eq_some_iff.1 hb).1
theorem MA.made (w:World) : MA (w.alloc (.map #[] 0)) w.heap.size 0 NM.nil:=⟨.map [],World.ownsMap_made w _ _ _,fun k=>⟨rfl,rfl⟩⟩
theorem MA.look {W:World} {mb n:Nat} {m:NM} (h:MA W mb n m) {s:ByteArray} (hs:s.size≤maxLen) : (Instr.lookup 123 (.map (some mb)) (.string s) true).run Tryz.prog W = .ok (.tuple #[.int .i64 (((m s.data.toList).getD 0:Nat) : Int),.bool (m s.data.toList).isSome]) W:=by
 obtain⟨D,hD,hm⟩:=h
 obtain⟨v,ps,hr,hv⟩:=hD.look_ok (t:=123) (e:=3) law9 under123 (zero3 _) (plainElem_int Tryz.underlying3 (by decide)) (Go.WideMaps.keyOf_string_mk Tryz.underlying9 hs)
 rw[hr,(hm s.data.toList).1]
 rw[(hm s.data.toList).2] at hv
 obtain⟨a,rfl,hz⟩:=plainElem_int_inv Tryz.underlying3 hv
 simp at hz
 rw[hz.1.1]
theorem MA.store {W:World} {mb n:Nat} {m:NM} (h:MA W mb n m) {s:ByteArray} (hs:s.size≤maxLen) (hn:n<maxLen) (j:Nat) (hj:j≤1000000) : ∃ w',(Instr.mapUpdate 123 (.map (some mb)) (.string s) (.int .i64 (j:Nat))).run Tryz.prog W = .ok () w'∧MA w' mb (n+1) (m.put s.data.toList j)∧Fr [mb] W w' := by
 obtain⟨D,hD,hm⟩:=h
 have hw:(Lit.int .i64 (j:Int)).wf=true:=by
  have e1:IntKind.min .i64 = -9223372036854775808:=by decide
  simp[Lit.wf,e1];omega
 obtain⟨w',hr,h2,ht⟩:=hD.store (t:=123) (e:=3) law9 under123 hn (Go.WideMaps.keyOf_string_mk Tryz.underlying9 hs) (plainElem_int Tryz.underlying3 hw)
 refine⟨w',hr,⟨_,h2,fun k=>?_⟩,Fr.ofGrown ht.grown⟩
 have hi:=hD.isMap
 have hkey:=law9.key (Go.WideMaps.keyOf_string_mk Tryz.underlying9 hs)
 unfold NM.put
 by_cases e:k=s.data.toList
 ·subst e
  simp[has_put_same hi hkey,atKey_put_same hi hkey]
 ·have hne:(Lit.string k)≠Lit.string s.data.toList:=fun h'=>e (by injection h')
  rw[if_neg e,has_put_other hne,atKey_put_other hne]
  exact hm k
def Chain (W:World) : Nat→Value→List NM→Prop
 | hi,v,[]=>v = .pointer none
 | hi,v,m::C=>∃ (sb mb n hi' : Nat) (up:Value),v = .pointer (some ⟨sb,0,none⟩)∧W.heap[sb]? = some (.cells #[up,.map (some mb)] 181 (0,0))∧MA W mb n m∧n≤50000∧Chain W hi' up C∧hi'≤mb∧mb<hi∧sb<hi∧hi'≤sb
theorem Chain.fr {S:List Nat} {W W' : World} (f:Fr S W W') : ∀ {C:List NM} {hi:Nat} {v:Value},Chain W hi v C→(∀ k,k∈S→hi≤k)→Chain W' hi v C
 | [],_,_,h,_=>h
 | m::C,hi,v,⟨sb,mb,n,hi',up,h1,h2,h3,h4,h5,h6,h7,h8,h9⟩,hS =>
   ⟨sb,mb,n,hi',up,h1,(f.block _ (Array.getElem?_eq_some_iff.1 h2).1 (fun hm=>by have:=hS _ hm;omega)).trans h2,h3.fr f (fun hm=>by have:=hS _ hm;omega),h4,Chain.fr f h5 (fun k hk=>by have:=hS k hk;omega),h6,h7,h8,h9⟩
set_option maxHeartbeats 4000000 in
theorem has_any {w:World} {hi:Nat} {v:Value} {C:List NM} (h:Chain w hi v C) (s:ByteArray) (hs:s.size≤maxLen) :
 Calls Tryz.prog 219 #[v,.string s] w fun e w'=>e = .returned (.bool (hasE C s.data.toList))∧w' = w:=by
 go_enter Tryz.func219,Tryz.ntmps219
 go_wp2
 go_loopg [0,5,6] C.length (fun g p _ _ wr=>∃ C' hi',C'.length=g∧Chain w hi' p C'∧wr=w∧Hid (hasE C' s.data.toList=hasE C s.data.toList))
 case atStart=>exact⟨C,hi,rfl,h,rfl,rfl⟩
 case round =>
  obtain⟨C',hi',hg,hch,rfl,he⟩:=hrel
  cases C' with
  | nil =>
    have hp:u0 = .pointer none:=hch
    subst hp
    have HE:Hid (hasE C s.data.toList=false):=by unfold Hid;rw[← he.out];rfl
    clear hch he
    go_wp2
    go_ret
    exact⟨by rw[HE.out];rfl,rfl⟩
  | cons m C' =>
    obtain⟨sb,mb,n,hi2,up,rfl,hb,hm,_,hup,_⟩:=hch
    have c0:wr.cell? ⟨sb,0,none⟩=some up:=at_cells hb 0 rfl
    have c1:wr.cell? ⟨sb,1,none⟩=some (.map (some mb)):=at_cells hb 1 rfl
    have lk:=hm.look hs
    have HU:=hup
    cases hv:(m s.data.toList).isSome with
    | true =>
      have HE:Hid (hasE C s.data.toList=true):=by unfold Hid;rw[← he.out];simp[hasE,hv]
      rw[hv] at lk
      clear he hup
      go_wp2
      go_ret
      exact⟨by rw[HE.out];rfl,rfl⟩
    | false =>
      have HE:Hid (hasE C' s.data.toList=hasE C s.data.toList):=by unfold Hid;rw[← he.out];simp[hasE,hv]
      rw[hv] at lk
      clear he hup
      go_wp2
      go_roundg C'.length
      case measure=>simp at hg;omega
      case rel=>exact⟨C',hi2,rfl,HU,rfl,HE⟩
theorem hidC {p:Prop} (h:p) : Hid p:=h
def thr (p:Int) (e:Nat) : Ending:=.panicked [{ v:=.iface 122 (.agg #[.int .i64 p,.int .i64 (e:Nat)]),recovered:=false }]
structure JG where
 B:Nat
 L:List Nd
 a:Option Addr
 len:Nat
 cap:Nat
 jb:Nat
 mr:Nat
 mf:Nat
 mn:Nat
structure JI (G:JG) (w:World) : Prop where
 blk:w.heap[G.jb]? = some (.cells #[.slice G.a G.len G.cap,.map (some G.mr),.map (some G.mf),.map (some G.mn)] 125 (0,0))
 nat:NAt G.B w G.a G.L
 ln:G.L.length=G.len
 lm:G.len≤50000
 kb:∀ (n:Nat) (x:Nd),G.L[n]? = some x→x.ks.length≤50000
 lj:G.B≤G.jb
 lr:G.B≤G.mr
 lf:G.B≤G.mf
 lfn:G.B≤G.mn
theorem JI.fr {G:JG} {S:List Nat} {w w' : World} (h:JI G w) (f:Fr S w w') (hS:∀ k,k∈S→G.B≤k∧k≠G.jb) : JI G w' :=
 ⟨(f.block _ (Array.getElem?_eq_some_iff.1 h.blk).1 (fun hm=>(hS _ hm).2 rfl)).trans h.blk,h.nat.fr f (fun k hk=>(hS k hk).1),h.ln,h.lm,h.kb,h.lj,h.lr,h.lf,h.lfn⟩
theorem JI.node {G:JG} {w:World} (h:JI G w) {n:Nat} (hn:n<G.len) : ∃ x b o,G.L[n]? = some x∧G.a=some ⟨b,o,none⟩∧b<G.B∧NCell G.B w b (o+n*4) x:=by
 have hl:n<G.L.length:=by rw[h.ln];exact hn
 obtain⟨b,o,e,hb,hc⟩:=h.nat n _ (List.getElem?_eq_getElem hl)
 exact⟨_,b,o,List.getElem?_eq_getElem hl,e,hb,hc⟩
set_option maxHeartbeats 2000000 in
theorem refuse_any {G:JG} {w:World} (h:JI G w) {n:Nat} (hn:n<G.len) (e:Nat) :
 Calls Tryz.prog 146 #[.pointer (some ⟨G.jb,0,none⟩),.int .i64 n,.int .i64 e] w fun ex w'=>ex=thr (plN G.L n) e∧w' = w:=by
 obtain⟨x,b,o,hx,ha,hb,hc⟩:=h.node hn
 have hlm:=h.lm
 have hlI:(G.len:Int)≤50000:=by omega
 have hnI:(n:Int)<G.len:=by omega
 have e1:plN G.L n=x.pl:=by unfold plN;rw[hx]
 have k0:w.cell? ⟨G.jb,0,none⟩=some (.slice G.a G.len G.cap):=at_cells h.blk 0 rfl
 rw[ha] at k0
 have c3:=hc.c3
 rw[e1]
 unfold thr
 clear h hx ha hc e1
 go_enter Tryz.func146,Tryz.ntmps146
 go_wp2
 exact⟨rfl,rfl,rfl⟩
theorem whole_any (jb:Nat) (w:World) (e:Nat) :
 Calls Tryz.prog 100 #[.pointer (some ⟨jb,0,none⟩),.int .i64 e] w fun ex w'=>ex=thr 0 e∧w' = w:=by
 unfold thr
 go_enter Tryz.func100,Tryz.ntmps100
 go_wp2
 exact⟨rfl,rfl,rfl⟩
set_option maxHeartbeats 2000000 in
theorem found_some {G:JG} {w:World} (h:JI G w) {n:Nat} (hn:n<G.len) {mb cnt:Nat} {m:NM} (hm:MA w mb cnt m) {d:Nat} (hd:m (txN G.L n)=some d) :
 Calls Tryz.prog 220 #[.pointer (some ⟨G.jb,0,none⟩),.int .i64 n,.map (some mb)] w fun ex w'=>ex = .returned (.int .i64 d)∧w' = w:=by
 obtain⟨x,b,o,hx,ha,hb,hc⟩:=h.node hn
 have hlm:=h.lm
 have hlI:(G.len:Int)≤50000:=by omega
 have hnI:(n:Int)<G.len:=by omega
 have e1:txN G.L n=x.text.data.toList:=by unfold txN;rw[hx]
 have k0:w.cell? ⟨G.jb,0,none⟩=some (.slice G.a G.len G.cap):=at_cells h.blk 0 rfl
 rw[ha] at k0
 have c1:=hc.c1
 have lk:=hm.look (s:=x.text) hc.t
 rw[e1] at hd
 rw[hd] at lk
 clear h hx ha hc e1 hm hd
 go_enter Tryz.func220,Tryz.ntmps220
 go_wp2
 go_ret
 exact⟨rfl,rfl⟩
set_option maxHeartbeats 2000000 in
theorem found_none {G:JG} {w:World} (h:JI G w) {n:Nat} (hn:n<G.len) {mb cnt:Nat} {m:NM} (hm:MA w mb cnt m) (hd:m (txN G.L n)=none) :
 Calls Tryz.prog 220 #[.pointer (some ⟨G.jb,0,none⟩),.int .i64 n,.map (some mb)] w fun ex w'=>ex=thr (plN G.L n) 80∧w' = w:=by
 have CR:Calls Tryz.prog 146 #[.pointer (some ⟨G.jb,0,none⟩),.int .i64 n,.int .i64 80] w (fun ex w'=>ex=thr (plN G.L n) 80∧w' = w):=refuse_any h hn 80
 obtain⟨x,b,o,hx,ha,hb,hc⟩:=h.node hn
 have hlm:=h.lm
 have hlI:(G.len:Int)≤50000:=by omega
 have hnI:(n:Int)<G.len:=by omega
 have e1:txN G.L n=x.text.data.toList:=by unfold txN;rw[hx]
 have k0:w.cell? ⟨G.jb,0,none⟩=some (.slice G.a G.len G.cap):=at_cells h.blk 0 rfl
 rw[ha] at k0
 have c1:=hc.c1
 have lk:=hm.look (s:=x.text) hc.t
 rw[e1] at hd
 rw[hd] at lk
 generalize plN G.L n=pl at *
 unfold thr at *
 clear h hx ha hc e1 hm hd
 go_enter Tryz.func220,Tryz.ntmps220
 go_wp2_with (go_at_call 146;with_reducible (refine CR.mono ?_);rintro ex w' ⟨rfl,rfl⟩)
 exact⟨rfl,rfl,rfl⟩
set_option maxHeartbeats 2000000 in
theorem declare_no {G:JG} {w:World} (h:JI G w) {n:Nat} (hn:n<G.len) {mb cnt:Nat} {m:NM} (hm:MA w mb cnt m) {d:Nat} (hd:m (txN G.L n)=some d) :
 Calls Tryz.prog 102 #[.pointer (some ⟨G.jb,0,none⟩),.int .i64 n,.map (some mb)] w fun ex w'=>ex=thr (plN G.L n) 80∧w' = w:=by
 have CR:Calls Tryz.prog 146 #[.pointer (some ⟨G.jb,0,none⟩),.int .i64 n,.int .i64 80] w (fun ex w'=>ex=thr (plN G.L n) 80∧w' = w):=refuse_any h hn 80
 obtain⟨x,b,o,hx,ha,hb,hc⟩:=h.node hn
 have hlm:=h.lm
 have hlI:(G.len:Int)≤50000:=by omega
 have hnI:(n:Int)<G.len:=by omega
 have e1:txN G.L n=x.text.data.toList:=by unfold txN;rw[hx]
 have k0:w.cell? ⟨G.jb,0,none⟩=some (.slice G.a G.len G.cap):=at_cells h.blk 0 rfl
 rw[ha] at k0
 have c1:=hc.c1
 have lk:=hm.look (s:=x.text) hc.t
 rw[e1] at hd
 rw[hd] at lk
 generalize plN G.L n=pl at *
 unfold thr at *
 clear h hx ha hc e1 hm hd
 go_enter Tryz.func102,Tryz.ntmps102
 go_wp2_with (go_at_call 146;with_reducible (refine CR.mono ?_);rintro ex w' ⟨rfl,rfl⟩)
 exact⟨rfl,rfl,rfl⟩
set_option maxHeartbeats 2000000 in
theorem declare_yes {G:JG} {w:World} (h:JI G w) {n:Nat} (hn:n<G.len) {mb cnt:Nat} {m:NM} (hm:MA w mb cnt m) (hcn:cnt≤1000000000) (hd:m (txN G.L n)=none) :
 Calls Tryz.prog 102 #[.pointer (some ⟨G.jb,0,none⟩),.int .i64 n,.map (some mb)] w fun ex w'=>ex = .returned (.tuple #[])∧MA w' mb (cnt+1) (m.put (txN G.L n) n)∧Fr [mb] w w' := by
 obtain⟨x,b,o,hx,ha,hb,hc⟩:=h.node hn
 have hlm:=h.lm
 have hlI:(G.len:Int)≤50000:=by omega
 have hnI:(n:Int)<G.len:=by omega
 have e1:txN G.L n=x.text.data.toList:=by unfold txN;rw[hx]
 have k0:w.cell? ⟨G.jb,0,none⟩=some (.slice G.a G.len G.cap):=at_cells h.blk 0 rfl
 rw[ha] at k0
 have c1:=hc.c1
 have lk:=hm.look (s:=x.text) hc.t
 obtain⟨w',st,hm',hf⟩:=hm.store (s:=x.text) hc.t (by unfold maxLen;omega) n (by omega)
 rw[e1] at hd ⊢
 rw[hd] at lk
 have HM:=hidC hm'
 have HF:=hidC hf
 clear h hx ha hc e1 hm hd hm' hf
 go_enter Tryz.func102,Tryz.ntmps102
 go_wp2
 go_end0
 exact⟨rfl,HM.out,HF.out⟩
def ERes (w:World) (R:Ending→World→Prop) : JE Unit→Prop
 | .ok _=>∀ w',Fr [] w w'→R (.returned (.tuple #[])) w'
 | .error (p,e)=>∀ w',Fr [] w w'→R (thr p e) w'
theorem ERes.ok {w:World} {R:Ending→World→Prop} {u:Unit} (h:ERes w R (.ok u)) : ∀ w',Fr [] w w'→R (.returned (.tuple #[])) w' := h
theorem ERes.err {w:World} {R:Ending→World→Prop} {p:Int} {e:Nat} (h:ERes w R (.error (p,e))) : ∀ w',Fr [] w w'→R (thr p e) w' := h
theorem ERes.fr {w w1:World} {R:Ending→World→Prop} {r:JE Unit} (h:ERes w R r) (f:Fr [] w w1) : ERes w1 R r:=by
 rcases r with ⟨p,e⟩ | u
 ·exact fun w' g=>h w' (f.trans g)
 ·exact fun w' g=>h w' (f.trans g)
structure EM (G:JG) (E:Env) (w:World) : Prop where
 r:∃ n,MA w G.mr n E.rc
 f:∃ n,MA w G.mf n E.fl
 n:∃ n,MA w G.mn n E.fn
theorem EM.fr {G:JG} {E:Env} {w w' : World} {S:List Nat} (h:EM G E w) (f:Fr S w w') (hS:G.mr∉S∧G.mf∉S∧G.mn∉S) : EM G E w' :=
 ⟨h.r.imp fun n h=>h.fr f hS.1,h.f.imp fun n h=>h.fr f hS.2.1,h.n.imp fun n h=>h.fr f hS.2.2⟩
def FnOk (G:JG) (E:Env) : Prop:=∀ k f,E.fn k=some f→f<G.len∧0<(kN G.L f).length
def ExprC (G:JG) (E:Env) (n:Nat) : Prop:=∀ (w:World) (hi:Nat) (v:Value) (C:List NM) (R:Ending→World→Prop),JI G w→EM G E w→Chain w hi v C→ERes w R (exprE G.L E C n)→Calls Tryz.prog 200 #[.pointer (some ⟨G.jb,0,none⟩),.int .i64 n,v] w R
set_option maxHeartbeats 4000000 in
theorem exprs_cps {G:JG} {E:Env} {w:World} {hi:Nat} {v:Value} {C:List NM} {R:Ending→World→Prop} (hJ:JI G w) (hE:EM G E w) (hC:Chain w hi v C) {a:Option Addr} {n c:Nat} {ks:List Int} (hk:KAt G.B w a ks) (hn:ks.length=n) (hnm:n≤50000) (hX:∀ k∈ks,0≤k∧ExprC G E k.toNat)
 (hR:ERes w R (eachE (exprE G.L E C) (ks.map Int.toNat))) : Calls Tryz.prog 202 #[.pointer (some ⟨G.jb,0,none⟩),.slice a n c,v] w R:=by
 have HN:Hid (ks.length=n):=hn
 have hnI:(n:Int)≤50000:=by omega
 have HJ:=hidC hJ
 have HE:=hidC hE
 have HC:=hidC hC
 have HX:=hidC hX
 have HR:=hidC hR
 clear hn hJ hE hC hX hR
 go_enter Tryz.func202,Tryz.ntmps202
 go_wp2
 go_loopw [7,10] (fun _ ix wr=>∃ p:Nat,p≤n∧ix = .int .i64 p∧Fr [] w wr∧Hid (ERes wr R (eachE (exprE G.L E C) ((ks.drop p).map Int.toNat)))) (fun _ ix _=>n-(intOf ix).toNat)
 case atStart=>exact⟨0,Nat.zero_le _,rfl,Fr.refl _ _,HR.out⟩
 case round =>
  clear HR
  obtain⟨p,hp,rfl,fw,hr⟩:=hrel
  by_cases hlt:p<n
  ·have hpI:(p:Int)<n:=by omega
   have hpk:p<ks.length:=by rw[HN.out];exact hlt
   have hx:ks[p]? = some ks[p]:=List.getElem?_eq_getElem hpk
   obtain⟨h0,hx'⟩:=HX.out ks[p] (List.getElem_mem _)
   have HRS:Hid (ERes wr R (match exprE G.L E C (ks[p]).toNat with | .error e=>.error e | .ok _=>eachE (exprE G.L E C) ((ks.drop (p+1)).map Int.toNat))):=by
    have:=hr.out
    rw[List.drop_eq_getElem_cons hpk,List.map_cons] at this
    exact this
   obtain⟨b,o,e,hb,hc⟩:=(hk.fr fw (by simp)) p _ hx
   subst e
   generalize ks[p]=z at *
   obtain⟨q,rfl⟩:=Int.eq_ofNat_of_zero_le h0
   rw[Int.toNat_natCast] at hx' HRS
   have CX:=hx' wr hi v C
   have HCX:=hidC CX
   clear hx h0 hx' CX hr
   go_wp2_with fail
   refine HCX.out _ (HJ.out.fr fw (by simp)) (HE.out.fr fw (by simp)) (HC.out.fr fw (by simp)) ?_
   cases hq:exprE G.L E C q with
   | error pe =>
     obtain⟨pp,ee⟩:=pe
     rw[hq] at HRS
     intro w' f'
     exact⟨rfl,HRS.out w' f'⟩
   | ok u =>
     rw[hq] at HRS
     intro w' f'
     have HR2:=hidC (HRS.out.fr f')
     have HF2:=hidC (fw.trans f')
     clear HRS hq HCX
     go_wp2
     go_roundw
     case rel=>exact⟨p+1,hlt,by go_num,HF2.out,HR2.out⟩
     case measure=>simp[intOf];omega
  ·have hpI:¬ (p:Int)<n:=by omega
   have hr2:=hr.out
   rw[List.drop_of_length_le (by rw[HN.out];omega)] at hr2
   have HR2:=hidC (hr2 wr (Fr.refl _ _))
   clear hr hr2
   go_wp2
   go_end0
   exact HR2.out
end Go.Proofs.YtnmfcaahdeddnaaGreatDoor.T5
