/-
  Parts of the proof; conditions: as each says.
-/
import Derived.Lib.OwnKind
import Derived.Laws.OwnMore
import Derived.Maps.AppendAt
import Derived.Test.YtnmfcaahdeddnaaGreatDoorMgKEIB
import Derived.Test.YtnmfcaahdeddnaaGreatDoorMgNAHF
set_option maxRecDepth 100000
namespace Go.Proofs.YtnmfcaahdeddnaaGreatDoor.T5
open Go.RowKit Go.Maps
set_option linter.unusedVariables false
set_option linter.unusedSimpArgs false
structure SrM where
 nm:ByteArray
 fv:Value
 fs:List ByteArray
structure FnM where
 nm:ByteArray
 pr:Nat
 vv:Value
 vs:List ByteArray
 nd:Nat
def SrM.d (s:SrM) : SrD:=⟨s.nm,s.fs⟩
def FnM.d (f:FnM) : FnD:=⟨f.nm,f.pr,f.vs,f.nd⟩
def srC (s:SrM) : List Value:=[.string s.nm,s.fv]
def fnC (f:FnM) : List Value:=[.string f.nm,.int .i64 (f.pr:Nat),f.vv,.int .i64 (f.nd:Nat)]
def flatSr (l:List SrM) : List Value:=l.flatMap srC
def flatFn (l:List FnM) : List Value:=l.flatMap fnC
theorem flatSr_snoc (l:List SrM) (s:SrM) : flatSr (l++[s])=flatSr l++srC s:=by simp[flatSr]
theorem flatFn_snoc (l:List FnM) (f:FnM) : flatFn (l++[f])=flatFn l++fnC f:=by simp[flatFn]
theorem flatFn_len (l:List FnM) : (flatFn l).length=l.length*4:=by
 induction l with
 | nil=>rfl
 | cons a r ih=>unfold flatFn at *;rw[List.flatMap_cons,List.length_append,ih];simp[fnC];omega
theorem flatFn_set (l:List FnM) (f:FnM) (v:Value) (vs:List ByteArray) : (flatFn (l++[f])).set (l.length*4+2) v=flatFn (l++[{ f with vv:=v,vs:=vs }]):=by
 rw[flatFn_snoc,flatFn_snoc,List.set_append_right _ _ (by rw[flatFn_len];omega),flatFn_len]
 have:l.length*4+2-l.length*4=2:=by omega
 rw[this]
 rfl
theorem flatFn_get (l:List FnM) (f:FnM) : (flatFn (l++[f]))[l.length*4+2]? = some f.vv:=by
 rw[flatFn_snoc,List.getElem?_append_right (by rw[flatFn_len];omega),flatFn_len]
 have:l.length*4+2-l.length*4=2:=by omega
 rw[this]
 rfl
def inC (l:List Nat) : List Value:=l.map (fun n=>Value.int .i64 (n:Nat))
theorem own_apart {w:World} {B1 B2 n1 n2 s1 s2:Nat} {e1 e2:TypeId} {v1 v2:Value} {x1 x2:List Value} (h1:w.ownsRow B1 e1 s1 v1 n1 x1) (h2:w.ownsRow B2 e2 s2 v2 n2 x2) (hne:e1≠e2) : ∀ k,v1.ownBlock=some k→v2.ownBlock≠some k:=fun k hk=>by
 obtain⟨c,z,hb⟩:=Lib.ownsRow_kind h1 k hk
 exact own_ne h2 hb hne
theorem own_base {w:World} {B B' n size:Nat} {e:TypeId} {v:Value} {xs:List Value} (hB:B'≤B) (h:w.ownsRow B e size v n xs) : w.ownsRow B' e size v n xs :=
 ⟨h.1,h.2.imp id fun ⟨g,cap,cur,h1,h2,h3⟩=>⟨g,cap,cur,h1,Nat.le_trans hB h2,h3⟩⟩
structure DM (X:World) (base:Nat) (d:Ds) (sv fv mv:Value) (SS:List SrM) (FF:List FnM) : Prop where
 so:X.ownsRow base 58 2 sv SS.length (flatSr SS)
 fo:X.ownsRow base 61 4 fv FF.length (flatFn FF)
 mo:X.ownsRow base 3 1 mv d.merges.length (inC d.merges)
 ss:∀ s∈SS,X.ownsRow base 9 1 s.fv s.fs.length (stC s.fs)
 ff:∀ f∈FF,X.ownsRow base 9 1 f.vv f.vs.length (stC f.vs)
 es:SS.map SrM.d=d.sorts
 ef:FF.map FnM.d=d.fns
 ap:∀ I f,FF=I++[f]→∀ k,f.vv.ownBlock=some k→(∀ g∈I,g.vv.ownBlock≠some k)∧(∀ s∈SS,s.fv.ownBlock≠some k)
section
variable {X X' : World} {base:Nat} {d:Ds} {sv fv mv:Value} {SS:List SrM} {FF:List FnM}
theorem DM.fr {S:List Nat} (h:DM X base d sv fv mv SS FF) (f:Fr S X X') (hS:∀ k∈S,sv.ownBlock≠some k∧fv.ownBlock≠some k∧mv.ownBlock≠some k∧(∀ s∈SS,s.fv.ownBlock≠some k)∧(∀ g∈FF,g.vv.ownBlock≠some k)) : DM X' base d sv fv mv SS FF :=
 ⟨own_fr h.so f (fun k hk hm=>(hS k hm).1 hk),own_fr h.fo f (fun k hk hm=>(hS k hm).2.1 hk),own_fr h.mo f (fun k hk hm=>(hS k hm).2.2.1 hk),
  fun s hs=>own_fr (h.ss s hs) f (fun k hk hm=>(hS k hm).2.2.2.1 s hs hk),fun g hg=>own_fr (h.ff g hg) f (fun k hk hm=>(hS k hm).2.2.2.2 g hg hk),h.es,h.ef,h.ap⟩
theorem DM.off (h:DM X base d sv fv mv SS FF) {k:Nat} {o:Obj} (hk:X.heap[k]? = some o) (ho:∀ c t z,o = .cells c t z→t≠58∧t≠61∧t≠3∧t≠9) : sv.ownBlock≠some k∧fv.ownBlock≠some k∧mv.ownBlock≠some k∧(∀ s∈SS,s.fv.ownBlock≠some k)∧(∀ g∈FF,g.vv.ownBlock≠some k):=by
 have key:∀ {e:TypeId} {size n:Nat} {v:Value} {xs:List Value},X.ownsRow base e size v n xs→(e=58∨e=61∨e=3∨e=9)→v.ownBlock≠some k:=by
  intro e size n v xs hr he hv
  obtain⟨c,z,hb⟩:=Lib.ownsRow_kind hr k hv
  rw[hk] at hb
  have:=ho c e z (by injection hb)
  rcases he with rfl | rfl | rfl | rfl
  ·exact this.1 rfl
  ·exact this.2.1 rfl
  ·exact this.2.2.1 rfl
  ·exact this.2.2.2 rfl
 exact⟨key h.so (by simp),key h.fo (by simp),key h.mo (by simp),fun s hs=>key (h.ss s hs) (by simp),fun g hg=>key (h.ff g hg) (by simp)⟩
theorem DM.sort {X1 X2:World} (h:DM X base d sv fv mv SS FF) (hb:base≤X.heap.size) (f1:Fr [] X X1) {nv sv' : Value} {nm:ByteArray} {fs:List ByteArray} (hn:X1.ownsRow X.heap.size 9 1 nv fs.length (stC fs))
 (f2:Fr sv.ownBlock.toList X1 X2) (ho:X2.ownsRow base 58 2 sv' (SS.length+1) (flatSr SS++[.string nm,nv])) : DM X2 base { d with sorts:=d.sorts++[⟨nm,fs⟩] } sv' fv mv (SS++[⟨nm,nv,fs⟩]) FF:=by
 have h1:=h.fr f1 (by simp)
 refine⟨by rw[List.length_append,flatSr_snoc];exact ho,own_fr h1.fo f2 (fun k hk hm=>?_),own_fr h1.mo f2 (fun k hk hm=>?_),fun s hs=>?_,fun g hg=>own_fr (h1.ff g hg) f2 (fun k hk hm=>?_),by rw[List.map_append,h.es];rfl,h.ef,?_⟩
 ·simp at hm;exact own_apart h1.fo h1.so (by decide) k hk hm
 ·simp at hm;exact own_apart h1.mo h1.so (by decide) k hk hm
 ·rw[List.mem_append,List.mem_singleton] at hs
  rcases hs with hs | rfl
  ·exact own_fr (h1.ss s hs) f2 (fun k hk hm=>by simp at hm;exact own_apart (h1.ss s hs) h1.so (by decide) k hk hm)
  ·exact own_base hb (own_fr hn f2 (fun k hk hm=>by simp at hm;exact own_apart hn h1.so (by decide) k hk hm))
 ·simp at hm;exact own_apart (h1.ff g hg) h1.so (by decide) k hk hm
 ·intro I f e k hk
  obtain⟨q1,q2⟩:=h.ap I f e k hk
  refine⟨q1,fun s hs=>?_⟩
  rw[List.mem_append,List.mem_singleton] at hs
  rcases hs with hs | rfl
  ·exact q2 s hs
  ·intro hk2
   have l1:=(hn.lt k hk2).1
   have l2:=((h.ff f (by rw[e];simp)).lt k hk).2
   omega
theorem DM.fn {X1 X2:World} (h:DM X base d sv fv mv SS FF) (hb:base≤X.heap.size) (f1:Fr [] X X1) {nv fv' : Value} {nm:ByteArray} {pr nd:Nat} {vs:List ByteArray} (hn:X1.ownsRow X.heap.size 9 1 nv vs.length (stC vs))
 (f2:Fr fv.ownBlock.toList X1 X2) (ho:X2.ownsRow base 61 4 fv' (FF.length+1) (flatFn FF++[.string nm,.int .i64 (pr:Nat),nv,.int .i64 (nd:Nat)])) (mn:Nat) : DM X2 base { d with main:=mn,fns:=d.fns++[⟨nm,pr,vs,nd⟩] } sv fv' mv SS (FF++[⟨nm,pr,nv,vs,nd⟩]):=by
 have h1:=h.fr f1 (by simp)
 refine⟨own_fr h1.so f2 (fun k hk hm=>?_),by rw[List.length_append,flatFn_snoc];exact ho,own_fr h1.mo f2 (fun k hk hm=>?_),fun s hs=>own_fr (h1.ss s hs) f2 (fun k hk hm=>?_),fun g hg=>?_,h.es,by rw[List.map_append,h.ef];rfl,?_⟩
 ·simp at hm;exact own_apart h1.so h1.fo (by decide) k hk hm
 ·simp at hm;exact own_apart h1.mo h1.fo (by decide) k hk hm
 ·simp at hm;exact own_apart (h1.ss s hs) h1.fo (by decide) k hk hm
 ·rw[List.mem_append,List.mem_singleton] at hg
  rcases hg with hg | rfl
  ·exact own_fr (h1.ff g hg) f2 (fun k hk hm=>by simp at hm;exact own_apart (h1.ff g hg) h1.fo (by decide) k hk hm)
  ·exact own_base hb (own_fr hn f2 (fun k hk hm=>by simp at hm;exact own_apart hn h1.fo (by decide) k hk hm))
 ·intro I f e k hk
  have e2:=List.append_inj_right' e rfl
  have e1:=List.append_inj_left' e rfl
  cases e2
  subst e1
  have l1:=(hn.lt k hk).1
  refine⟨fun g hg hk2=>?_,fun s hs hk2=>?_⟩
  ·have l2:=((h.ff g hg).lt k hk2).2;omega
  ·have l2:=((h.ss s hs).lt k hk2).2;omega
theorem DM.var {X1 X2:World} {I:List FnM} {f:FnM} (h:DM X base d sv fv mv SS (I++[f])) (hb:base≤X.heap.size) {v' : Value} {s:ByteArray} (f1:Fr f.vv.ownBlock.toList X X1) (ho:X1.ownsRow base 9 1 v' (f.vs.length+1) (stC f.vs++[.string s])) (hloc:∀ k,v'.ownBlock=some k→f.vv.ownBlock=some k∨X.heap.size≤k)
 (f2:Fr fv.ownBlock.toList X1 X2) (ho2:X2.ownsRow base 61 4 fv (I.length+1) ((flatFn (I++[f])).set (I.length*4+2) v')) : DM X2 base { d with fns:=addVar s d.fns } sv fv mv SS (I++[{ f with vv:=v',vs:=f.vs++[s] }]):=by
 have hf:=h.ff f (by simp)
 have hap:=h.ap I f rfl
 refine⟨?_,?_,?_,fun s' hs=>?_,fun g hg=>?_,h.es,?_,?_⟩
 ·refine own_fr (own_fr h.so f1 (fun k hk hm=>?_)) f2 (fun k hk hm=>?_)
  ·simp at hm;exact own_apart h.so hf (by decide) k hk hm
  ·simp at hm;exact own_apart h.so h.fo (by decide) k hk hm
 ·rw[List.length_append,← flatFn_set];exact ho2
 ·refine own_fr (own_fr h.mo f1 (fun k hk hm=>?_)) f2 (fun k hk hm=>?_)
  ·simp at hm;exact own_apart h.mo hf (by decide) k hk hm
  ·simp at hm;exact own_apart h.mo h.fo (by decide) k hk hm
 ·refine own_fr (own_fr (h.ss s' hs) f1 (fun k hk hm=>?_)) f2 (fun k hk hm=>?_)
  ·simp at hm;exact (hap k hm).2 s' hs hk
  ·simp at hm;exact own_apart (h.ss s' hs) h.fo (by decide) k hk hm
 ·rw[List.mem_append,List.mem_singleton] at hg
  rcases hg with hg | rfl
  ·refine own_fr (own_fr (h.ff g (by simp[hg])) f1 (fun k hk hm=>?_)) f2 (fun k hk hm=>?_)
   ·simp at hm;exact (hap k hm).1 g hg hk
   ·simp at hm;exact own_apart (h.ff g (by simp[hg])) h.fo (by decide) k hk hm
  ·have e:stC (f.vs++[s])=stC f.vs++[.string s]:=by simp[stC]
   simp only[List.length_append,List.length_singleton]
   rw[e]
   refine own_fr ho f2 (fun k hk hm=>?_)
   simp at hm
   have l1:=(h.fo.lt k hm).2
   rcases hloc k hk with h3 | h3
   ·exact own_apart hf h.fo (by decide) k h3 hm
   ·omega
 ·rw[← h.ef]
  have:∀ (I:List FnM),addVar s ((I++[f]).map FnM.d)=(I++[{ f with vv:=v',vs:=f.vs++[s] }]).map FnM.d:=by
   intro I
   induction I with
   | nil=>rfl
   | cons g r ih =>
     rw[List.cons_append,List.map_cons,List.cons_append,List.map_cons,← ih]
     cases r with
     | nil=>rfl
     | cons g2 r2=>rfl
  exact (this I).symm
 ·intro J g e k hk
  have e2:=List.append_inj_right' e rfl
  have e1:=List.append_inj_left' e rfl
  cases e2
  subst e1
  simp only at hk
  rcases hloc k hk with h3 | h3
  ·exact hap k h3
  ·refine⟨fun g hg hk2=>?_,fun s hs hk2=>?_⟩
   ·have l2:=((h.ff g (by simp[hg])).lt k hk2).2;omega
   ·have l2:=((h.ss s hs).lt k hk2).2;omega
theorem DM.merge {X1:World} (h:DM X base d sv fv mv SS FF) {mv' : Value} {n:Nat} (f1:Fr mv.ownBlock.toList X X1) (ho:X1.ownsRow base 3 1 mv' (d.merges.length+1) (inC d.merges++[.int .i64 (n:Nat)])) : DM X1 base { d with merges:=d.merges++[n] } sv fv mv' SS FF:=by
 refine⟨own_fr h.so f1 (fun k hk hm=>?_),own_fr h.fo f1 (fun k hk hm=>?_),?_,fun s hs=>own_fr (h.ss s hs) f1 (fun k hk hm=>?_),fun g hg=>own_fr (h.ff g hg) f1 (fun k hk hm=>?_),h.es,h.ef,h.ap⟩
 ·simp at hm;exact own_apart h.so h.mo (by decide) k hk hm
 ·simp at hm;exact own_apart h.fo h.mo (by decide) k hk hm
 ·have e:inC (d.merges++[n])=inC d.merges++[.int .i64 (n:Nat)]:=by simp[inC]
  simp only[List.length_append,List.length_singleton]
  rw[e]
  exact ho
 ·simp at hm;exact own_apart (h.ss s hs) h.mo (by decide) k hk hm
 ·simp at hm;exact own_apart (h.ff g hg) h.mo (by decide) k hk hm
end
theorem step_own {P:Program} {ops:Array Oper} {o:Oper} {a:Act} {w:World} {K:Act→World→Prop} {Q:Exit→Act→World→Prop} {E:Prop} (hgd:o.guard=none) (s x:Operand) (t:TypeId)
 (ho:o.op = .call { callee:=.builtin .append,args:=#[s,x],argTypes:=#[t,t] })
 (base:Nat) (e:TypeId) (i:TypeInfo) (z:Value) (size bytes:Nat) (ht:P.underlying t=some (.slice e)) (hi:P.info? e=some i) (hz:i.zero=some z)
 (hsize:i.size=size) (hby:i.bytes=bytes) (hzs:z.cells.size=size) (hsz:0<size)
 (v:Value) (n:Nat) (xs:List Value) (hs:a.eval s=v) (hown:w.ownsRow base e size v n xs)
 (ad:Addr) (m c:Nat) (news:List Value) (hx:a.eval x = .slice (some ad) m c) (hl:news.length=m*size) (hnews:∀ j u,news[j]? = some u→w.cell? (ad.add j)=some u) (h1:∀ u∈news,u.oneCell' = true)
 (h63:n+m≤maxLen) (hbytes:(n+m)*bytes≤140737488355328) (hbase:base≤w.heap.size)
 (h:∀ v' w',w'.ownsRow base e size v' (n+m) (xs++news)→w.grownBy w' v.ownBlock→(v'.ownBlock=v.ownBlock∨v'.ownBlock=some w.heap.size)→K (a.put o.dst v') w') :
 if Region.wanted o (yielded ops a.tmps)=true then Oper.wp P o a w K Q else E:=by
 have hw:Region.wanted o (yielded ops a.tmps)=true:=by simp[Region.wanted,hgd]
 rw[if_pos hw]
 obtain⟨v',w',hr,h2,h3,h4,h5⟩:=run_append_own_at (P:=P) w base t o.type e i z size bytes ht hi hz hsize hby hzs hsz v n xs hown ad m c news hl hnews h1 h63 hbytes hbase
 unfold Oper.wp execOp
 simp only[ho,resolve,invoke,builtin,Sem.run_bind,Sem.run_pure,Result.andThen_ok,List.map_toArray,List.map_cons,List.map_nil,hs,hx,hr]
 exact h v' w' h2 h3 h5
theorem info58:(Tryz.prog.info? 58).map (fun i=>(i.zero,i.size,i.bytes))=some (some (.agg #[.string ⟨#[]⟩,.slice none 0 0]),2,40):=by kernel_rfl
theorem under24:Tryz.prog.underlying 24=some (.slice 58):=by kernel_rfl
theorem new_two (X:World) (u v:Value) (t:TypeId) : ∀ j x,[u,v][j]? = some x→(X.alloc (.cells #[u,v] t)).cell? ((⟨X.heap.size,0,none⟩ : Addr).add j)=some x:=by
 intro j x hx
 have hadd:(⟨X.heap.size,0,none⟩ : Addr).add j = ⟨X.heap.size,j,none⟩:=by unfold Addr.add;split <;> simp_all
 rw[hadd]
 exact at_cells (heap_alloc_new X _) j (by simpa using hx)
set_option maxHeartbeats 4000000 in
theorem reg7 {l:Nat} {X:World} {D nb lb base B:Nat} {sa:Option Addr} {sn sc:Nat} {xs:List Value} {x1 x2 x3:Value} (hD:X.heap[D]? = some (.cells #[.slice sa sn sc,x1,x2,x3] 28 (0,0))) (hso:X.ownsRow base 58 2 (.slice sa sn sc) sn xs) (hsn:sn≤50000) (hbase:base≤X.heap.size)
 {kind pl:Int} {tx:ByteArray} {ka:Option Addr} {kn kc:Nat} (hN:X.heap[nb]? = some (.cells #[.int .i64 kind,.string tx,.slice ka kn kc,.int .i64 pl] 55 (0,0))) {L:List Nd} {a:Option Addr} {len cap:Nat} (hlb:X.heap[lb]? = some (.cells #[.slice a len cap] 23 (0,0)))
 (hlen:L.length=len) (hL:NAt B X a L) (hlm:len≤50000) {ks:List Int} (hk:KAt B X ka ks) (hkn:ks.length=kn) (hkm:kn≤50000) (hks:∀ k∈ks,0≤k∧k<len) {Q:Exit→Act→World→Prop} {s0 s2 s4 s6 s7 s8 s9 s10 s11 s12 s13 s14 s15 s16 s17 s18 s19 s20 s21 s22 s23 s24 s25 s26 s27 s28 s29 s30 s31 s32 s33 s34 s35 s36 s37 s38 s39 s40 s41 s42 s43 s44 s45 s46 s47 s48 s49 s50 s51 s52 s53 s54 s55 s56 s57 s58 s59 s60 s61 s62 s63 s64 s65 s66 s67 s68 s69 s70 s71 s72 s73 s74 s75 s76 s77 s78 s79 s80 s81 s82 s83 s84 s85:Value}
 (h:∀ a' X1 X2 nv sv',Fr [] X X1→X1.ownsRow X.heap.size 9 1 nv kn (stC (ks.map (fun k=>tbN L k.toNat)))→Fr (Value.slice sa sn sc).ownBlock.toList X1 X2→X2.ownsRow base 58 2 sv' (sn+1) (xs++[.string tx,nv])→Q .normal a' (X2.setCell ⟨D,0,none⟩ sv')) :
 (Code.region 7 #[{ dst := some 20, op := Op.fieldAddr 28 (Operand.tmp 3) 0, type := 0, pos := "check.go:65", after := #[], guard := none }, { dst := some 21, op := Op.load 24 (Operand.tmp 20), type := 24, pos := "check.go:65", after := #[{ on := 0, ground := Ground.data }], guard := none }, { dst := some 22, op := Op.fieldAddr 55 (Operand.tmp 5) 1, type := 0, pos := "check.go:65", after := #[], guard := none }, { dst := some 23, op := Op.load 9 (Operand.tmp 22), type := 9, pos := "check.go:65", after := #[{ on := 2, ground := Ground.data }], guard := none }, { dst := some 24, op := Op.load 23 (Operand.tmp 1), type := 23, pos := "check.go:65", after := #[], guard := none }, { dst := some 25, op := Op.fieldAddr 55 (Operand.tmp 5) 2, type := 0, pos := "check.go:65", after := #[], guard := none }, { dst := some 26, op := Op.load 26 (Operand.tmp 25), type := 26, pos := "check.go:65", after := #[{ on := 5, ground := Ground.data }], guard := none }, { dst := some 27, op := Op.call { callee := Callee.value (Operand.func 68), args := #[Operand.tmp 24, Operand.tmp 26], argTypes := #[23, 26] }, type := 56, pos := "check.go:65", after := #[{ on := 4, ground := Ground.data }, { on := 6, ground := Ground.data }], guard := none }, { dst := some 28, op := Op.build 58 #[(0, Operand.tmp 23), (1, Operand.tmp 27)], type := 58, pos := "check.go:65", after := #[{ on := 3, ground := Ground.data }, { on := 7, ground := Ground.data }], guard := none }, { dst := some 29, op := Op.buildSlice 24 1 #[(0, Operand.tmp 28)], type := 24, pos := "check.go:65", after := #[{ on := 8, ground := Ground.data }], guard := none }, { dst := some 30, op := Op.call { callee := Callee.builtin Builtin.append, args := #[Operand.tmp 21, Operand.tmp 29], argTypes := #[24, 24] }, type := 24, pos := "check.go:65", after := #[{ on := 1, ground := Ground.data }, { on := 9, ground := Ground.data }, { on := 7, ground := Ground.chain }], guard := none }, { dst := some 31, op := Op.fieldAddr 28 (Operand.tmp 3) 0, type := 0, pos := "check.go:65", after := #[{ on := 0, ground := Ground.phase }, { on := 1, ground := Ground.phase }, { on := 2, ground := Ground.phase }, { on := 3, ground := Ground.phase }, { on := 4, ground := Ground.phase }, { on := 5, ground := Ground.phase }, { on := 6, ground := Ground.phase }, { on := 7, ground := Ground.phase }, { on := 8, ground := Ground.phase }, { on := 9, ground := Ground.phase }, { on := 10, ground := Ground.phase }], guard := none }, { dst := none, op := Op.store 24 (Operand.tmp 31) (Operand.tmp 30), type := 0, pos := "check.go:65", after := #[{ on := 11, ground := Ground.data }, { on := 10, ground := Ground.data }, { on := 10, ground := Ground.chain }, { on := 0, ground := Ground.phase }, { on := 1, ground := Ground.phase }, { on := 2, ground := Ground.phase }, { on := 3, ground := Ground.phase }, { on := 4, ground := Ground.phase }, { on := 5, ground := Ground.phase }, { on := 6, ground := Ground.phase }, { on := 7, ground := Ground.phase }, { on := 8, ground := Ground.phase }, { on := 9, ground := Ground.phase }, { on := 10, ground := Ground.phase }], guard := none }] true).wpIn (Fence.wide.inRound l) 0 Tryz.prog Q { tmps := #[s0, .pointer (some ⟨lb, 0, none⟩), s2, .pointer (some ⟨D, 0, none⟩), s4, .pointer (some ⟨nb, 0, none⟩), s6, s7, s8, s9, s10, s11, s12, s13, s14, s15, s16, s17, s18, s19, s20, s21, s22, s23, s24, s25, s26, s27, s28, s29, s30, s31, s32, s33, s34, s35, s36, s37, s38, s39, s40, s41, s42, s43, s44, s45, s46, s47, s48, s49, s50, s51, s52, s53, s54, s55, s56, s57, s58, s59, s60, s61, s62, s63, s64, s65, s66, s67, s68, s69, s70, s71, s72, s73, s74, s75, s76, s77, s78, s79, s80, s81, s82, s83, s84, s85], defers := [] } X := by
 obtain⟨i58,hi,hz,hs2,hby⟩:=info_parts info58
 have C68:=texts_any B L X.drew a len cap hlen (hL.fr (Fr.drew (Fr.refl [] X)) (by simp)) hlm (kc:=kc) (hk.fr (Fr.drew (Fr.refl [] X)) (by simp)) hkn hkm hks
 have nS:∀ {k:Nat} {c:Array Value} {t:TypeId} {z:Nat×Nat},X.heap[k]? = some (.cells c t z)→t≠28→t≠58→k∉D::(Value.slice sa sn sc).ownBlock.toList:=by
  intro k c t z hk h1 h2 hm
  rw[List.mem_cons] at hm
  rcases hm with rfl | hm
  ·rw[hD] at hk;injection hk with hk;injection hk with _ h3 _;exact h1 h3.symm
  ·rw[Option.mem_toList] at hm;exact own_ne hso hk h2 hm
 have n1:∀ w',Fr (D::(Value.slice sa sn sc).ownBlock.toList) X w'→w'.cell? ⟨nb,1,none⟩=some (.string tx):=fun w' f=>f.cell1 (at_cells hN 1 rfl) (nS hN (by decide) (by decide))
 have n2:∀ w',Fr (D::(Value.slice sa sn sc).ownBlock.toList) X w'→w'.cell? ⟨nb,2,none⟩=some (.slice ka kn kc):=fun w' f=>f.cell1 (at_cells hN 2 rfl) (nS hN (by decide) (by decide))
 have l0:∀ w',Fr (D::(Value.slice sa sn sc).ownBlock.toList) X w'→w'.cell? ⟨lb,0,none⟩=some (.slice a len cap):=fun w' f=>f.cell1 (at_cells hlb 0 rfl) (nS hlb (by decide) (by decide))
 have dc:∀ w',Fr [] X w'→w'.cell? ⟨D,0,none⟩=some (.slice sa sn sc):=fun w' f=>f.cell1 (at_cells hD 0 rfl) (by simp)
 clear nS hlb hN hL hk
 refine region_round (S:=fun w'=>Fr (D::(Value.slice sa sn sc).ownBlock.toList) X w') (N:=fun a w=>Q .normal a w) (by kernel_rfl) (by decide +kernel) (fun _ _ h=>h) ?_
 have hS:Fr (D::(Value.slice sa sn sc).ownBlock.toList) X X.drew:=Fr.drew (Fr.refl _ X)
 refine wpAnyH_take (i := 0) (v := .pointer (some ⟨D, 0, none⟩)) rfl (by decide +kernel) (by decide +kernel) (by decide +kernel) (fun _ _ _ h => absurd h.1 (by simp)) (Or.inl ⟨by rfl, fun wq hSq => by first | rfl | go_simp⟩) hS ?_
 simp only[Act.put,List.setIfInBounds_toArray,List.set_cons_zero,List.set_cons_succ]
 refine wpAnyH_take (i := 2) (v := .pointer (some ⟨nb, 1, none⟩)) rfl (by decide +kernel) (by decide +kernel) (by decide +kernel) (fun _ _ _ h => absurd h.1 (by simp)) (Or.inl ⟨by rfl, fun wq hSq => by first | rfl | go_simp⟩) hS ?_
 simp only[Act.put,List.setIfInBounds_toArray,List.set_cons_zero,List.set_cons_succ]
 refine wpAnyH_take (i := 3) (v := .string tx) rfl (by decide +kernel) (by decide +kernel) (by decide +kernel) (fun _ _ _ h => absurd h.1 (by simp)) (Or.inl ⟨by rfl, fun wq hSq => by (have q := n1 wq hSq; go_simp)⟩) hS ?_
 simp only[Act.put,List.setIfInBounds_toArray,List.set_cons_zero,List.set_cons_succ]
 refine wpAnyH_take (i := 4) (v := .slice a len cap) rfl (by decide +kernel) (by decide +kernel) (by decide +kernel) (fun _ _ _ h => absurd h.1 (by simp)) (Or.inl ⟨by rfl, fun wq hSq => by (have q := l0 wq hSq; go_simp)⟩) hS ?_
 simp only[Act.put,List.setIfInBounds_toArray,List.set_cons_zero,List.set_cons_succ]
 refine wpAnyH_take (i := 5) (v := .pointer (some ⟨nb, 2, none⟩)) rfl (by decide +kernel) (by decide +kernel) (by decide +kernel) (fun _ _ _ h => absurd h.1 (by simp)) (Or.inl ⟨by rfl, fun wq hSq => by first | rfl | go_simp⟩) hS ?_
 simp only[Act.put,List.setIfInBounds_toArray,List.set_cons_zero,List.set_cons_succ]
 refine wpAnyH_take (i := 6) (v := .slice ka kn kc) rfl (by decide +kernel) (by decide +kernel) (by decide +kernel) (fun _ _ _ h => absurd h.1 (by simp)) (Or.inl ⟨by rfl, fun wq hSq => by (have q := n2 wq hSq; go_simp)⟩) hS ?_
 simp only[Act.put,List.setIfInBounds_toArray,List.set_cons_zero,List.set_cons_succ]
 refine wpAnyH_ready (rs:=[1,7]) (by decide +kernel) (by simp) ?_
 refine AllReadyH.cons rfl (fun K hK => ?_) ?_
 ·skip
  have q:=dc X.drew (Fr.drew (Fr.refl [] X))
  go_simp
  refine hK.out _ _ hS (fun _=>?_)
  clear hK K
  try simp only[Act.put,List.setIfInBounds_toArray,List.set_cons_zero,List.set_cons_succ]
  refine wpAnyH_ready (rs:=[7]) (by decide +kernel) (by simp) ?_
  refine AllReadyH.cons rfl (fun K hK => ?_) AllReadyH.nil
  go_simp
  refine C68.mono ?_
  rintro e X1 ⟨nv,rfl,hn,f1'⟩
  have F1:Fr [] X X1:=(Fr.drew (Fr.refl [] X)).trans f1'
  obtain⟨na,nc,rfl,_⟩:=own_slice hn
  have hS:=F1.sub (T:=D::(Value.slice sa sn sc).ownBlock.toList) (by simp)
  refine hK.out _ _ hS (fun _=>?_)
  clear hK K
  try simp only[Act.put,List.setIfInBounds_toArray,List.set_cons_zero,List.set_cons_succ]
  refine wpAnyH_take (i := 8) (v := .agg #[.string tx, .slice na kn nc]) rfl (by decide +kernel) (by decide +kernel) (by decide +kernel) (fun _ _ _ h => absurd h.1 (by simp)) (Or.inl ⟨by rfl, fun wq hSq => by first | rfl | go_simp⟩) hS ?_
  simp only[Act.put,List.setIfInBounds_toArray,List.set_cons_zero,List.set_cons_succ]
  refine wpAnyH_ready (rs:=[9]) (by decide +kernel) (by simp) ?_
  refine AllReadyH.cons rfl (fun K hK => ?_) AllReadyH.nil
  go_simp
  have hS:=hS.alloc (.cells #[.string tx,.slice na kn nc] 58)
  refine hK.out _ _ hS (fun _=>?_)
  clear hK K
  try simp only[Act.put,List.setIfInBounds_toArray,List.set_cons_zero,List.set_cons_succ]
  refine wpAnyH_ready (rs:=[10]) (by decide +kernel) (by simp) ?_
  refine AllReadyH.cons rfl (fun K hK => ?_) AllReadyH.nil
  refine step_own rfl (.tmp 21) (.tmp 29) 24 rfl base 58 i58 _ 2 _ under24 hi hz hs2 hby rfl (by decide) (.slice sa sn sc) sn xs rfl ((own_fr hso F1 (by simp)).alloc _) ⟨X1.heap.size,0,none⟩ 1 1 [.string tx,.slice na kn nc] rfl rfl (new_two X1 _ _ _) (by simp[Value.oneCell']) (by unfold maxLen;omega) (by omega) (by have:=F1.size;simp;omega) ?_
  intro sv' X2 ho2 hg2 hl2
  have f2:Fr (Value.slice sa sn sc).ownBlock.toList X1 X2:=((Fr.refl _ _).alloc _).trans ((Fr.ofGrown hg2).sub (fun k hk=>.inl hk))
  have hD1:=(F1.block _ (Array.getElem?_eq_some_iff.1 hD).1 (by simp)).trans hD
  have hD2:=(f2.block _ (Array.getElem?_eq_some_iff.1 hD1).1 (by simp only[Option.mem_toList];exact own_ne (own_fr hso F1 (by simp)) hD1 (by decide))).trans hD1
  have hS:Fr (D::(Value.slice sa sn sc).ownBlock.toList) X X2:=(F1.sub (by simp)).trans (f2.sub (fun k hk=>.inl (by simp at hk;simp[hk])))
  obtain⟨sa',sc',rfl,_⟩:=own_slice ho2
  refine hK.out _ _ hS (fun _=>?_)
  clear hK K
  try simp only[Act.put,List.setIfInBounds_toArray,List.set_cons_zero,List.set_cons_succ]
  refine wpAnyH_take (i := 11) (v := .pointer (some ⟨D, 0, none⟩)) rfl (by decide +kernel) (by decide +kernel) (by decide +kernel) (fun _ _ _ h => absurd h.1 (by simp)) (Or.inl ⟨by rfl, fun wq hSq => by first | rfl | go_simp⟩) hS ?_
  simp only[Act.put,List.setIfInBounds_toArray,List.set_cons_zero,List.set_cons_succ]
  refine wpAnyH_ready (rs:=[12]) (by decide +kernel) (by simp) ?_
  refine AllReadyH.cons rfl (fun K hK => ?_) AllReadyH.nil
  have q:=at_cells hD2 0 rfl
  have z:X2.frozen? ⟨D,0,none⟩=false:=by simp[World.frozen?,hD2]
  go_simp
  have hS:=hS.setCell (p:=⟨D,0,none⟩) (.inl (by simp)) (.slice sa' (sn+1) sc')
  refine hK.out _ _ hS (fun _=>?_)
  clear hK K
  try simp only[Act.put,List.setIfInBounds_toArray,List.set_cons_zero,List.set_cons_succ]
  refine wpAnyH_done (by decide +kernel) ?_ _
  exact⟨rfl,h _ X1 X2 _ _ F1 hn f2 ho2⟩
 refine AllReadyH.cons rfl (fun K hK => ?_) AllReadyH.nil
 go_simp
 refine C68.mono ?_
 rintro e X1 ⟨nv,rfl,hn,f1'⟩
 have F1:Fr [] X X1:=(Fr.drew (Fr.refl [] X)).trans f1'
 obtain⟨na,nc,rfl,_⟩:=own_slice hn
 have hS:=F1.sub (T:=D::(Value.slice sa sn sc).ownBlock.toList) (by simp)
 refine hK.out _ _ hS (fun _=>?_)
 clear hK K
 try simp only[Act.put,List.setIfInBounds_toArray,List.set_cons_zero,List.set_cons_succ]
 refine wpAnyH_take (i := 8) (v := .agg #[.string tx, .slice na kn nc]) rfl (by decide +kernel) (by decide +kernel) (by decide +kernel) (fun _ _ _ h => absurd h.1 (by simp)) (Or.inl ⟨by rfl, fun wq hSq => by first | rfl | go_simp⟩) hS ?_
 simp only[Act.put,List.setIfInBounds_toArray,List.set_cons_zero,List.set_cons_succ]
 refine wpAnyH_ready (rs:=[1,9]) (by decide +kernel) (by simp) ?_
 refine AllReadyH.cons rfl (fun K hK => ?_) ?_
 ·skip
  have q:=dc X1 F1
  go_simp
  refine hK.out _ _ hS (fun _=>?_)
  clear hK K
  try simp only[Act.put,List.setIfInBounds_toArray,List.set_cons_zero,List.set_cons_succ]
  refine wpAnyH_ready (rs:=[9]) (by decide +kernel) (by simp) ?_
  refine AllReadyH.cons rfl (fun K hK => ?_) AllReadyH.nil
  go_simp
  have hS:=hS.alloc (.cells #[.string tx,.slice na kn nc] 58)
  refine hK.out _ _ hS (fun _=>?_)
  clear hK K
  try simp only[Act.put,List.setIfInBounds_toArray,List.set_cons_zero,List.set_cons_succ]
  refine wpAnyH_ready (rs:=[10]) (by decide +kernel) (by simp) ?_
  refine AllReadyH.cons rfl (fun K hK => ?_) AllReadyH.nil
  refine step_own rfl (.tmp 21) (.tmp 29) 24 rfl base 58 i58 _ 2 _ under24 hi hz hs2 hby rfl (by decide) (.slice sa sn sc) sn xs rfl ((own_fr hso F1 (by simp)).alloc _) ⟨X1.heap.size,0,none⟩ 1 1 [.string tx,.slice na kn nc] rfl rfl (new_two X1 _ _ _) (by simp[Value.oneCell']) (by unfold maxLen;omega) (by omega) (by have:=F1.size;simp;omega) ?_
  intro sv' X2 ho2 hg2 hl2
  have f2:Fr (Value.slice sa sn sc).ownBlock.toList X1 X2:=((Fr.refl _ _).alloc _).trans ((Fr.ofGrown hg2).sub (fun k hk=>.inl hk))
  have hD1:=(F1.block _ (Array.getElem?_eq_some_iff.1 hD).1 (by simp)).trans hD
  have hD2:=(f2.block _ (Array.getElem?_eq_some_iff.1 hD1).1 (by simp only[Option.mem_toList];exact own_ne (own_fr hso F1 (by simp)) hD1 (by decide))).trans hD1
  have hS:Fr (D::(Value.slice sa sn sc).ownBlock.toList) X X2:=(F1.sub (by simp)).trans (f2.sub (fun k hk=>.inl (by simp at hk;simp[hk])))
  obtain⟨sa',sc',rfl,_⟩:=own_slice ho2
  refine hK.out _ _ hS (fun _=>?_)
  clear hK K
  try simp only[Act.put,List.setIfInBounds_toArray,List.set_cons_zero,List.set_cons_succ]
  refine wpAnyH_take (i := 11) (v := .pointer (some ⟨D, 0, none⟩)) rfl (by decide +kernel) (by decide +kernel) (by decide +kernel) (fun _ _ _ h => absurd h.1 (by simp)) (Or.inl ⟨by rfl, fun wq hSq => by first | rfl | go_simp⟩) hS ?_
  simp only[Act.put,List.setIfInBounds_toArray,List.set_cons_zero,List.set_cons_succ]
  refine wpAnyH_ready (rs:=[12]) (by decide +kernel) (by simp) ?_
  refine AllReadyH.cons rfl (fun K hK => ?_) AllReadyH.nil
  have q:=at_cells hD2 0 rfl
  have z:X2.frozen? ⟨D,0,none⟩=false:=by simp[World.frozen?,hD2]
  go_simp
  have hS:=hS.setCell (p:=⟨D,0,none⟩) (.inl (by simp)) (.slice sa' (sn+1) sc')
  refine hK.out _ _ hS (fun _=>?_)
  clear hK K
  try simp only[Act.put,List.setIfInBounds_toArray,List.set_cons_zero,List.set_cons_succ]
  refine wpAnyH_done (by decide +kernel) ?_ _
  exact⟨rfl,h _ X1 X2 _ _ F1 hn f2 ho2⟩
 refine AllReadyH.cons rfl (fun K hK => ?_) AllReadyH.nil
 go_simp
 have hS:=hS.alloc (.cells #[.string tx,.slice na kn nc] 58)
 refine hK.out _ _ hS (fun _=>?_)
 clear hK K
 try simp only[Act.put,List.setIfInBounds_toArray,List.set_cons_zero,List.set_cons_succ]
 refine wpAnyH_ready (rs:=[1]) (by decide +kernel) (by simp) ?_
 refine AllReadyH.cons rfl (fun K hK => ?_) AllReadyH.nil
 have q:=dc (X1.alloc (.cells #[.string tx,.slice na kn nc] 58)) (F1.alloc _)
 go_simp
 refine hK.out _ _ hS (fun _=>?_)
 clear hK K
 try simp only[Act.put,List.setIfInBounds_toArray,List.set_cons_zero,List.set_cons_succ]
 refine wpAnyH_ready (rs:=[10]) (by decide +kernel) (by simp) ?_
 refine AllReadyH.cons rfl (fun K hK => ?_) AllReadyH.nil
 refine step_own rfl (.tmp 21) (.tmp 29) 24 rfl base 58 i58 _ 2 _ under24 hi hz hs2 hby rfl (by decide) (.slice sa sn sc) sn xs rfl ((own_fr hso F1 (by simp)).alloc _) ⟨X1.heap.size,0,none⟩ 1 1 [.string tx,.slice na kn nc] rfl rfl (new_two X1 _ _ _) (by simp[Value.oneCell']) (by unfold maxLen;omega) (by omega) (by have:=F1.size;simp;omega) ?_
 intro sv' X2 ho2 hg2 hl2
 have f2:Fr (Value.slice sa sn sc).ownBlock.toList X1 X2:=((Fr.refl _ _).alloc _).trans ((Fr.ofGrown hg2).sub (fun k hk=>.inl hk))
 have hD1:=(F1.block _ (Array.getElem?_eq_some_iff.1 hD).1 (by simp)).trans hD
 have hD2:=(f2.block _ (Array.getElem?_eq_some_iff.1 hD1).1 (by simp only[Option.mem_toList];exact own_ne (own_fr hso F1 (by simp)) hD1 (by decide))).trans hD1
 have hS:Fr (D::(Value.slice sa sn sc).ownBlock.toList) X X2:=(F1.sub (by simp)).trans (f2.sub (fun k hk=>.inl (by simp at hk;simp[hk])))
 obtain⟨sa',sc',rfl,_⟩:=own_slice ho2
 refine hK.out _ _ hS (fun _=>?_)
 clear hK K
 try simp only[Act.put,List.setIfInBounds_toArray,List.set_cons_zero,List.set_cons_succ]
 refine wpAnyH_take (i := 11) (v := .pointer (some ⟨D, 0, none⟩)) rfl (by decide +kernel) (by decide +kernel) (by decide +kernel) (fun _ _ _ h => absurd h.1 (by simp)) (Or.inl ⟨by rfl, fun wq hSq => by first | rfl | go_simp⟩) hS ?_
 simp only[Act.put,List.setIfInBounds_toArray,List.set_cons_zero,List.set_cons_succ]
 refine wpAnyH_ready (rs:=[12]) (by decide +kernel) (by simp) ?_
 refine AllReadyH.cons rfl (fun K hK => ?_) AllReadyH.nil
 have q:=at_cells hD2 0 rfl
 have z:X2.frozen? ⟨D,0,none⟩=false:=by simp[World.frozen?,hD2]
 go_simp
 have hS:=hS.setCell (p:=⟨D,0,none⟩) (.inl (by simp)) (.slice sa' (sn+1) sc')
 refine hK.out _ _ hS (fun _=>?_)
 clear hK K
 try simp only[Act.put,List.setIfInBounds_toArray,List.set_cons_zero,List.set_cons_succ]
 refine wpAnyH_done (by decide +kernel) ?_ _
 exact⟨rfl,h _ X1 X2 _ _ F1 hn f2 ho2⟩
theorem info61:(Tryz.prog.info? 61).map (fun i=>(i.zero,i.size,i.bytes))=some (some (.agg #[.string ⟨#[]⟩,.int .i64 0,.slice none 0 0,.int .i64 0]),4,56):=by kernel_rfl
theorem under25:Tryz.prog.underlying 25=some (.slice 61):=by kernel_rfl
theorem new_four (X:World) (u v u2 v2:Value) (t:TypeId) : ∀ j x,[u,v,u2,v2][j]? = some x→(X.alloc (.cells #[u,v,u2,v2] t)).cell? ((⟨X.heap.size,0,none⟩ : Addr).add j)=some x:=by
 intro j x hx
 have hadd:(⟨X.heap.size,0,none⟩ : Addr).add j = ⟨X.heap.size,j,none⟩:=by unfold Addr.add;split <;> simp_all
 rw[hadd]
 exact at_cells (heap_alloc_new X _) j (by simpa using hx)
set_option maxHeartbeats 4000000 in
theorem reg12 {l:Nat} {X:World} {D nb lb base B:Nat} {sa:Option Addr} {sn sc:Nat} {xs:List Value} {x0 x2 x3:Value} (hD:X.heap[D]? = some (.cells #[x0,.slice sa sn sc,x2,x3] 28 (0,0))) (hso:X.ownsRow base 61 4 (.slice sa sn sc) sn xs) (hsn:sn≤50000) (hbase:base≤X.heap.size)
 {kind pl:Int} {tx:ByteArray} {y2:Value} (hN:X.heap[nb]? = some (.cells #[.int .i64 kind,.string tx,y2,.int .i64 pl] 55 (0,0))) {ka:Option Addr} {kn kc nd:Nat} {L:List Nd} {a:Option Addr} {len cap:Nat} (hlb:X.heap[lb]? = some (.cells #[.slice a len cap] 23 (0,0)))
 (hlen:L.length=len) (hL:NAt B X a L) (hlm:len≤50000) {ks:List Int} (hk:KAt B X ka ks) (hkn:ks.length=kn) (hkm:kn≤50000) (hks:∀ k∈ks,0≤k∧k<len) {Q:Exit→Act→World→Prop} {s0 s2 s7 s8 s9 s10 s11 s12 s13 s14 s15 s16 s17 s18 s19 s20 s21 s22 s23 s24 s25 s26 s27 s28 s29 s30 s31 s32 s33 s34 s35 s36 s37 s38 s39 s40 s41 s42 s43 s44 s45 s46 s47 s48 s49 s50 s51 s52 s53 s54 s55 s56 s57 s58 s59 s60 s61 s62 s63 s64 s65 s66 s67 s68 s69 s70 s71 s72 s73 s74 s75 s76 s77 s78 s79 s80 s81 s82 s83 s84 s85:Value}
 (h:∀ a' X1 X2 nv sv',Fr [] X X1→X1.ownsRow X.heap.size 9 1 nv kn (stC (ks.map (fun k=>tbN L k.toNat)))→Fr (Value.slice sa sn sc).ownBlock.toList X1 X2→X2.ownsRow base 61 4 sv' (sn+1) (xs++[.string tx,.int .i64 kn,nv,.int .i64 nd])→Q .normal a' (X2.setCell ⟨D,1,none⟩ sv')) :
 (Code.region 12 #[{ dst := some 43, op := Op.fieldAddr 28 (Operand.tmp 3) 1, type := 0, pos := "check.go:71", after := #[], guard := none }, { dst := some 44, op := Op.load 25 (Operand.tmp 43), type := 25, pos := "check.go:71", after := #[{ on := 0, ground := Ground.data }], guard := none }, { dst := some 45, op := Op.fieldAddr 55 (Operand.tmp 5) 1, type := 0, pos := "check.go:71", after := #[], guard := none }, { dst := some 46, op := Op.load 9 (Operand.tmp 45), type := 9, pos := "check.go:71", after := #[{ on := 2, ground := Ground.data }], guard := none }, { dst := some 47, op := Op.move (Operand.tmp 6), type := 26, pos := "check.go:71", after := #[], guard := none }, { dst := some 48, op := Op.call { callee := Callee.builtin Builtin.len, args := #[Operand.tmp 47], argTypes := #[26] }, type := 3, pos := "check.go:71", after := #[{ on := 4, ground := Ground.data }], guard := none }, { dst := some 49, op := Op.load 23 (Operand.tmp 1), type := 23, pos := "check.go:71", after := #[], guard := none }, { dst := some 50, op := Op.move (Operand.tmp 6), type := 26, pos := "check.go:71", after := #[], guard := none }, { dst := some 51, op := Op.call { callee := Callee.value (Operand.func 68), args := #[Operand.tmp 49, Operand.tmp 50], argTypes := #[23, 26] }, type := 56, pos := "check.go:71", after := #[{ on := 6, ground := Ground.data }, { on := 7, ground := Ground.data }], guard := none }, { dst := some 52, op := Op.move (Operand.tmp 4), type := 3, pos := "check.go:71", after := #[], guard := none }, { dst := some 53, op := Op.build 61 #[(0, Operand.tmp 46), (1, Operand.tmp 48), (2, Operand.tmp 51), (3, Operand.tmp 52)], type := 61, pos := "check.go:71", after := #[{ on := 3, ground := Ground.data }, { on := 5, ground := Ground.data }, { on := 8, ground := Ground.data }, { on := 9, ground := Ground.data }], guard := none }, { dst := some 54, op := Op.buildSlice 25 1 #[(0, Operand.tmp 53)], type := 25, pos := "check.go:71", after := #[{ on := 10, ground := Ground.data }], guard := none }, { dst := some 55, op := Op.call { callee := Callee.builtin Builtin.append, args := #[Operand.tmp 44, Operand.tmp 54], argTypes := #[25, 25] }, type := 25, pos := "check.go:71", after := #[{ on := 1, ground := Ground.data }, { on := 11, ground := Ground.data }, { on := 8, ground := Ground.chain }], guard := none }, { dst := some 56, op := Op.fieldAddr 28 (Operand.tmp 3) 1, type := 0, pos := "check.go:71", after := #[{ on := 0, ground := Ground.phase }, { on := 1, ground := Ground.phase }, { on := 2, ground := Ground.phase }, { on := 3, ground := Ground.phase }, { on := 4, ground := Ground.phase }, { on := 5, ground := Ground.phase }, { on := 6, ground := Ground.phase }, { on := 7, ground := Ground.phase }, { on := 8, ground := Ground.phase }, { on := 9, ground := Ground.phase }, { on := 10, ground := Ground.phase }, { on := 11, ground := Ground.phase }, { on := 12, ground := Ground.phase }], guard := none }, { dst := none, op := Op.store 25 (Operand.tmp 56) (Operand.tmp 55), type := 0, pos := "check.go:71", after := #[{ on := 13, ground := Ground.data }, { on := 12, ground := Ground.data }, { on := 12, ground := Ground.chain }, { on := 0, ground := Ground.phase }, { on := 1, ground := Ground.phase }, { on := 2, ground := Ground.phase }, { on := 3, ground := Ground.phase }, { on := 4, ground := Ground.phase }, { on := 5, ground := Ground.phase }, { on := 6, ground := Ground.phase }, { on := 7, ground := Ground.phase }, { on := 8, ground := Ground.phase }, { on := 9, ground := Ground.phase }, { on := 10, ground := Ground.phase }, { on := 11, ground := Ground.phase }, { on := 12, ground := Ground.phase }], guard := none }] true).wpIn (Fence.wide.inRound l) 0 Tryz.prog Q { tmps := #[s0, .pointer (some ⟨lb, 0, none⟩), s2, .pointer (some ⟨D, 0, none⟩), .int .i64 nd, .pointer (some ⟨nb, 0, none⟩), .slice ka kn kc, s7, s8, s9, s10, s11, s12, s13, s14, s15, s16, s17, s18, s19, s20, s21, s22, s23, s24, s25, s26, s27, s28, s29, s30, s31, s32, s33, s34, s35, s36, s37, s38, s39, s40, s41, s42, s43, s44, s45, s46, s47, s48, s49, s50, s51, s52, s53, s54, s55, s56, s57, s58, s59, s60, s61, s62, s63, s64, s65, s66, s67, s68, s69, s70, s71, s72, s73, s74, s75, s76, s77, s78, s79, s80, s81, s82, s83, s84, s85], defers := [] } X := by
 obtain⟨i61,hi,hz,hs2,hby⟩:=info_parts info61
 have C68:=texts_any B L X.drew a len cap hlen (hL.fr (Fr.drew (Fr.refl [] X)) (by simp)) hlm (kc:=kc) (hk.fr (Fr.drew (Fr.refl [] X)) (by simp)) hkn hkm hks
 have nS:∀ {k:Nat} {c:Array Value} {t:TypeId} {z:Nat×Nat},X.heap[k]? = some (.cells c t z)→t≠28→t≠61→k∉D::(Value.slice sa sn sc).ownBlock.toList:=by
  intro k c t z hk h1 h2 hm
  rw[List.mem_cons] at hm
  rcases hm with rfl | hm
  ·rw[hD] at hk;injection hk with hk;injection hk with _ h3 _;exact h1 h3.symm
  ·rw[Option.mem_toList] at hm;exact own_ne hso hk h2 hm
 have n1:∀ w',Fr (D::(Value.slice sa sn sc).ownBlock.toList) X w'→w'.cell? ⟨nb,1,none⟩=some (.string tx):=fun w' f=>f.cell1 (at_cells hN 1 rfl) (nS hN (by decide) (by decide))
 have l0:∀ w',Fr (D::(Value.slice sa sn sc).ownBlock.toList) X w'→w'.cell? ⟨lb,0,none⟩=some (.slice a len cap):=fun w' f=>f.cell1 (at_cells hlb 0 rfl) (nS hlb (by decide) (by decide))
 have dc:∀ w',Fr [] X w'→w'.cell? ⟨D,1,none⟩=some (.slice sa sn sc):=fun w' f=>f.cell1 (at_cells hD 1 rfl) (by simp)
 clear nS hlb hN hL hk
 refine region_round (S:=fun w'=>Fr (D::(Value.slice sa sn sc).ownBlock.toList) X w') (N:=fun a w=>Q .normal a w) (by kernel_rfl) (by decide +kernel) (fun _ _ h=>h) ?_
 have hS:Fr (D::(Value.slice sa sn sc).ownBlock.toList) X X.drew:=Fr.drew (Fr.refl _ X)
 refine wpAnyH_take (i := 0) (v := .pointer (some ⟨D, 1, none⟩)) rfl (by decide +kernel) (by decide +kernel) (by decide +kernel) (fun _ _ _ h => absurd h.1 (by simp)) (Or.inl ⟨by rfl, fun wq hSq => by first | rfl | go_simp⟩) hS ?_
 simp only[Act.put,List.setIfInBounds_toArray,List.set_cons_zero,List.set_cons_succ]
 refine wpAnyH_take (i := 2) (v := .pointer (some ⟨nb, 1, none⟩)) rfl (by decide +kernel) (by decide +kernel) (by decide +kernel) (fun _ _ _ h => absurd h.1 (by simp)) (Or.inl ⟨by rfl, fun wq hSq => by first | rfl | go_simp⟩) hS ?_
 simp only[Act.put,List.setIfInBounds_toArray,List.set_cons_zero,List.set_cons_succ]
 refine wpAnyH_take (i := 3) (v := .string tx) rfl (by decide +kernel) (by decide +kernel) (by decide +kernel) (fun _ _ _ h => absurd h.1 (by simp)) (Or.inl ⟨by rfl, fun wq hSq => by (have q := n1 wq hSq; go_simp)⟩) hS ?_
 simp only[Act.put,List.setIfInBounds_toArray,List.set_cons_zero,List.set_cons_succ]
 refine wpAnyH_take (i := 4) (v := .slice ka kn kc) rfl (by decide +kernel) (by decide +kernel) (by decide +kernel) (fun _ _ _ h => absurd h.1 (by simp)) (Or.inl ⟨by rfl, fun wq hSq => by first | rfl | go_simp⟩) hS ?_
 simp only[Act.put,List.setIfInBounds_toArray,List.set_cons_zero,List.set_cons_succ]
 refine wpAnyH_take (i := 5) (v := .int .i64 kn) rfl (by decide +kernel) (by decide +kernel) (by decide +kernel) (fun _ _ _ h => absurd h.1 (by simp)) (Or.inl ⟨by rfl, fun wq hSq => by first | rfl | go_simp⟩) hS ?_
 simp only[Act.put,List.setIfInBounds_toArray,List.set_cons_zero,List.set_cons_succ]
 refine wpAnyH_take (i := 6) (v := .slice a len cap) rfl (by decide +kernel) (by decide +kernel) (by decide +kernel) (fun _ _ _ h => absurd h.1 (by simp)) (Or.inl ⟨by rfl, fun wq hSq => by (have q := l0 wq hSq; go_simp)⟩) hS ?_
 simp only[Act.put,List.setIfInBounds_toArray,List.set_cons_zero,List.set_cons_succ]
 refine wpAnyH_take (i := 7) (v := .slice ka kn kc) rfl (by decide +kernel) (by decide +kernel) (by decide +kernel) (fun _ _ _ h => absurd h.1 (by simp)) (Or.inl ⟨by rfl, fun wq hSq => by first | rfl | go_simp⟩) hS ?_
 simp only[Act.put,List.setIfInBounds_toArray,List.set_cons_zero,List.set_cons_succ]
 refine wpAnyH_take (i := 9) (v := .int .i64 nd) rfl (by decide +kernel) (by decide +kernel) (by decide +kernel) (fun _ _ _ h => absurd h.1 (by simp)) (Or.inl ⟨by rfl, fun wq hSq => by first | rfl | go_simp⟩) hS ?_
 simp only[Act.put,List.setIfInBounds_toArray,List.set_cons_zero,List.set_cons_succ]
 refine wpAnyH_ready (rs:=[1,8]) (by decide +kernel) (by simp) ?_
 refine AllReadyH.cons rfl (fun K hK => ?_) ?_
 ·skip
  have q:=dc X.drew (Fr.drew (Fr.refl [] X))
  go_simp
  refine hK.out _ _ hS (fun _=>?_)
  clear hK K
  try simp only[Act.put,List.setIfInBounds_toArray,List.set_cons_zero,List.set_cons_succ]
  refine wpAnyH_ready (rs:=[8]) (by decide +kernel) (by simp) ?_
  refine AllReadyH.cons rfl (fun K hK => ?_) AllReadyH.nil
  go_simp
  refine C68.mono ?_
  rintro e X1 ⟨nv,rfl,hn,f1'⟩
  have F1:Fr [] X X1:=(Fr.drew (Fr.refl [] X)).trans f1'
  obtain⟨na,nc,rfl,_⟩:=own_slice hn
  have hS:=F1.sub (T:=D::(Value.slice sa sn sc).ownBlock.toList) (by simp)
  refine hK.out _ _ hS (fun _=>?_)
  clear hK K
  try simp only[Act.put,List.setIfInBounds_toArray,List.set_cons_zero,List.set_cons_succ]
  refine wpAnyH_take (i := 10) (v := .agg #[.string tx, .int .i64 kn, .slice na kn nc, .int .i64 nd]) rfl (by decide +kernel) (by decide +kernel) (by decide +kernel) (fun _ _ _ h => absurd h.1 (by simp)) (Or.inl ⟨by rfl, fun wq hSq => by first | rfl | go_simp⟩) hS ?_
  simp only[Act.put,List.setIfInBounds_toArray,List.set_cons_zero,List.set_cons_succ]
  refine wpAnyH_ready (rs:=[11]) (by decide +kernel) (by simp) ?_
  refine AllReadyH.cons rfl (fun K hK => ?_) AllReadyH.nil
  go_simp
  have hS:=hS.alloc (.cells #[.string tx,.int .i64 kn,.slice na kn nc,.int .i64 nd] 61)
  refine hK.out _ _ hS (fun _=>?_)
  clear hK K
  try simp only[Act.put,List.setIfInBounds_toArray,List.set_cons_zero,List.set_cons_succ]
  refine wpAnyH_ready (rs:=[12]) (by decide +kernel) (by simp) ?_
  refine AllReadyH.cons rfl (fun K hK => ?_) AllReadyH.nil
  refine step_own rfl (.tmp 44) (.tmp 54) 25 rfl base 61 i61 _ 4 _ under25 hi hz hs2 hby rfl (by decide) (.slice sa sn sc) sn xs rfl ((own_fr hso F1 (by simp)).alloc _) ⟨X1.heap.size,0,none⟩ 1 1 [.string tx,.int .i64 kn,.slice na kn nc,.int .i64 nd] rfl rfl (new_four X1 _ _ _ _ _) (by simp[Value.oneCell']) (by unfold maxLen;omega) (by omega) (by have:=F1.size;simp;omega) ?_
  intro sv' X2 ho2 hg2 hl2
  have f2:Fr (Value.slice sa sn sc).ownBlock.toList X1 X2:=((Fr.refl _ _).alloc _).trans ((Fr.ofGrown hg2).sub (fun k hk=>.inl hk))
  have hD1:=(F1.block _ (Array.getElem?_eq_some_iff.1 hD).1 (by simp)).trans hD
  have hD2:=(f2.block _ (Array.getElem?_eq_some_iff.1 hD1).1 (by simp only[Option.mem_toList];exact own_ne (own_fr hso F1 (by simp)) hD1 (by decide))).trans hD1
  have hS:Fr (D::(Value.slice sa sn sc).ownBlock.toList) X X2:=(F1.sub (by simp)).trans (f2.sub (fun k hk=>.inl (by simp at hk;simp[hk])))
  obtain⟨sa',sc',rfl,_⟩:=own_slice ho2
  refine hK.out _ _ hS (fun _=>?_)
  clear hK K
  try simp only[Act.put,List.setIfInBounds_toArray,List.set_cons_zero,List.set_cons_succ]
  refine wpAnyH_take (i := 13) (v := .pointer (some ⟨D, 1, none⟩)) rfl (by decide +kernel) (by decide +kernel) (by decide +kernel) (fun _ _ _ h => absurd h.1 (by simp)) (Or.inl ⟨by rfl, fun wq hSq => by first | rfl | go_simp⟩) hS ?_
  simp only[Act.put,List.setIfInBounds_toArray,List.set_cons_zero,List.set_cons_succ]
  refine wpAnyH_ready (rs:=[14]) (by decide +kernel) (by simp) ?_
  refine AllReadyH.cons rfl (fun K hK => ?_) AllReadyH.nil
  have q:=at_cells hD2 1 rfl
  have z:X2.frozen? ⟨D,1,none⟩=false:=by simp[World.frozen?,hD2]
  go_simp
  have hS:=hS.setCell (p:=⟨D,1,none⟩) (.inl (by simp)) (.slice sa' (sn+1) sc')
  refine hK.out _ _ hS (fun _=>?_)
  clear hK K
  try simp only[Act.put,List.setIfInBounds_toArray,List.set_cons_zero,List.set_cons_succ]
  refine wpAnyH_done (by decide +kernel) ?_ _
  exact⟨rfl,h _ X1 X2 _ _ F1 hn f2 ho2⟩
 refine AllReadyH.cons rfl (fun K hK => ?_) AllReadyH.nil
 go_simp
 refine C68.mono ?_
 rintro e X1 ⟨nv,rfl,hn,f1'⟩
 have F1:Fr [] X X1:=(Fr.drew (Fr.refl [] X)).trans f1'
 obtain⟨na,nc,rfl,_⟩:=own_slice hn
 have hS:=F1.sub (T:=D::(Value.slice sa sn sc).ownBlock.toList) (by simp)
 refine hK.out _ _ hS (fun _=>?_)
 clear hK K
 try simp only[Act.put,List.setIfInBounds_toArray,List.set_cons_zero,List.set_cons_succ]
 refine wpAnyH_take (i := 10) (v := .agg #[.string tx, .int .i64 kn, .slice na kn nc, .int .i64 nd]) rfl (by decide +kernel) (by decide +kernel) (by decide +kernel) (fun _ _ _ h => absurd h.1 (by simp)) (Or.inl ⟨by rfl, fun wq hSq => by first | rfl | go_simp⟩) hS ?_
 simp only[Act.put,List.setIfInBounds_toArray,List.set_cons_zero,List.set_cons_succ]
 refine wpAnyH_ready (rs:=[1,11]) (by decide +kernel) (by simp) ?_
 refine AllReadyH.cons rfl (fun K hK => ?_) ?_
 ·skip
  have q:=dc X1 F1
  go_simp
  refine hK.out _ _ hS (fun _=>?_)
  clear hK K
  try simp only[Act.put,List.setIfInBounds_toArray,List.set_cons_zero,List.set_cons_succ]
  refine wpAnyH_ready (rs:=[11]) (by decide +kernel) (by simp) ?_
  refine AllReadyH.cons rfl (fun K hK => ?_) AllReadyH.nil
  go_simp
  have hS:=hS.alloc (.cells #[.string tx,.int .i64 kn,.slice na kn nc,.int .i64 nd] 61)
  refine hK.out _ _ hS (fun _=>?_)
  clear hK K
  try simp only[Act.put,List.setIfInBounds_toArray,List.set_cons_zero,List.set_cons_succ]
  refine wpAnyH_ready (rs:=[12]) (by decide +kernel) (by simp) ?_
  refine AllReadyH.cons rfl (fun K hK => ?_) AllReadyH.nil
  refine step_own rfl (.tmp 44) (.tmp 54) 25 rfl base 61 i61 _ 4 _ under25 hi hz hs2 hby rfl (by decide) (.slice sa sn sc) sn xs rfl ((own_fr hso F1 (by simp)).alloc _) ⟨X1.heap.size,0,none⟩ 1 1 [.string tx,.int .i64 kn,.slice na kn nc,.int .i64 nd] rfl rfl (new_four X1 _ _ _ _ _) (by simp[Value.oneCell']) (by unfold maxLen;omega) (by omega) (by have:=F1.size;simp;omega) ?_
  intro sv' X2 ho2 hg2 hl2
  have f2:Fr (Value.slice sa sn sc).ownBlock.toList X1 X2:=((Fr.refl _ _).alloc _).trans ((Fr.ofGrown hg2).sub (fun k hk=>.inl hk))
  have hD1:=(F1.block _ (Array.getElem?_eq_some_iff.1 hD).1 (by simp)).trans hD
  have hD2:=(f2.block _ (Array.getElem?_eq_some_iff.1 hD1).1 (by simp only[Option.mem_toList];exact own_ne (own_fr hso F1 (by simp)) hD1 (by decide))).trans hD1
  have hS:Fr (D::(Value.slice sa sn sc).ownBlock.toList) X X2:=(F1.sub (by simp)).trans (f2.sub (fun k hk=>.inl (by simp at hk;simp[hk])))
  obtain⟨sa',sc',rfl,_⟩:=own_slice ho2
  refine hK.out _ _ hS (fun _=>?_)
  clear hK K
  try simp only[Act.put,List.setIfInBounds_toArray,List.set_cons_zero,List.set_cons_succ]
  refine wpAnyH_take (i := 13) (v := .pointer (some ⟨D, 1, none⟩)) rfl (by decide +kernel) (by decide +kernel) (by decide +kernel) (fun _ _ _ h => absurd h.1 (by simp)) (Or.inl ⟨by rfl, fun wq hSq => by first | rfl | go_simp⟩) hS ?_
  simp only[Act.put,List.setIfInBounds_toArray,List.set_cons_zero,List.set_cons_succ]
  refine wpAnyH_ready (rs:=[14]) (by decide +kernel) (by simp) ?_
  refine AllReadyH.cons rfl (fun K hK => ?_) AllReadyH.nil
  have q:=at_cells hD2 1 rfl
  have z:X2.frozen? ⟨D,1,none⟩=false:=by simp[World.frozen?,hD2]
  go_simp
  have hS:=hS.setCell (p:=⟨D,1,none⟩) (.inl (by simp)) (.slice sa' (sn+1) sc')
  refine hK.out _ _ hS (fun _=>?_)
  clear hK K
  try simp only[Act.put,List.setIfInBounds_toArray,List.set_cons_zero,List.set_cons_succ]
  refine wpAnyH_done (by decide +kernel) ?_ _
  exact⟨rfl,h _ X1 X2 _ _ F1 hn f2 ho2⟩
 refine AllReadyH.cons rfl (fun K hK => ?_) AllReadyH.nil
 go_simp
 have hS:=hS.alloc (.cells #[.string tx,.int .i64 kn,.slice na kn nc,.int .i64 nd] 61)
 refine hK.out _ _ hS (fun _=>?_)
 clear hK K
 try simp only[Act.put,List.setIfInBounds_toArray,List.set_cons_zero,List.set_cons_succ]
 refine wpAnyH_ready (rs:=[1]) (by decide +kernel) (by simp) ?_
 refine AllReadyH.cons rfl (fun K hK => ?_) AllReadyH.nil
 have q:=dc (X1.alloc (.cells #[.string tx,.int .i64 kn,.slice na kn nc,.int .i64 nd] 61)) (F1.alloc _)
 go_simp
 refine hK.out _ _ hS (fun _=>?_)
 clear hK K
 try simp only[Act.put,List.setIfInBounds_toArray,List.set_cons_zero,List.set_cons_succ]
 refine wpAnyH_ready (rs:=[12]) (by decide +kernel) (by simp) ?_
 refine AllReadyH.cons rfl (fun K hK => ?_) AllReadyH.nil
 refine step_own rfl (.tmp 44) (.tmp 54) 25 rfl base 61 i61 _ 4 _ under25 hi hz hs2 hby rfl (by decide) (.slice sa sn sc) sn xs rfl ((own_fr hso F1 (by simp)).alloc _) ⟨X1.heap.size,0,none⟩ 1 1 [.string tx,.int .i64 kn,.slice na kn nc,.int .i64 nd] rfl rfl (new_four X1 _ _ _ _ _) (by simp[Value.oneCell']) (by unfold maxLen;omega) (by omega) (by have:=F1.size;simp;omega) ?_
 intro sv' X2 ho2 hg2 hl2
 have f2:Fr (Value.slice sa sn sc).ownBlock.toList X1 X2:=((Fr.refl _ _).alloc _).trans ((Fr.ofGrown hg2).sub (fun k hk=>.inl hk))
 have hD1:=(F1.block _ (Array.getElem?_eq_some_iff.1 hD).1 (by simp)).trans hD
 have hD2:=(f2.block _ (Array.getElem?_eq_some_iff.1 hD1).1 (by simp only[Option.mem_toList];exact own_ne (own_fr hso F1 (by simp)) hD1 (by decide))).trans hD1
 have hS:Fr (D::(Value.slice sa sn sc).ownBlock.toList) X X2:=(F1.sub (by simp)).trans (f2.sub (fun k hk=>.inl (by simp at hk;simp[hk])))
 obtain⟨sa',sc',rfl,_⟩:=own_slice ho2
 refine hK.out _ _ hS (fun _=>?_)
 clear hK K
 try simp only[Act.put,List.setIfInBounds_toArray,List.set_cons_zero,List.set_cons_succ]
 refine wpAnyH_take (i := 13) (v := .pointer (some ⟨D, 1, none⟩)) rfl (by decide +kernel) (by decide +kernel) (by decide +kernel) (fun _ _ _ h => absurd h.1 (by simp)) (Or.inl ⟨by rfl, fun wq hSq => by first | rfl | go_simp⟩) hS ?_
 simp only[Act.put,List.setIfInBounds_toArray,List.set_cons_zero,List.set_cons_succ]
 refine wpAnyH_ready (rs:=[14]) (by decide +kernel) (by simp) ?_
 refine AllReadyH.cons rfl (fun K hK => ?_) AllReadyH.nil
 have q:=at_cells hD2 1 rfl
 have z:X2.frozen? ⟨D,1,none⟩=false:=by simp[World.frozen?,hD2]
 go_simp
 have hS:=hS.setCell (p:=⟨D,1,none⟩) (.inl (by simp)) (.slice sa' (sn+1) sc')
 refine hK.out _ _ hS (fun _=>?_)
 clear hK K
 try simp only[Act.put,List.setIfInBounds_toArray,List.set_cons_zero,List.set_cons_succ]
 refine wpAnyH_done (by decide +kernel) ?_ _
 exact⟨rfl,h _ X1 X2 _ _ F1 hn f2 ho2⟩
set_option maxHeartbeats 4000000 in
theorem reg15 {l:Nat} {X:World} {gb fo nb base:Nat} {cur:Array Value} (hg:X.heap[gb]? = some (.cells cur 61 (0,0))) {va:Option Addr} {vn vc:Nat} (hgc:X.cell? ⟨gb,fo+2,none⟩=some (.slice va vn vc)) {xs:List Value} (hso:X.ownsRow base 9 1 (.slice va vn vc) vn xs) (hsn:vn≤200000) (hbase:base≤X.heap.size)
 {y0 y2 y3:Value} {tx:ByteArray} (hN:X.heap[nb]? = some (.cells #[y0,.string tx,y2,y3] 55 (0,0))) {Q:Exit→Act→World→Prop} {s0 s1 s2 s3 s4 s6 s8 s9 s10 s11 s12 s13 s14 s15 s16 s17 s18 s19 s20 s21 s22 s23 s24 s25 s26 s27 s28 s29 s30 s31 s32 s33 s34 s35 s36 s37 s38 s39 s40 s41 s42 s43 s44 s45 s46 s47 s48 s49 s50 s51 s52 s53 s54 s55 s56 s57 s58 s59 s60 s61 s62 s63 s64 s65 s66 s67 s68 s69 s70 s71 s72 s73 s74 s75 s76 s77 s78 s79 s80 s81 s82 s83 s84 s85:Value}
 (h:∀ a' X1 v',Fr (Value.slice va vn vc).ownBlock.toList X X1→X1.ownsRow base 9 1 v' (vn+1) (xs++[.string tx])→(∀ k,v'.ownBlock=some k→(Value.slice va vn vc).ownBlock=some k∨X.heap.size≤k)→Q .normal a' (X1.setCell ⟨gb,fo+2,none⟩ v')) :
 (Code.region 15 #[{ dst := some 66, op := Op.move (Operand.tmp 7), type := 120, pos := "check.go:74", after := #[], guard := none }, { dst := some 67, op := Op.move (Operand.tmp 7), type := 120, pos := "check.go:74", after := #[], guard := none }, { dst := some 68, op := Op.nilCheck (Operand.tmp 67), type := 0, pos := "check.go:74", after := #[{ on := 1, ground := Ground.data }], guard := none }, { dst := some 69, op := Op.fieldAddr 61 (Operand.tmp 68) 2, type := 0, pos := "check.go:74", after := #[{ on := 2, ground := Ground.data }], guard := none }, { dst := some 70, op := Op.load 56 (Operand.tmp 69), type := 56, pos := "check.go:74", after := #[{ on := 3, ground := Ground.data }], guard := none }, { dst := some 71, op := Op.fieldAddr 55 (Operand.tmp 5) 1, type := 0, pos := "check.go:74", after := #[], guard := none }, { dst := some 72, op := Op.load 9 (Operand.tmp 71), type := 9, pos := "check.go:74", after := #[{ on := 5, ground := Ground.data }], guard := none }, { dst := some 73, op := Op.buildSlice 56 1 #[(0, Operand.tmp 72)], type := 56, pos := "check.go:74", after := #[{ on := 6, ground := Ground.data }], guard := none }, { dst := some 74, op := Op.call { callee := Callee.builtin Builtin.append, args := #[Operand.tmp 70, Operand.tmp 73], argTypes := #[56, 56] }, type := 56, pos := "check.go:74", after := #[{ on := 4, ground := Ground.data }, { on := 7, ground := Ground.data }], guard := none }, { dst := some 75, op := Op.nilCheck (Operand.tmp 66), type := 0, pos := "check.go:74", after := #[{ on := 0, ground := Ground.data }, { on := 0, ground := Ground.phase }, { on := 1, ground := Ground.phase }, { on := 2, ground := Ground.phase }, { on := 3, ground := Ground.phase }, { on := 4, ground := Ground.phase }, { on := 5, ground := Ground.phase }, { on := 6, ground := Ground.phase }, { on := 7, ground := Ground.phase }, { on := 8, ground := Ground.phase }], guard := none }, { dst := some 76, op := Op.fieldAddr 61 (Operand.tmp 75) 2, type := 0, pos := "check.go:74", after := #[{ on := 9, ground := Ground.data }, { on := 0, ground := Ground.phase }, { on := 1, ground := Ground.phase }, { on := 2, ground := Ground.phase }, { on := 3, ground := Ground.phase }, { on := 4, ground := Ground.phase }, { on := 5, ground := Ground.phase }, { on := 6, ground := Ground.phase }, { on := 7, ground := Ground.phase }, { on := 8, ground := Ground.phase }], guard := none }, { dst := none, op := Op.store 56 (Operand.tmp 76) (Operand.tmp 74), type := 0, pos := "check.go:74", after := #[{ on := 10, ground := Ground.data }, { on := 8, ground := Ground.data }, { on := 8, ground := Ground.chain }, { on := 0, ground := Ground.phase }, { on := 1, ground := Ground.phase }, { on := 2, ground := Ground.phase }, { on := 3, ground := Ground.phase }, { on := 4, ground := Ground.phase }, { on := 5, ground := Ground.phase }, { on := 6, ground := Ground.phase }, { on := 7, ground := Ground.phase }, { on := 8, ground := Ground.phase }], guard := none }] true).wpIn (Fence.wide.inRound l) 0 Tryz.prog Q { tmps := #[s0, s1, s2, s3, s4, .pointer (some ⟨nb, 0, none⟩), s6, .pointer (some ⟨gb, fo, none⟩), s8, s9, s10, s11, s12, s13, s14, s15, s16, s17, s18, s19, s20, s21, s22, s23, s24, s25, s26, s27, s28, s29, s30, s31, s32, s33, s34, s35, s36, s37, s38, s39, s40, s41, s42, s43, s44, s45, s46, s47, s48, s49, s50, s51, s52, s53, s54, s55, s56, s57, s58, s59, s60, s61, s62, s63, s64, s65, s66, s67, s68, s69, s70, s71, s72, s73, s74, s75, s76, s77, s78, s79, s80, s81, s82, s83, s84, s85], defers := [] } X := by
 obtain⟨i9,hi,hz,hs2,hby⟩:=info_parts info9
 have nS:nb∉gb::(Value.slice va vn vc).ownBlock.toList:=by
  intro hm
  rw[List.mem_cons] at hm
  rcases hm with rfl | hm
  ·rw[hg] at hN;injection hN with hN;injection hN with _ h3 _;exact absurd h3 (by decide)
  ·rw[Option.mem_toList] at hm;exact own_ne hso hN (by decide) hm
 have n1:∀ w',Fr (gb::(Value.slice va vn vc).ownBlock.toList) X w'→w'.cell? ⟨nb,1,none⟩=some (.string tx):=fun w' f=>f.cell1 (at_cells hN 1 rfl) nS
 have dc:∀ w',Fr [] X w'→w'.cell? ⟨gb,fo+2,none⟩=some (.slice va vn vc):=fun w' f=>f.cell1 hgc (by simp)
 clear nS hN
 refine region_round (S:=fun w'=>Fr (gb::(Value.slice va vn vc).ownBlock.toList) X w') (N:=fun a w=>Q .normal a w) (by kernel_rfl) (by decide +kernel) (fun _ _ h=>h) ?_
 have F1:Fr [] X X.drew:=Fr.drew (Fr.refl _ X)
 have hS:Fr (gb::(Value.slice va vn vc).ownBlock.toList) X X.drew:=Fr.drew (Fr.refl _ X)
 generalize X.drew=Y at *
 refine wpAnyH_take (i := 0) (v := .pointer (some ⟨gb, fo, none⟩)) rfl (by decide +kernel) (by decide +kernel) (by decide +kernel) (fun _ _ _ h => absurd h.1 (by simp)) (Or.inl ⟨by rfl, fun wq hSq => by first | rfl | go_simp⟩) hS ?_
 simp only[Act.put,List.setIfInBounds_toArray,List.set_cons_zero,List.set_cons_succ]
 refine wpAnyH_take (i := 1) (v := .pointer (some ⟨gb, fo, none⟩)) rfl (by decide +kernel) (by decide +kernel) (by decide +kernel) (fun _ _ _ h => absurd h.1 (by simp)) (Or.inl ⟨by rfl, fun wq hSq => by first | rfl | go_simp⟩) hS ?_
 simp only[Act.put,List.setIfInBounds_toArray,List.set_cons_zero,List.set_cons_succ]
 refine wpAnyH_take (i := 2) (v := .pointer (some ⟨gb, fo, none⟩)) rfl (by decide +kernel) (by decide +kernel) (by decide +kernel) (fun _ _ _ h => absurd h.1 (by simp)) (Or.inl ⟨by rfl, fun wq hSq => by first | rfl | go_simp⟩) hS ?_
 simp only[Act.put,List.setIfInBounds_toArray,List.set_cons_zero,List.set_cons_succ]
 refine wpAnyH_take (i := 3) (v := .pointer (some ⟨gb, fo + 2, none⟩)) rfl (by decide +kernel) (by decide +kernel) (by decide +kernel) (fun _ _ _ h => absurd h.1 (by simp)) (Or.inl ⟨by rfl, fun wq hSq => by first | rfl | go_simp⟩) hS ?_
 simp only[Act.put,List.setIfInBounds_toArray,List.set_cons_zero,List.set_cons_succ]
 refine wpAnyH_take (i := 5) (v := .pointer (some ⟨nb, 1, none⟩)) rfl (by decide +kernel) (by decide +kernel) (by decide +kernel) (fun _ _ _ h => absurd h.1 (by simp)) (Or.inl ⟨by rfl, fun wq hSq => by first | rfl | go_simp⟩) hS ?_
 simp only[Act.put,List.setIfInBounds_toArray,List.set_cons_zero,List.set_cons_succ]
 refine wpAnyH_take (i := 6) (v := .string tx) rfl (by decide +kernel) (by decide +kernel) (by decide +kernel) (fun _ _ _ h => absurd h.1 (by simp)) (Or.inl ⟨by rfl, fun wq hSq => by (have q := n1 wq hSq; go_simp)⟩) hS ?_
 simp only[Act.put,List.setIfInBounds_toArray,List.set_cons_zero,List.set_cons_succ]
 refine wpAnyH_ready (rs:=[4,7]) (by decide +kernel) (by simp) ?_
 refine AllReadyH.cons rfl (fun K hK => ?_) ?_
 ·skip
  have q:=dc Y F1
  go_simp
  refine hK.out _ _ hS (fun _=>?_)
  clear hK K
  try simp only[Act.put,List.setIfInBounds_toArray,List.set_cons_zero,List.set_cons_succ]
  refine wpAnyH_ready (rs:=[7]) (by decide +kernel) (by simp) ?_
  refine AllReadyH.cons rfl (fun K hK => ?_) AllReadyH.nil
  go_simp
  have hS:=hS.alloc (.cells #[.string tx] 9)
  refine hK.out _ _ hS (fun _=>?_)
  clear hK K
  try simp only[Act.put,List.setIfInBounds_toArray,List.set_cons_zero,List.set_cons_succ]
  refine wpAnyH_ready (rs:=[8]) (by decide +kernel) (by simp) ?_
  refine AllReadyH.cons rfl (fun K hK => ?_) AllReadyH.nil
  refine step_own rfl (.tmp 70) (.tmp 73) 56 rfl base 9 i9 _ 1 _ under56 hi hz hs2 hby rfl (by decide) (.slice va vn vc) vn xs rfl ((own_fr hso F1 (by simp)).alloc _) ⟨Y.heap.size,0,none⟩ 1 1 [.string tx] rfl rfl (new_one Y _ _) (by simp[Value.oneCell']) (by unfold maxLen;omega) (by omega) (by have:=F1.size;simp;omega) ?_
  intro v' X2 ho2 hg2 hl2
  have f2:Fr (Value.slice va vn vc).ownBlock.toList X X2:=((F1.sub (by simp)).alloc _).trans ((Fr.ofGrown hg2).sub (fun k hk=>.inl hk))
  have hloc:∀ k,v'.ownBlock=some k→(Value.slice va vn vc).ownBlock=some k∨X.heap.size≤k:=fun k hk=>by
   rcases hl2 with h1 | h1
   ·exact .inl (by rw[← h1];exact hk)
   ·rw[h1] at hk;have:=F1.size;simp at hk;exact .inr (by omega)
  have hD2:=(f2.block _ (Array.getElem?_eq_some_iff.1 hg).1 (by simp only[Option.mem_toList];exact own_ne hso hg (by decide))).trans hg
  have cD2:=f2.cell1 hgc (by simp only[Option.mem_toList];exact own_ne hso hg (by decide))
  have hS:Fr (gb::(Value.slice va vn vc).ownBlock.toList) X X2:=f2.sub (fun k hk=>.inl (by simp at hk;simp[hk]))
  obtain⟨va',vc',rfl,_⟩:=own_slice ho2
  refine hK.out _ _ hS (fun _=>?_)
  clear hK K
  try simp only[Act.put,List.setIfInBounds_toArray,List.set_cons_zero,List.set_cons_succ]
  refine wpAnyH_take (i := 9) (v := .pointer (some ⟨gb, fo, none⟩)) rfl (by decide +kernel) (by decide +kernel) (by decide +kernel) (fun _ _ _ h => absurd h.1 (by simp)) (Or.inl ⟨by rfl, fun wq hSq => by first | rfl | go_simp⟩) hS ?_
  simp only[Act.put,List.setIfInBounds_toArray,List.set_cons_zero,List.set_cons_succ]
  refine wpAnyH_take (i := 10) (v := .pointer (some ⟨gb, fo + 2, none⟩)) rfl (by decide +kernel) (by decide +kernel) (by decide +kernel) (fun _ _ _ h => absurd h.1 (by simp)) (Or.inl ⟨by rfl, fun wq hSq => by first | rfl | go_simp⟩) hS ?_
  simp only[Act.put,List.setIfInBounds_toArray,List.set_cons_zero,List.set_cons_succ]
  refine wpAnyH_ready (rs:=[11]) (by decide +kernel) (by simp) ?_
  refine AllReadyH.cons rfl (fun K hK => ?_) AllReadyH.nil
  have z:X2.frozen? ⟨gb,fo+2,none⟩=false:=by simp[World.frozen?,hD2]
  go_simp
  have hS:=hS.setCell (p:=⟨gb,fo+2,none⟩) (.inl (by simp)) (.slice va' (vn+1) vc')
  refine hK.out _ _ hS (fun _=>?_)
  clear hK K
  try simp only[Act.put,List.setIfInBounds_toArray,List.set_cons_zero,List.set_cons_succ]
  refine wpAnyH_done (by decide +kernel) ?_ _
  exact⟨rfl,h _ X2 _ f2 ho2 hloc⟩
 refine AllReadyH.cons rfl (fun K hK => ?_) AllReadyH.nil
 go_simp
 have hS:=hS.alloc (.cells #[.string tx] 9)
 refine hK.out _ _ hS (fun _=>?_)
 clear hK K
 try simp only[Act.put,List.setIfInBounds_toArray,List.set_cons_zero,List.set_cons_succ]
 refine wpAnyH_ready (rs:=[4]) (by decide +kernel) (by simp) ?_
 refine AllReadyH.cons rfl (fun K hK => ?_) AllReadyH.nil
 have q:=dc (Y.alloc (.cells #[.string tx] 9)) (F1.alloc _)
 go_simp
 refine hK.out _ _ hS (fun _=>?_)
 clear hK K
 try simp only[Act.put,List.setIfInBounds_toArray,List.set_cons_zero,List.set_cons_succ]
 refine wpAnyH_ready (rs:=[8]) (by decide +kernel) (by simp) ?_
 refine AllReadyH.cons rfl (fun K hK => ?_) AllReadyH.nil
 refine step_own rfl (.tmp 70) (.tmp 73) 56 rfl base 9 i9 _ 1 _ under56 hi hz hs2 hby rfl (by decide) (.slice va vn vc) vn xs rfl ((own_fr hso F1 (by simp)).alloc _) ⟨Y.heap.size,0,none⟩ 1 1 [.string tx] rfl rfl (new_one Y _ _) (by simp[Value.oneCell']) (by unfold maxLen;omega) (by omega) (by have:=F1.size;simp;omega) ?_
 intro v' X2 ho2 hg2 hl2
 have f2:Fr (Value.slice va vn vc).ownBlock.toList X X2:=((F1.sub (by simp)).alloc _).trans ((Fr.ofGrown hg2).sub (fun k hk=>.inl hk))
 have hloc:∀ k,v'.ownBlock=some k→(Value.slice va vn vc).ownBlock=some k∨X.heap.size≤k:=fun k hk=>by
  rcases hl2 with h1 | h1
  ·exact .inl (by rw[← h1];exact hk)
  ·rw[h1] at hk;have:=F1.size;simp at hk;exact .inr (by omega)
 have hD2:=(f2.block _ (Array.getElem?_eq_some_iff.1 hg).1 (by simp only[Option.mem_toList];exact own_ne hso hg (by decide))).trans hg
 have cD2:=f2.cell1 hgc (by simp only[Option.mem_toList];exact own_ne hso hg (by decide))
 have hS:Fr (gb::(Value.slice va vn vc).ownBlock.toList) X X2:=f2.sub (fun k hk=>.inl (by simp at hk;simp[hk]))
 obtain⟨va',vc',rfl,_⟩:=own_slice ho2
 refine hK.out _ _ hS (fun _=>?_)
 clear hK K
 try simp only[Act.put,List.setIfInBounds_toArray,List.set_cons_zero,List.set_cons_succ]
 refine wpAnyH_take (i := 9) (v := .pointer (some ⟨gb, fo, none⟩)) rfl (by decide +kernel) (by decide +kernel) (by decide +kernel) (fun _ _ _ h => absurd h.1 (by simp)) (Or.inl ⟨by rfl, fun wq hSq => by first | rfl | go_simp⟩) hS ?_
 simp only[Act.put,List.setIfInBounds_toArray,List.set_cons_zero,List.set_cons_succ]
 refine wpAnyH_take (i := 10) (v := .pointer (some ⟨gb, fo + 2, none⟩)) rfl (by decide +kernel) (by decide +kernel) (by decide +kernel) (fun _ _ _ h => absurd h.1 (by simp)) (Or.inl ⟨by rfl, fun wq hSq => by first | rfl | go_simp⟩) hS ?_
 simp only[Act.put,List.setIfInBounds_toArray,List.set_cons_zero,List.set_cons_succ]
 refine wpAnyH_ready (rs:=[11]) (by decide +kernel) (by simp) ?_
 refine AllReadyH.cons rfl (fun K hK => ?_) AllReadyH.nil
 have z:X2.frozen? ⟨gb,fo+2,none⟩=false:=by simp[World.frozen?,hD2]
 go_simp
 have hS:=hS.setCell (p:=⟨gb,fo+2,none⟩) (.inl (by simp)) (.slice va' (vn+1) vc')
 refine hK.out _ _ hS (fun _=>?_)
 clear hK K
 try simp only[Act.put,List.setIfInBounds_toArray,List.set_cons_zero,List.set_cons_succ]
 refine wpAnyH_done (by decide +kernel) ?_ _
 exact⟨rfl,h _ X2 _ f2 ho2 hloc⟩
end Go.Proofs.YtnmfcaahdeddnaaGreatDoor.T5
