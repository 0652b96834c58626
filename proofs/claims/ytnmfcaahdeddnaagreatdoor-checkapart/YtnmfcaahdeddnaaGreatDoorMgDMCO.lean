/-
  Parts of the proof; conditions: as each says.
-/
import Derived.Test.YtnmfcaahdeddnaaGreatDoorMgAJPM
namespace Go.Proofs.YtnmfcaahdeddnaaGreatDoor.T5
open Go.RowKit Go.Shelf
attribute [local go_sem] Oper.semAt_some store_func
set_option linter.unusedVariables false
theorem under50:Tryz.prog.underlying 155=some (.slice 158):=by kernel_rfl
theorem info53:(Tryz.prog.info? 158).map (fun i=>(i.zero,i.size,i.bytes))=some (some (.agg #[.int .i64 0,.int .i64 0]),2,16):=by kernel_rfl
def flatS:List (Nat×Nat)→List Value
 | []=>[]
 | t::r=>.int .i64 t.1::.int .i64 t.2::flatS r
theorem flatS_append (a b:List (Nat×Nat)) : flatS (a++b)=flatS a++flatS b:=by
 induction a with
 | nil=>rfl
 | cons t r ih=>simp[flatS,ih]
theorem flatS_len (a:List (Nat×Nat)) : (flatS a).length=a.length*2:=by
 induction a with
 | nil=>rfl
 | cons t r ih=>simp[flatS,ih];omega
theorem flatS_get {S:List (Nat×Nat)} : ∀ {i:Nat} {t:Nat×Nat},S[i]? = some t→(flatS S)[i*2]? = some (.int .i64 t.1)∧(flatS S)[i*2+1]? = some (.int .i64 t.2):=by
 induction S with
 | nil=>intro i t h;simp at h
 | cons s r ih =>
   intro i t h
   cases i with
   | zero=>simp at h;subst h;simp[flatS]
   | succ i =>
     have:=ih (i:=i) (t:=t) (by simpa using h)
     rw[show (i+1)*2=i*2+1+1 from by omega]
     simpa [flatS] using this
theorem own_cell {w:World} {B n:Nat} {e:TypeId} {size:Nat} {sv:Value} {xs:List Value} (h:w.ownsRow B e size sv n xs) (hn:0<n) : ∃ g c,sv = .slice (some ⟨g,0,none⟩) n c∧n≤c∧c≤maxLen∧B≤g∧∀ j u,j<n*size→xs[j]? = some u→w.cell? ⟨g,j,none⟩=some u:=by
 rcases h.2 with ⟨_,h0⟩ | ⟨g,cap,cur,e1,hb,hg,hc,hm,hs,ht⟩
 ·omega
 ·refine⟨g,cap,e1,hc,hm,hb,fun j u hj hu=>?_⟩
  have:(cur.toList.take (n*size))[j]? = xs[j]? := by rw[ht]
  rw[List.getElem?_take_of_lt hj,hu] at this
  simp only[World.cell?,hg]
  simpa using this
theorem own_less {w:World} {B n:Nat} {e:TypeId} {size g c:Nat} {xs ys:List Value} (h:w.ownsRow B e size (.slice (some ⟨g,0,none⟩) (n+1) c) (n+1) (xs++ys)) (hx:xs.length=n*size) : w.ownsRow B e size (.slice (some ⟨g,0,none⟩) n c) n xs:=by
 obtain⟨h1,h2⟩:=h
 rcases h2 with ⟨e1,_⟩ | ⟨g',cap',cur,e1,hb,hg,hn,hm,hs,hc⟩
 ·simp at e1
 ·injection e1 with e1 e2 e3
  injection e1 with e1
  injection e1 with e1
  subst e1 e3
  refine⟨by omega,.inr ⟨g,c,cur,rfl,hb,hg,by omega,hm,hs,?_⟩⟩
  have:cur.toList.take (n*size)=(cur.toList.take ((n+1)*size)).take (n*size):=by rw[List.take_take,Nat.min_eq_left (by rw[Nat.add_mul];omega)]
  rw[this,hc,← hx]
  simp
def mkD (r:Nat) : Deferred:={ target:=.collected r,args:=#[] }
theorem leave_marks {fn:Func} {tmps:Array Value} {v:Value} {R:Ending→World→Prop} (hres:∀ w,(results fn tmps).run Tryz.prog w = .ok v w) : ∀ (rs:List Nat) (X:World),rs.Nodup→(∀ r∈rs,X.heap[r]? = some (.deferred (some [])))→(∀ X',Fr rs X X'→R (.returned v) X')→LeavesInM Fence.wide 0 Tryz.prog fn tmps R (rs.map mkD) .returning X
 | [],X,_,_,h=>⟨_,hres X,h X (Fr.refl _ _)⟩
 | r::rs,X,hn,hd,h=>by
   have h1:=hd r (by simp)
   rw[List.nodup_cons] at hn
   refine⟨by simp,.inl ⟨_,_,rfl,run_takeDeferred h1,?_⟩⟩
   refine leave_marks hres rs _ hn.2 (fun q hq=>?_) (fun X' hF=>h X' (((Fr.putObj (.deferred none)).sub (fun k hk=>.inl (by simp at hk;simp[hk]))).trans (hF.sub (fun k hk=>.inl (by simp[hk])))))
   have hqr:q≠r:=fun e=>hn.1 (by rw[← e];exact hq)
   exact (World.putObj_heap_other hqr).trans (hd q (by simp[hq]))
theorem below_any (a:Option Addr) (n c:Nat) (top:Int) (w:World) :
 Calls Tryz.prog 98 #[.slice a n c,.int .i64 top] w fun e w'=>e = .returned (.func (.func 144) #[] #[.pointer (some ⟨w.heap.size+1,0,none⟩),.pointer (some ⟨w.heap.size,0,none⟩)])∧w' = (w.alloc (.cells #[.slice a n c] 23)).alloc (.cells #[.int .i64 top] 3):=by
 go_enter Tryz.func98,Tryz.ntmps98
 go_wp2
 go_ret
 exact⟨rfl,rfl⟩
structure BS (G:List (Nat×Nat)→List Nat→World→Prop) (L:List Nd) (a:Option Addr) (len cap B bl N:Nat) (Z:List Nat) (d S:List (Nat×Nat)) (K rs:List Nat) (X:World) : Prop where
 g:G d K X
 n:NAt B X a L
 lb:X.heap[bl]? = some (.cells #[.slice a len cap] 23 (0,0))
 lk:bl∉K
 box:∃ sv,X.heap[N+1]? = some (.cells #[sv] 155 (0,0))∧X.ownsRow N 158 2 sv S.length (flatS S)∧(∀ k,sv.ownBlock=some k→k∉K∧k∉Z)
 bk:N+1∉K
 nd:rs.Nodup
 marks:∀ r∈rs,N≤r∧r∉K∧X.heap[r]? = some (.deferred (some []))
 kb:∀ j∈K,B≤j∧j<X.heap.size
 zb:∀ j∈Z,j<X.heap.size
 bn:B≤N∧bl<N
section
variable {G:List (Nat×Nat)→List Nat→World→Prop} {L:List Nd} {a:Option Addr} {len cap B bl N:Nat} {Z:List Nat} {d S:List (Nat×Nat)} {K rs:List Nat} {X X' : World}
theorem BS.fr (h:BS G L a len cap B bl N Z d S K rs X) (hG:∀ d K X X' S,G d K X→Fr S X X'→(∀ j∈S,j∉K∧N≤j)→G d K X') {T:List Nat} (f:Fr T X X') (hT:∀ j∈T,j∉K∧N≤j∧(∀ c t z,X.heap[j]?≠some (Obj.cells c t z))∧j∉rs) : BS G L a len cap B bl N Z d S K rs X' := by
 obtain⟨sv,hb,ho,hk⟩:=h.box
 have kp:∀ {k:Nat} {c:Array Value} {t:TypeId} {z:Nat×Nat},X.heap[k]? = some (Obj.cells c t z)→X'.heap[k]? = some (Obj.cells c t z):=fun {k c t z} h1=>(f.block _ (Array.getElem?_eq_some_iff.1 h1).1 (fun hm=>(hT k hm).2.2.1 c t z h1)).trans h1
 refine⟨hG _ _ _ _ _ h.g f (fun j hj=>⟨(hT j hj).1,(hT j hj).2.1⟩),h.n.fr f (fun k hk=>by have:=(hT k hk).2.1;have:=h.bn.1;omega),kp h.lb,h.lk,⟨sv,kp hb,own_fr ho f (fun k hk hm=>?_),hk⟩,h.bk,h.nd,fun r hr=>⟨(h.marks r hr).1,(h.marks r hr).2.1,(f.block _ (Array.getElem?_eq_some_iff.1 (h.marks r hr).2.2).1 (fun hm=>(hT r hm).2.2.2 hr)).trans (h.marks r hr).2.2⟩,fun j hj=>⟨(h.kb j hj).1,Nat.lt_of_lt_of_le (h.kb j hj).2 f.size⟩,fun j hj=>Nat.lt_of_lt_of_le (h.zb j hj) f.size,h.bn⟩
 rcases ho.2 with ⟨rfl,_⟩ | ⟨g,c,cur,rfl,_,hg,_⟩
 ·simp[Value.ownBlock] at hk
 ·simp[Value.ownBlock] at hk
  subst hk
  exact (hT _ hm).2.2.1 _ _ _ hg
theorem BS.told (h:BS G L a len cap B bl N Z d S K rs X) (f:Fr K X X') {d' : List (Nat×Nat)} {K' : List Nat} (hg:G d' K' X') (hKB:∀ j∈K',B≤j∧j<X'.heap.size) (hK:∀ j∈K',j∈K∨X.heap.size≤j) : BS G L a len cap B bl N Z d' S K' rs X' := by
 obtain⟨sv,hb,ho,hk⟩:=h.box
 have old:∀ {j},j<X.heap.size→j∉K→j∉K' := fun h1 h2 h3=>by rcases hK _ h3 with h4 | h4;exact h2 h4;omega
 have lt:∀ {k:Nat} {o:Obj},X.heap[k]? = some o→k<X.heap.size:=fun h1=>(Array.getElem?_eq_some_iff.1 h1).1
 refine⟨hg,h.n.fr f (fun k hk=>(h.kb k hk).1),(f.block _ (lt h.lb) h.lk).trans h.lb,old (lt h.lb) h.lk,⟨sv,(f.block _ (lt hb) h.bk).trans hb,own_fr ho f (fun k hk'=>(hk k hk').1),fun k hk'=>⟨old (ho.lt k hk').2 (hk k hk').1,(hk k hk').2⟩⟩,old (lt hb) h.bk,h.nd,fun r hr=>?_,hKB,fun j hj=>Nat.lt_of_lt_of_le (h.zb j hj) f.size,h.bn⟩
 have hm:=h.marks r hr
 exact⟨hm.1,old (lt hm.2.2) hm.2.1,(f.block _ (lt hm.2.2) hm.2.1).trans hm.2.2⟩
theorem BS.boxed (h:BS G L a len cap B bl N Z d S K rs X) (hG:∀ d K X X' S,G d K X→Fr S X X'→(∀ j∈S,j∉K∧N≤j)→G d K X') {sv:Value} (hb:X.heap[N+1]? = some (.cells #[sv] 155 (0,0))) {w3:World} (f2:Fr sv.ownBlock.toList X w3) {v' : Value} {S' : List (Nat×Nat)} (hown:w3.ownsRow N 158 2 v' S'.length (flatS S')) (hloc:∀ k,v'.ownBlock=some k→k∉K∧k∉Z) :
 BS G L a len cap B bl N Z d S' K rs (w3.setCell ⟨N+1,0,none⟩ v'):=by
 obtain⟨sv',hb',ho,hk⟩:=h.box
 have hsv:sv' = sv:=by rw[hb] at hb';simp at hb';exact hb'.symm
 subst hsv
 have lt:∀ {k:Nat} {o:Obj},X.heap[k]? = some o→k<X.heap.size:=fun h1=>(Array.getElem?_eq_some_iff.1 h1).1
 have f3:Fr [N+1] w3 (w3.setCell ⟨N+1,0,none⟩ v'):=Fr.setCell (Fr.refl _ _) (.inl (by simp)) _
 have F:Fr ((N+1)::sv'.ownBlock.toList) X (w3.setCell ⟨N+1,0,none⟩ v'):=(f2.sub (fun k hk=>.inl (by simp at hk;simp[hk]))).trans (f3.sub (fun k hk=>.inl (by simp at hk;simp[hk])))
 have inS:∀ {j},j∈(N+1)::sv'.ownBlock.toList→j=N+1∨sv'.ownBlock=some j:=fun hj=>by simp at hj;exact hj
 have ne1:sv'.ownBlock≠some (N+1):=own_ne ho hb (by decide)
 have hb3:w3.heap[N+1]? = some (.cells #[sv'] 155 (0,0)):=(f2.block _ (lt hb) (by simpa using ne1)).trans hb
 have ne2:v'.ownBlock≠some (N+1):=own_ne hown hb3 (by decide)
 refine⟨hG _ _ _ _ _ h.g F (fun j hj=>?_),h.n.fr F (fun k hk=>?_),?_,h.lk,⟨v',set_same hb3,own_fr hown f3 (fun k hk hm=>by simp at hm;subst hm;exact ne2 hk),hloc⟩,h.bk,h.nd,fun r hr=>?_,fun j hj=>⟨(h.kb j hj).1,Nat.lt_of_lt_of_le (h.kb j hj).2 F.size⟩,fun j hj=>Nat.lt_of_lt_of_le (h.zb j hj) F.size,h.bn⟩
 ·rcases inS hj with rfl | hj
  ·exact⟨h.bk,by omega⟩
  ·exact⟨(hk j hj).1,(ho.lt j hj).1⟩
 ·have:=h.bn.1
  rcases inS hk with rfl | hk
  ·omega
  ·have:=(ho.lt k hk).1;omega
 ·refine (F.block _ (lt h.lb) (fun hm=>?_)).trans h.lb
  have:=h.bn.2
  rcases inS hm with h1 | h1
  ·omega
  ·have:=(ho.lt _ h1).1;omega
 ·have hm:=h.marks r hr
  refine⟨hm.1,hm.2.1,(F.block _ (lt hm.2.2) (fun hq=>?_)).trans hm.2.2⟩
  rcases inS hq with rfl | hq
  ·rw[hb] at hm;simp at hm
  ·exact own_notloop ho hm.2.2 (by intro c t z e;cases e) hq
theorem BS.also (h:BS G L a len cap B bl N Z d S K rs X) (Z' : List Nat) (hZ:∀ j∈Z',j<X.heap.size∧∀ sv,X.heap[N+1]? = some (.cells #[sv] 155 (0,0))→sv.ownBlock≠some j) : BS G L a len cap B bl N Z' d S K rs X:=by
 obtain⟨sv,hb,ho,hk⟩:=h.box
 exact⟨h.g,h.n,h.lb,h.lk,⟨sv,hb,ho,fun k hk'=>⟨(hk k hk').1,fun hz=>(hZ k hz).2 sv hb hk'⟩⟩,h.bk,h.nd,h.marks,h.kb,fun j hj=>(hZ j hj).1,h.bn⟩
theorem BS.mark (h:BS G L a len cap B bl N Z d S K rs X) {r:Nat} (h1:r∉rs) (h2:N≤r) (h3:r∉K) (h4:X.heap[r]? = some (.deferred (some []))) : BS G L a len cap B bl N Z d S K (r::rs) X :=
 ⟨h.g,h.n,h.lb,h.lk,h.box,h.bk,List.nodup_cons.2 ⟨h1,h.nd⟩,fun q hq=>by
  rcases List.mem_cons.1 hq with rfl | hq
  ·exact⟨h2,h3,h4⟩
  ·exact h.marks q hq,h.kb,h.zb,h.bn⟩
end
set_option maxRecDepth 100000 in
set_option maxHeartbeats 4000000 in
theorem below1 (G:List (Nat×Nat)→List Nat→World→Prop) (L:List Nd) (hA:Ahead L) (a:Option Addr) (len cap:Nat) (hlen:L.length=len) (hm:len≤50000) (B l bt bl top:Nat) (htop:top<len) (htl:(wk L top 0).length≤50000) (W:World) (hB:B≤W.heap.size)
 (hKB:∀ d K X,G d K X→∀ j∈K,B≤j∧j<X.heap.size)
 (hG:∀ d K X X' S,G d K X→Fr S X X'→(∀ j∈S,j∉K∧W.heap.size≤j)→G d K X')
 (hY:∀ d K t X,G d K X→(∃ r,wk L top 0=d++t::r)→YieldAt Fence.wide 0 Tryz.prog l #[.int .i64 ((t:Nat×Nat).1:Nat),.int .i64 (t.2:Nat)] X (fun e X'=>e = .returned (.bool true)∧Fr K X X'∧∃ K',G (d++[t]) K' X'∧∀ j∈K',j∈K∨X.heap.size≤j))
 (K0:List Nat) (h0:G [] K0 W) (hN:NAt B W a L) (b1:W.heap[bt]? = some (.cells #[.int .i64 top] 3 (0,0))) (b2:W.heap[bl]? = some (.cells #[.slice a len cap] 23 (0,0))) (hbl:bl∉K0) :
 CallsIn Fence.wide 0 Tryz.prog 144 #[.func (.yield l) #[] #[],.pointer (some ⟨bt,0,none⟩),.pointer (some ⟨bl,0,none⟩)] W fun e W'=>(∃ v,e = .returned v)∧∃ K',G (wk L top 0) K' W' := by
 obtain⟨i5,hi,hz,hz1,hby⟩:=info_parts info53
 refine callsIn_of_wp_marks (n:=0) Tryz.func144 rfl trivial ?_ rfl
 simp only[Tryz.ntmps144,List.size_toArray,List.length_cons,List.length_nil,Nat.reduceAdd,Nat.reduceSub,Array.replicate_succ,Array.replicate_zero,List.push_toArray,List.append_toArray,List.nil_append,List.cons_append]
 have cb:=at_cells b1 0 rfl
 have hb1:=(Array.getElem?_eq_some_iff.1 b1).1
 gi_wp2
 have f0:Fr [] W ((W.alloc (.cells #[.int .i64 top,.int .i64 0] 158)).alloc (.cells #[.slice (some ⟨W.heap.size,0,none⟩) 1 1] 155)):=((Fr.refl _ _).alloc _).alloc _
 have bx0:=blk2 W (.cells #[.int .i64 top,.int .i64 0] 158) (.cells #[.slice (some ⟨W.heap.size,0,none⟩) 1 1] 155)
 have ow0:((W.alloc (.cells #[.int .i64 top,.int .i64 0] 158)).alloc (.cells #[.slice (some ⟨W.heap.size,0,none⟩) 1 1] 155)).ownsRow W.heap.size 158 2 (.slice (some ⟨W.heap.size,0,none⟩) 1 1) 1 (flatS [(top,0)]):=by
  refine⟨rfl,.inr ⟨W.heap.size,1,#[.int .i64 top,.int .i64 0],rfl,Nat.le_refl _,?_,Nat.le_refl _,by simp[maxLen],rfl,rfl⟩⟩
  rw[Below.heap_alloc _ _ _ (by simp)]
  exact heap_alloc_new W _
 have S0:BS G L a len cap B bl W.heap.size [] [] [(top,0)] K0 [] ((W.alloc (.cells #[.int .i64 top,.int .i64 0] 158)).alloc (.cells #[.slice (some ⟨W.heap.size,0,none⟩) 1 1] 155)) :=
  ⟨hG _ _ _ _ _ h0 f0 (by simp),hN.fr f0 (by simp),(f0.block _ (Array.getElem?_eq_some_iff.1 b2).1 (by simp)).trans b2,hbl,⟨_,bx0,ow0,fun k hk=>by simp[Value.ownBlock] at hk;subst hk;exact⟨fun hm=>by have:=(hKB _ _ _ h0 _ hm).2;omega,by simp⟩⟩,fun hm=>by have:=(hKB _ _ _ h0 _ hm).2;omega,List.nodup_nil,by simp,fun j hj=>⟨(hKB _ _ _ h0 j hj).1,Nat.lt_of_lt_of_le (hKB _ _ _ h0 j hj).2 f0.size⟩,by simp,⟨hB,(Array.getElem?_eq_some_iff.1 b2).1⟩⟩
 generalize (W.alloc (.cells #[.int .i64 top,.int .i64 0] 158)).alloc (.cells #[.slice (some ⟨W.heap.size,0,none⟩) 1 1] 155)=w0 at *
 refine wpIn_loop (fun a' w'=>∃ (u5 u11 u12 u13 u14 u15 u16 u17 u18 u19 u20 u21 u22 u23 u24 u25 u26 u27 u28 u29 u30 u31 u32 u33 u34 u35 u36 u37 u38:Value) (d S:List (Nat×Nat)) (K rs:List Nat),(BS G L a len cap B bl W.heap.size [] d S K rs w'∧Hid (rs.length=d.length)∧Hid (d++rem L S=wk L top 0))∧a' = { tmps:=#[Value.func (Fn.yield l) #[] #[],.pointer (some ⟨bt,0,none⟩),.pointer (some ⟨bl,0,none⟩),undef,.pointer (some ⟨W.heap.size+1,0,none⟩),u5,undef,undef,.int .i64 top,.agg #[.int .i64 top,.int .i64 0],.slice (some ⟨W.heap.size,0,none⟩) 1 1,u11,u12,u13,u14,u15,u16,u17,u18,u19,u20,u21,u22,u23,u24,u25,u26,u27,u28,u29,u30,u31,u32,u33,u34,u35,u36,u37,u38,undef,undef,undef,undef,undef,undef,undef,undef,undef,undef],defers:=rs.map mkD }) (fun a' _=>(wk L top 0).length-a'.defers.length) ?_ ?_
 ·repeat apply Exists.intro
  exact⟨⟨S0,rfl,by unfold Hid rem;simp⟩,rfl⟩
 ·rintro _ X ⟨u5,u11,u12,u13,u14,u15,u16,u17,u18,u19,u20,u21,u22,u23,u24,u25,u26,u27,u28,u29,u30,u31,u32,u33,u34,u35,u36,u37,u38,d,S,K,rs,⟨hS,hrl,hd⟩,rfl⟩
  clear S0 f0 bx0 ow0 cb
  obtain⟨sv,hbx,hown,hsk⟩:=hS.box
  by_cases hSn:S = []
  ·subst hSn
   obtain⟨sa,sc,rfl,_⟩:=own_slice hown
   have cx:=at_cells hbx 0 rfl
   gi_wp2
   refine leave_marks (v:=.tuple #[]) (fun w=>results_none rfl _ _ _) rs X hS.nd (fun r hr=>(hS.marks r hr).2.2) (fun X' hF=>⟨⟨_,rfl⟩,K,?_⟩)
   have:d=wk L top 0:=by rw[← hd.out];simp[rem]
   rw[← this]
   exact hG _ _ _ _ _ hS.g hF (fun j hj=>⟨(hS.marks j hj).2.1,(hS.marks j hj).1⟩)
  ·obtain⟨S0,t,rfl⟩ : ∃ S0 t,S=S0++[t]:=⟨S.dropLast,S.getLast hSn,(List.dropLast_concat_getLast hSn).symm⟩
   clear hSn
   have hsl:(S0++[t]).length=S0.length+1:=by simp
   have hrem:=rem_pop hA S0 t
   have hbnd:Hid (S0.length+1≤50000):=by
    have h1:=rem_len hA (S0++[t])
    have h2:=congrArg List.length hd.out
    simp only[List.length_append] at h1 h2
    unfold Hid
    simp at h1
    omega
   rw[hsl,flatS_append] at hown
   obtain⟨g,c,rfl,hc1,hc2,hgN,hcell⟩:=own_cell hown (by omega)
   have e0:=hcell (S0.length*2) (.int .i64 t.1) (by omega) (by rw[List.getElem?_append_right (by rw[flatS_len];omega),flatS_len];simp[flatS])
   have e1:=hcell (S0.length*2+1) (.int .i64 t.2) (by omega) (by rw[List.getElem?_append_right (by rw[flatS_len];omega),flatS_len];simp[flatS])
   have hless:=own_less hown (flatS_len S0)
   obtain⟨tn,td⟩:=t
   simp only at e0 e1 hrem
   have cx:=at_cells hbx 0 rfl
   have fx:X.frozen? ⟨W.heap.size+1,0,none⟩=false:=by simp[World.frozen?,hbx]
   have hcI:(S0.length:Int)+1≤c:=by omega
   have hcap:(c:Int)≤9223372036854775807:=by have:maxLen=9223372036854775807:=rfl;omega
   have f1:Fr [] X (X.alloc (.cells #[.int .i64 tn,.int .i64 td] 158)):=(Fr.refl _ _).alloc _
   have nb:(X.alloc (.cells #[.int .i64 tn,.int .i64 td] 158)).heap[X.heap.size]? = some (.cells #[.int .i64 tn,.int .i64 td] 158 (0,0)):=heap_alloc_new X _
   have S1:=hS.fr hG f1 (by simp)
   have S2:=S1.boxed hG (v' := .slice (some ⟨g,0,none⟩) S0.length c) (S' := S0) ((f1.block _ (Array.getElem?_eq_some_iff.1 hbx).1 (by simp)).trans hbx) (Fr.refl _ _) (own_fr hless f1 (by simp)) (fun k hk=>hsk k (by simpa [Value.ownBlock] using hk))
   have HgX:Hid (g<X.heap.size):=(hown.lt g rfl).2
   have bx1:=(f1.block _ (Array.getElem?_eq_some_iff.1 hbx).1 (by simp)).trans hbx
   have cx1:=at_cells bx1 0 rfl
   have fx1:(X.alloc (.cells #[.int .i64 tn,.int .i64 td] 158)).frozen? ⟨W.heap.size+1,0,none⟩=false:=by simp[World.frozen?,bx1]
   have HNX:Hid (W.heap.size+1<X.heap.size):=(Array.getElem?_eq_some_iff.1 hbx).1
   have f2:Fr [W.heap.size+1] (X.alloc (.cells #[.int .i64 tn,.int .i64 td] 158)) ((X.alloc (.cells #[.int .i64 tn,.int .i64 td] 158)).setCell ⟨W.heap.size+1,0,none⟩ (.slice (some ⟨g,0,none⟩) S0.length c)):=Fr.setCell (Fr.refl _ _) (.inl (by simp)) _
   have nb2:=(f2.block _ (Array.getElem?_eq_some_iff.1 nb).1 (by simp;have:=HNX.out;omega)).trans nb
   have n0:=at_cells nb2 0 (u:=.int .i64 tn) rfl
   have n1:=at_cells nb2 1 (u:=.int .i64 td) rfl
   have HCX:Hid (X.heap.size<((X.alloc (.cells #[.int .i64 tn,.int .i64 td] 158)).setCell ⟨W.heap.size+1,0,none⟩ (.slice (some ⟨g,0,none⟩) S0.length c)).heap.size):=(Array.getElem?_eq_some_iff.1 nb2).1
   have S2:=S2.also [X.heap.size] (fun j hj=>by
    simp at hj
    subst hj
    refine⟨HCX.out,fun sv hsv=>?_⟩
    rw[set_same bx1] at hsv
    simp at hsv
    subst hsv
    simp[Value.ownBlock]
    have:=HgX.out
    omega)
   have hkbX:Hid (∀ j∈K,j<X.heap.size):=fun j hj=>(hS.kb j hj).2
   clear hown hcell hless hbx hS S1
   obtain⟨fn,tmps,assign,body,hy,hR⟩:=hY d K (tn,td) _ S2.g ⟨_,by rw[← hd.out,hrem]⟩
   gi_wp2
   refine⟨rfl,hR.mono ?_⟩
   rintro e X3 ⟨rfl,f3,K',hG3,hK3⟩
   clear hR hy n0 n1 cx1 fx1 bx1 nb cx fx e0 e1 f1 f2
   have S3:=S2.told f3 hG3 (hKB _ _ _ hG3) hK3
   have HNC:Hid (W.heap.size+1<X.heap.size∧g<X.heap.size):=⟨HNX.out,HgX.out⟩
   generalize (X.alloc (.cells #[.int .i64 tn,.int .i64 td] 158)).setCell ⟨W.heap.size+1,0,none⟩ (.slice (some ⟨g,0,none⟩) S0.length c)=X2 at *
   have hCK:X.heap.size∉K:=fun hm=>by have:=hkbX.out _ hm;omega
   have nb3:=(f3.block _ HCX.out hCK).trans nb2
   have HC3:Hid (X.heap.size<X3.heap.size):=(Array.getElem?_eq_some_iff.1 nb3).1
   have HCK:Hid (X.heap.size∉K'):=fun hm=>by rcases hK3 _ hm with h1 | h1;exact hCK h1;have:=HCX.out;omega
   have HIN:Hid (tn+td≤top):=by
    have:=wk_sum hA top 0 (tn,td) (by rw[← hd.out,hrem];simp)
    unfold Hid
    simpa using this
   have HKS:Hid (∀ j∈K',j<X3.heap.size):=fun j hj=>(S3.kb j hj).2
   have HRS:Hid (∀ r∈rs,r<X3.heap.size):=fun r hr=>(Array.getElem?_eq_some_iff.1 (S3.marks r hr).2.2).1
   have hdn:Hid ((d++[(tn,td)])++rem L (S0++List.map (fun k=>(k,td+1)) (kN L tn).reverse)=wk L top 0):=by unfold Hid;rw[← hd.out,hrem];simp
   clear hrem hd S2 nb2 f3 hG3 hK3 hCK hsk hkbX hsl
   generalize X.heap.size=C at *
   clear HCX
   have hbT:Hid (S0.length+(kN L tn).length≤50000):=by
    have h1:=rem_len hA (S0++List.map (fun k=>(k,td+1)) (kN L tn).reverse)
    have h2:=congrArg List.length hdn.out
    simp only[List.length_append,List.length_map,List.length_reverse,List.length_cons,List.length_nil] at h1 h2
    unfold Hid
    omega
   have hx:L[tn]? = some (L[tn]'(by have:=HIN.out;omega)):=List.getElem?_eq_getElem _
   generalize L[tn]'(by have:=HIN.out;omega)=x at hx
   have hkN:Hid (kN L tn=x.ks.map Int.toNat):=by unfold Hid kN;rw[hx]
   have HPOS:Hid (∀ k∈x.ks,0≤k):=fun k hk=>(hA tn x hx k hk).1
   obtain⟨b,o,rfl,hb,hNC⟩:=S3.n tn x hx
   obtain⟨kind,text,xa,xc,ks,pl⟩:=x
   simp only at hkN HPOS
   have n2:X3.cell? ⟨b,o+tn*4+2,none⟩=some (.slice xa ks.length xc):=hNC.c2
   have HKL:Hid (ks.length≤50000):=by have:=hbT.out;rw[hkN.out] at this;simp at this;unfold Hid;omega
   have cl:=at_cells S3.lb 0 rfl
   have m0:=at_cells nb3 0 (u:=.int .i64 tn) rfl
   have htn:(tn:Int)<len:=by have:=HIN.out;omega
   clear hNC
   gi_wp2
   refine⟨trivial,rfl,(callsIn_wide.2 (back_any _ _ _ X3)).mono ?_⟩
   rintro e X4 ⟨rfl,rfl⟩
   clear m0 cl n2
   have f4:Fr [] X3 (X3.alloc (.cells #[.slice xa ks.length xc] 26)):=(Fr.refl _ _).alloc _
   have k4:(X3.alloc (.cells #[.slice xa ks.length xc] 26)).heap[X3.heap.size]? = some (.cells #[.slice xa ks.length xc] 26 (0,0)):=heap_alloc_new X3 _
   have S4:=S3.fr hG f4 (by simp)
   have nb4:=(f4.block _ HC3.out (by simp)).trans nb3
   have HS4:Hid ((X3.alloc (.cells #[.slice xa ks.length xc] 26)).heap.size=X3.heap.size+1):=by unfold Hid;simp
   generalize X3.alloc (.cells #[.slice xa ks.length xc] 26)=X4 at *
   clear S3 nb3 f4
   generalize X3.heap.size=M at *
   gi_wp2
   refine range_outer (gf:=179) (lb:=#[.pointer (some ⟨M,0,none⟩)]) rfl (enters_of Tryz.func179 (by kernel_rfl) rfl) ?_
   intro rec hYr
   show CallsIn Fence.wide 0 Tryz.prog 179 #[.func (.yield (X4.heap.size+1)) #[] #[],.pointer (some ⟨M,0,none⟩)] _ _
   have f5:Fr [] X4 ((X4.alloc (.deferred (some []))).alloc (.loop (rec .ready none))):=((Fr.refl _ _).alloc _).alloc _
   have hL5:=blk2 X4 (.deferred (some [])) (.loop (rec .ready none))
   have hD5:((X4.alloc (.deferred (some []))).alloc (.loop (rec .ready none))).heap[X4.heap.size]? = some (.deferred (some [])):=(Below.heap_alloc _ _ _ (by simp)).trans (heap_alloc_new X4 _)
   generalize (X4.alloc (.deferred (some []))).alloc (.loop (rec .ready none))=X5 at *
   have hM4:X4.heap.size=M+1:=HS4.out
   rw[hM4] at hL5 hD5 hYr ⊢
   have S5:=S4.fr hG f5 (by simp)
   have nb5:=(f5.block _ (Array.getElem?_eq_some_iff.1 nb4).1 (by simp)).trans nb4
   have k5:=(f5.block _ (Array.getElem?_eq_some_iff.1 k4).1 (by simp)).trans k4
   have HM4:Hid (X4.heap.size=M+1):=hM4
   clear S4 nb4 k4 f5 hM4 HS4
   refine (back1 (fun j Wj=>BS G L (some ⟨b,o,none⟩) len cap B bl W.heap.size [C] (d++[(tn,td)]) (S0++((kN L tn).reverse.take j).map (fun k=>(k,td+1))) K' rs Wj∧Wj.heap[C]? = some (.cells #[.int .i64 tn,.int .i64 td] 158 (0,0))∧Wj.heap[M]? = some (.cells #[.slice xa ks.length xc] 26 (0,0))∧Wj.heap[M+1]? = some (.deferred (some []))∧Wj.heap[M+1+1]? = some (.loop (rec .ready none)))
    M (M+1+1) B xa xc ks (by have:=HKL.out;omega) (fun j Wj h=>⟨h.2.2.1,?_⟩) ?_ X5 ⟨by simpa using S5,nb5,k5,hD5,hL5⟩).mono ?_
   ·obtain⟨b',o',e',_,hNC⟩:=h.1.n tn _ hx
    exact hNC.k
   ·rintro j k Y hk ⟨hS,h1,h2,h3,h4⟩
    have hkp:=HPOS.out k (by have:=List.mem_of_getElem? hk;simpa using this)
    obtain⟨r,rfl⟩:=Int.eq_ofNat_of_zero_le hkp
    have hjl:j<(kN L tn).reverse.length:=by have:=(List.getElem?_eq_some_iff.1 hk).1;rw[hkN.out];simpa using this
    have hsn:Hid (S0++List.map (fun k=>(k,td+1)) (List.take (j+1) (kN L tn).reverse)=(S0++List.map (fun k=>(k,td+1)) (List.take j (kN L tn).reverse))++[(r,td+1)]):=by
     unfold Hid
     have e1:(kN L tn).reverse[j]? = some r:=by rw[hkN.out,← List.map_reverse,List.getElem?_map,hk];simp
     rw[List.take_add_one,e1]
     simp
    have hbS:Hid ((S0++List.map (fun k=>(k,td+1)) (List.take j (kN L tn).reverse)).length+1≤50000):=by
     have h1:=hbT.out
     unfold Hid
     simp only[List.length_append,List.length_map,List.length_take,List.length_reverse] at hjl ⊢
     omega
    rw[hsn.out]
    generalize S0++List.map (fun k=>(k,td+1)) (List.take j (kN L tn).reverse)=S at *
    clear hsn hk hkp hjl
    have HYs:Hid (M+1+1<Y.heap.size):=(Array.getElem?_eq_some_iff.1 h4).1
    have hl2:Hid (∀ T:World,T.heap[M+1+1]? = Y.heap[M+1+1]?→T.heap.size=Y.heap.size→True):=fun _ _ _=>trivial
    have hlm:∀ r'∈rs,r'≠M+1+1:=fun r' hr e=>by have:=(hS.marks r' hr).2.2;rw[e,h4] at this;simp at this
    have HWM:Hid (W.heap.size+1<M):=by have:=HNC.out;have:=HC3.out;unfold Hid;omega
    refine hYr _ Y _ rfl h4 ?_
    clear hYr
    gi_wp2
    refine⟨h4,?_⟩
    have S1:=hS.fr hG (Fr.putObj (l:=M+1+1) (.loop (rec .busy none))) (fun q hq=>by
     simp at hq
     subst hq
     exact⟨fun hm=>by have:=HKS.out _ hm;omega,by have:=HWM.out;omega,fun c t z e=>by rw[h4] at e;simp at e,fun hm=>hlm _ hm rfl⟩)
    have ne1:C≠M+1+1:=by have:=HC3.out;omega
    have y1:(Y.putObj (M+1+1) (.loop (rec .busy none))).heap[C]? = _:=(World.putObj_heap_other ne1).trans h1
    have y2:(Y.putObj (M+1+1) (.loop (rec .busy none))).heap[M]? = _:=(World.putObj_heap_other (by omega)).trans h2
    have y3:(Y.putObj (M+1+1) (.loop (rec .busy none))).heap[M+1]? = _:=(World.putObj_heap_other (by omega)).trans h3
    have y4:=World.putObj_heap_same (w:=Y) (r:=M+1+1) (o:=.loop (rec .busy none)) (Array.getElem?_eq_some_iff.1 h4).1
    clear hS h1 h2 h3 h4 hl2 S5 nb5 k5 hD5 hL5
    generalize Y.putObj (M+1+1) (.loop (rec .busy none))=Y1 at *
    obtain⟨sv,hb1',ho,hk⟩:=S1.box
    obtain⟨sva,svc,rfl,_⟩:=own_slice ho
    have ca:=at_cells hb1' 0 rfl
    have m1:=at_cells y1 1 (u:=.int .i64 td) rfl
    have htd:(td:Int)≤50000:=by have:=HIN.out;omega
    have hnew:∀ j u,[Value.int .i64 (r:Int),Value.int .i64 ((td:Int)+1)][j]? = some u→(Y1.alloc (.cells #[.int .i64 (r:Int),.int .i64 ((td:Int)+1)] 158)).cell? ((⟨Y1.heap.size,0,none⟩ : Addr).add j)=some u:=by
     intro j u hu
     have hadd:(⟨Y1.heap.size,0,none⟩ : Addr).add j = ⟨Y1.heap.size,j,none⟩:=by unfold Addr.add;split <;> simp_all
     rw[hadd]
     exact at_cells (heap_alloc_new Y1 _) j (by simpa using hu)
    have HY1:Hid (W.heap.size+1<Y1.heap.size∧M+1+1<Y1.heap.size):=⟨(Array.getElem?_eq_some_iff.1 hb1').1,(Array.getElem?_eq_some_iff.1 y4).1⟩
    gi_wp2_with (gi_at_builtin;refine wpListIn_append_own_at _ rfl _ _ 155 rfl W.heap.size 158 i5 (.agg #[.int .i64 0,.int .i64 0]) 2 16 under50 hi hz hz1 hby rfl (by decide) (.slice sva S.length svc) S.length (flatS S) rfl (ho.alloc _) ⟨Y1.heap.size,0,none⟩ 1 1 [.int .i64 (r:Int),.int .i64 ((td:Int)+1)] rfl rfl hnew (by simp[Value.oneCell']) (by have:=hbS.out;have:maxLen=9223372036854775807:=rfl;omega) (by have:=hbS.out;omega) (by have:=HY1.out;simp;omega) ?_)
    intro v1 w3 hown1 hgrow hnil hloc
    have f2:Fr (Value.slice sva S.length svc).ownBlock.toList Y1 w3:=((Fr.refl _ _).alloc _).trans ((Fr.ofGrown hgrow).sub (fun k hk=>.inl hk))
    have hlo:∀ k,(Value.slice sva S.length svc).ownBlock=some k→W.heap.size≤k∧k<Y1.heap.size:=fun k hk=>ho.lt k hk
    have S3:=S1.boxed hG hb1' f2 (v' := v1) (S' := S++[(r,td+1)]) (by rw[flatS_append];simpa [flatS] using hown1) (fun k hk'=>by
     rcases hloc with h1 | h1
     ·exact hk k (by rw[← h1];exact hk')
     ·rw[h1] at hk'
      simp at hk'
      subst hk'
      have:=HC3.out
      have:=HY1.out.2
      exact⟨fun hm=>by have:=HKS.out _ hm;omega,by simp;omega⟩)
    have keep:∀ {k:Nat} {o:Obj},Y1.heap[k]? = some o→(Value.slice sva S.length svc).ownBlock≠some k→w3.heap[k]? = some o:=fun h1 hne=>(f2.block _ (Array.getElem?_eq_some_iff.1 h1).1 (by simpa using hne)).trans h1
    have z1:=keep y1 (fun e=>(hk C e).2 (by simp))
    have z2:=keep y2 (own_ne ho y2 (by decide))
    have z3:=keep y3 (own_notloop ho y3 (by intro c t z e;cases e))
    have z4:=keep y4 (own_notloop ho y4 (by intro c t z e;cases e))
    have hb2:=keep hb1' (own_ne ho hb1' (by decide))
    have cb1:=at_cells hb2 0 rfl
    have fb1:w3.frozen? ⟨W.heap.size+1,0,none⟩=false:=by simp[World.frozen?,hb2]
    obtain⟨av,cv,hv,_⟩:=own_slice hown1
    subst hv
    clear ca m1 hgrow hnew keep y1 y2 y3 y4 hloc hnil hown1 ho S1 f2
    gi_wp2
    have f3:Fr [W.heap.size+1] w3 (w3.setCell ⟨W.heap.size+1,0,none⟩ (.slice av (S.length+1) cv)):=Fr.setCell (Fr.refl _ _) (.inl (by simp)) _
    have keep3:∀ {k:Nat} {o:Obj},k≠W.heap.size+1→w3.heap[k]? = some o→(w3.setCell ⟨W.heap.size+1,0,none⟩ (.slice av (S.length+1) cv)).heap[k]? = some o:=fun hk h1=>(f3.block _ (Array.getElem?_eq_some_iff.1 h1).1 (by simpa using hk)).trans h1
    have q1:=keep3 (by have:=HNC.out;omega) z1
    have q2:=keep3 (by have:=HWM.out;omega) z2
    have q3:=keep3 (by have:=HWM.out;omega) z3
    have q4:=keep3 (by have:=HWM.out;omega) z4
    generalize w3.setCell ⟨W.heap.size+1,0,none⟩ (.slice av (S.length+1) cv)=w4 at *
    have S5:=S3.fr hG (Fr.putObj (l:=M+1+1) (.loop (rec .ready none))) (fun q hq=>by
     simp at hq
     subst hq
     exact⟨fun hm=>by have:=HKS.out _ hm;omega,by have:=HWM.out;omega,fun c t z e=>by rw[q4] at e;simp at e,fun hm=>hlm _ hm rfl⟩)
    exact⟨q4,rfl,S5,(World.putObj_heap_other ne1).trans q1,(World.putObj_heap_other (by omega)).trans q2,(World.putObj_heap_other (by omega)).trans q3,World.putObj_heap_same (Array.getElem?_eq_some_iff.1 q4).1⟩
   ·rintro e W2 ⟨hv,hS,h1,h2,h3,h4⟩
    refine⟨hv,.inl ⟨h4,?_⟩⟩
    have HWM:Hid (W.heap.size+1<M):=by have:=HNC.out;have:=HC3.out;unfold Hid;omega
    have S6:=hS.fr hG (Fr.putObj (l:=M+1+1) (.loop (rec .exhausted none))) (fun q hq=>by
     simp at hq
     subst hq
     exact⟨fun hm=>by have:=HKS.out _ hm;omega,by have:=HWM.out;omega,fun c t z e=>by rw[h4] at e;simp at e,fun hm=>by have:=(hS.marks _ hm).2.2;rw[h4] at this;simp at this⟩)
    have q3:(W2.putObj (M+1+1) (.loop (rec .exhausted none))).heap[M+1]? = _:=(World.putObj_heap_other (by omega)).trans h3
    have S7:=(S6.also [] (by simp)).mark (r:=M+1) (fun hm=>by have:=HRS.out _ hm;omega) (by have:=HWM.out;omega) (fun hm=>by have:=HKS.out _ hm;omega) q3
    have e1:List.take ks.length (kN L tn).reverse=(kN L tn).reverse:=List.take_of_length_le (by rw[hkN.out];simp)
    rw[e1] at S7
    have HLT:Hid (d.length<(wk L top 0).length):=by
     have h2:=congrArg List.length hdn.out
     simp only[List.length_append,List.length_cons,List.length_nil] at h2
     unfold Hid
     omega
    have HE:X4.heap.size=M+1:=HM4.out
    clear hS h1 h2 h3 h4 S6 q3 e1 hYr S5 nb5 k5 hD5 hL5
    generalize W2.putObj (M+1+1) (.loop (rec .exhausted none))=W3 at *
    gi_wp2
    refine⟨?_,?_⟩
    ·repeat apply Exists.intro
     exact⟨⟨S7,by have:=hrl.out;unfold Hid;simp[this],hdn⟩,rfl⟩
    ·have:=hrl.out
     have:=HLT.out
     simp
     omega
end Go.Proofs.YtnmfcaahdeddnaaGreatDoor.T5
