/-
  Parts of the proof; conditions: as each says.
-/
import Derived.Lib.ItoaNum
import Derived.Test.YtnmfcaahdeddnaaGreatDoorMgBFHH
namespace Go.Proofs.YtnmfcaahdeddnaaGreatDoor
open Go.RowKit
set_option linter.unusedVariables false
set_option linter.unusedSimpArgs false
structure PN where
 kind:Nat
 text:List UInt8
 kids:List Nat
 pl:Nat
abbrev R:=Option (Except Nat (List Nat×Nat×List PN))
def tk (ts:List Tok) (i:Nat) : Tok:=ts.getD i ⟨0,[],0,0,0⟩
def nxT (t:Tok) : List UInt8:=if t.kind=1 then [110,97,109,101] else if t.kind=4 then [110,117,109,98,101,114] else if t.kind=0 then [] else t.text
def nx (ts:List Tok) (i:Nat) : List UInt8:=nxT (tk ts i)
def bindR (r:R) (k:List Nat→Nat→List PN→R) : R :=
 match r with
 | some (.ok (v,i,ns))=>k v i ns
 | some (.error e)=>some (.error e)
 | none=>none
def layR (kind:Nat) (text:List UInt8) (pl:Nat) (kids:List Nat) (i:Nat) (ns:List PN) : R:=some (.ok ([ns.length],i,ns++[⟨kind,text,kids,pl⟩]))
def wantR (ts:List Tok) (what:List UInt8) (i:Nat) (k:R) : R:=if nx ts i=what then k else some (.error i)
def lineL (s:List UInt8) : Nat :=
 if s = [61,61]∨s = [33,61]∨s = [60]∨s = [60,61] then 1
 else if s = [124]∨s = [94] then 2
 else if s = [38] then 3
 else if s = [60,60]∨s = [62,62] then 4
 else if s = [43]∨s = [45] then 5
 else if s = [42]∨s = [47]∨s = [37] then 6
 else 0
def isSg (s:List UInt8) : Bool:=s == [45] || s == [33] || s == [126]
def placeK (k:Nat) : Bool:=k == 17 || k == 20 || k == 21 || k == 30
inductive NT where
 | prog | progL (acc:List Nat) | decl | recd | func | name | block (pl:Nat) | blockL (pl:Nat) (acc:List Nat) | stmt | letS | choice | other | whileS | worded (k:Nat) | merge | setOrDo | setS (place:Nat)
 | expr | chain (line:Nat) | chainL (line n:Nat) | joined (left line:Nat) | signed | signedL (acc:List Tok) | back | backL (n:Nat) | field (n:Nat) | elem (n:Nat)
 | first | number | nameOrCall | made | alone (k:Nat) | empty (k:Nat) | about (k:Nat) | brack
 | listed (thing:Bool) (closing:List UInt8) | listedL (thing:Bool) (closing:List UInt8) (acc:List Nat)
 | laySigns (acc:List Tok) (n:Nat)
def firstNT (s:List UInt8) : Option NT :=
 if s = [110,117,109,98,101,114] then some .number
 else if s = [110,97,109,101] then some .nameOrCall
 else if s = [110,117,108,108] then some (.alone 16)
 else if s = [114,111,111,116] then some (.alone 30)
 else if s = [110,101,119] then some .made
 else if s = [97,114,114] then some (.about 24)
 else if s = [108,101,110] then some (.about 25)
 else if s = [105,110] then some (.empty 26)
 else if s = [105,109,103] then some (.about 27)
 else if s = [115,105,122,101] then some (.empty 28)
 else if s = [112,114,111,109,111,116,101] then some (.about 29)
 else if s = [40] then some .brack
 else none
def declNT (s:List UInt8) : Option NT :=
 if s = [114,101,99] then some .recd
 else if s = [102,110] then some .func
 else none
def stmtNT (s:List UInt8) : Option NT :=
 if s = [108,101,116] then some .letS
 else if s = [105,102] then some .choice
 else if s = [119,104,105,108,101] then some .whileS
 else if s = [114,101,116,117,114,110] then some (.worded 9)
 else if s = [111,117,116] then some (.worded 10)
 else if s = [115,116,111,112] then some (.worded 11)
 else if s = [109,101,114,103,101] then some .merge
 else none
def nmB:List UInt8:=[110,97,109,101]
def laySg:List Tok→Nat→List PN→Nat×List PN
 | [],n,ns=>(n,ns)
 | t::r,n,ns=>laySg r ns.length (ns++[⟨18,t.text,[n],t.frm⟩])
def hd (v:List Nat) : Nat:=v.getD 0 0
def kdN (ns:List PN) (n:Nat) : Nat:=match ns[n]? with | some x=>x.kind | none=>0
def plN (ns:List PN) (n:Nat) : Nat:=match ns[n]? with | some x=>x.pl | none=>0
def P (ts:List Tok) : Nat→NT→Nat→List PN→R
 | 0,_,_,_=>none
 | f+1,nt,i,ns =>
   match nt with
   | .prog=>P ts f (.progL []) i ns
   | .progL acc=>if nx ts i = [] then layR 1 [] 0 acc i ns else bindR (P ts f .decl i ns) fun v i ns=>P ts f (.progL (acc++[hd v])) i ns
   | .decl=>match declNT (nx ts i) with | some nt=>P ts f nt i ns | none=>some (.error i)
   | .recd=>wantR ts nmB (i+1) <| wantR ts [123] (i+2) <| bindR (P ts f (.listed false [125]) (i+3) ns) fun v j ns=>layR 2 (tk ts (i+1)).text (tk ts (i+1)).frm v j ns
   | .func=>wantR ts nmB (i+1) <| wantR ts [40] (i+2) <| bindR (P ts f (.listed false [41]) (i+3) ns) fun v j ns=>bindR (P ts f (.block 0) j ns) fun b j ns=>layR 3 (tk ts (i+1)).text (tk ts (i+1)).frm (v++[hd b]) j ns
   | .name=>wantR ts nmB i <| layR 17 (tk ts i).text (tk ts i).frm [] (i+1) ns
   | .block _=>wantR ts [123] i <| P ts f (.blockL (tk ts i).frm []) (i+1) ns
   | .blockL pl acc=>if nx ts i = [125] then layR 4 [] pl acc (i+1) ns else bindR (P ts f .stmt i ns) fun v i ns=>P ts f (.blockL pl (acc++[hd v])) i ns
   | .stmt=>match stmtNT (nx ts i) with | some nt=>P ts f nt i ns | none=>P ts f .setOrDo i ns
   | .letS=>wantR ts nmB (i+1) <| wantR ts [61] (i+2) <| bindR (P ts f .expr (i+3) ns) fun v j ns=>wantR ts [59] j <| layR 5 (tk ts (i+1)).text (tk ts (i+1)).frm [hd v] (j+1) ns
   | .choice=>bindR (P ts f .expr (i+1) ns) fun v j ns=>bindR (P ts f (.block 0) j ns) fun b j ns=>bindR (P ts f .other j ns) fun o j ns=>layR 7 [] (tk ts i).frm [hd v,hd b,hd o] j ns
   | .other=>if nx ts i = [101,108,115,101] then P ts f (.block 0) (i+1) ns else layR 14 [] 0 [] i ns
   | .whileS=>bindR (P ts f .expr (i+1) ns) fun v j ns=>bindR (P ts f (.block 0) j ns) fun b j ns=>layR 8 [] (tk ts i).frm [hd v,hd b] j ns
   | .worded k=>bindR (P ts f .expr (i+1) ns) fun v j ns=>wantR ts [59] j <| layR k [] (tk ts i).frm [hd v] (j+1) ns
   | .merge=>wantR ts [40] (i+1) <| bindR (P ts f (.listed false [41]) (i+2) ns) fun v j ns=>wantR ts [59] j <| layR 13 [] (tk ts i).frm v (j+1) ns
   | .setOrDo=>bindR (P ts f .back i ns) fun v j ns =>
    if placeK (kdN ns (hd v))=true∧nx ts j = [61] then P ts f (.setS (hd v)) j ns
    else if kdN ns (hd v)≠22 then some (.error j)
    else wantR ts [59] j <| layR 12 [] (plN ns (hd v)) [hd v] (j+1) ns
   | .setS p=>bindR (P ts f .expr (i+1) ns) fun v j ns=>wantR ts [59] j <| layR 6 [] (tk ts i).frm [p,hd v] (j+1) ns
   | .expr=>bindR (P ts f (.chain 2) i ns) fun v i ns=>if lineL (nx ts i)=1 then P ts f (.joined (hd v) 2) i ns else some (.ok (v,i,ns))
   | .chain line=>if line=7 then P ts f .signed i ns else bindR (P ts f (.chain (line+1)) i ns) fun v i ns=>P ts f (.chainL line (hd v)) i ns
   | .chainL line n=>if lineL (nx ts i)=line then bindR (P ts f (.joined n (line+1)) i ns) fun v i ns=>P ts f (.chainL line (hd v)) i ns else some (.ok ([n],i,ns))
   | .joined left line=>bindR (P ts f (.chain line) (i+1) ns) fun v j ns=>layR 19 (tk ts i).text (tk ts i).frm [left,hd v] j ns
   | .signed=>P ts f (.signedL []) i ns
   | .signedL acc=>if isSg (nx ts i) then P ts f (.signedL (acc++[tk ts i])) (i+1) ns else bindR (P ts f .back i ns) fun v j ns=>P ts f (.laySigns acc.reverse (hd v)) j ns
   | .laySigns acc n=>some (.ok ([(laySg acc n ns).1],i,(laySg acc n ns).2))
   | .back=>bindR (P ts f .first i ns) fun v i ns=>P ts f (.backL (hd v)) i ns
   | .backL n=>if nx ts i = [46] then bindR (P ts f (.field n) i ns) fun v i ns=>P ts f (.backL (hd v)) i ns else if nx ts i = [91] then bindR (P ts f (.elem n) i ns) fun v i ns=>P ts f (.backL (hd v)) i ns else some (.ok ([n],i,ns))
   | .field n=>wantR ts nmB (i+1) <| layR 20 (tk ts (i+1)).text (tk ts i).frm [n] (i+2) ns
   | .elem n=>bindR (P ts f .expr (i+1) ns) fun v j ns=>wantR ts [93] j <| layR 21 [] (tk ts i).frm [n,hd v] (j+1) ns
   | .first=>match firstNT (nx ts i) with | some nt=>P ts f nt i ns | none=>some (.error i)
   | .number=>layR 15 (Lib.decDigits (tk ts i).n) (tk ts i).frm [] (i+1) ns
   | .nameOrCall=>if nx ts (i+1) = [40] then bindR (P ts f (.listed true [41]) (i+2) ns) fun v j ns=>layR 22 (tk ts i).text (tk ts i).frm v j ns else layR 17 (tk ts i).text (tk ts i).frm [] (i+1) ns
   | .made=>wantR ts nmB (i+1) <| layR 23 (tk ts (i+1)).text (tk ts (i+1)).frm [] (i+2) ns
   | .alone k=>layR k [] (tk ts i).frm [] (i+1) ns
   | .empty k=>wantR ts [40] (i+1) <| wantR ts [41] (i+2) <| layR k [] (tk ts i).frm [] (i+3) ns
   | .about k=>bindR (P ts f .brack (i+1) ns) fun v j ns=>layR k [] (tk ts i).frm [hd v] j ns
   | .brack=>wantR ts [40] i <| bindR (P ts f .expr (i+1) ns) fun v j ns=>wantR ts [41] j <| some (.ok (v,j+1,ns))
   | .listed thing closing=>if nx ts i=closing then some (.ok ([],i+1,ns)) else bindR (P ts f (if thing then .expr else .name) i ns) fun v j ns=>P ts f (.listedL thing closing [hd v]) j ns
   | .listedL thing closing acc=>if nx ts i = [44] then bindR (P ts f (if thing then .expr else .name) (i+1) ns) fun v j ns=>P ts f (.listedL thing closing (acc++[hd v])) j ns else wantR ts closing i <| some (.ok (acc,i+1,ns))
def Good (E:Prop) (len i:Nat) (ns:List PN) (c s:Nat) (sg:Bool) (r:R) : Prop :=
 (E→∃ x,r=some x)∧(∀ e,r=some (.error e)→e<len)∧∀ v j ms,r=some (.ok (v,j,ms))→i+c≤j∧j<len∧ns.length≤ms.length∧ms.length≤ns.length+2*(j-i)+s∧(sg=true→∃ n,v = [n]∧n<ms.length)
section
variable {E:Prop} {len i:Nat} {ns:List PN} {c s:Nat} {sg:Bool} {r:R}
theorem Good.bind {c' s' : Nat} {sg' : Bool} {k:List Nat→Nat→List PN→R} (h:Good E len i ns c s sg r) (hk:∀ v j ms,i+c≤j→j<len→ns.length≤ms.length→(sg=true→∃ n,v = [n]∧n<ms.length)→Good E len j ms c' s' sg' (k v j ms)) : Good E len i ns (c+c') (s+s') sg' (bindR r k):=by
 obtain⟨hE,he,hx⟩:=h
 cases r with
 | none=>exact⟨fun h=>(by obtain⟨x,hx⟩:=hE h;cases hx),fun e h=>(by cases h),fun v j ms h=>(by cases h)⟩
 | some x =>
   cases x with
   | error e=>exact⟨fun _=>⟨_,rfl⟩,fun e' h=>by cases h;exact he e rfl,fun v j ms h=>by cases h⟩
   | ok x =>
     obtain⟨v,j,ms⟩:=x
     obtain⟨h1,h2,h3,h4,h5⟩:=hx v j ms rfl
     obtain⟨y,he2,hy⟩:=hk v j ms h1 h2 h3 h5
     refine⟨y,he2,fun v' j' ms' h=>?_⟩
     obtain⟨g1,g2,g3,g4,g5⟩:=hy v' j' ms' h
     exact⟨by omega,g2,by omega,by omega,g5⟩
theorem Good.shift {d c' s' : Nat} (h:Good E len (i+d) ns c s sg r) (hc:c'≤c+d) (hs:s≤s' + 2*d) : Good E len i ns c' s' sg r:=by
 obtain⟨e,he,hx⟩:=h
 refine⟨e,he,fun v j ms h=>?_⟩
 obtain⟨g1,g2,g3,g4,g5⟩:=hx v j ms h
 exact⟨by omega,g2,g3,by omega,g5⟩
theorem Good.weak {c' s' : Nat} (h:Good E len i ns c s sg r) (hc:c'≤c) (hs:s≤s') : Good E len i ns c' s' sg r:=by
 obtain⟨e,he,hx⟩:=h
 refine⟨e,he,fun v j ms h=>?_⟩
 obtain⟨g1,g2,g3,g4,g5⟩:=hx v j ms h
 exact⟨by omega,g2,g3,by omega,g5⟩
theorem Good.less {E' : Prop} (h:Good E len i ns c s sg r) (hE:E'→E) : Good E' len i ns c s sg r:=⟨fun h'=>h.1 (hE h'),h.2⟩
theorem Good.err {e:Nat} (h:e<len) : Good E len i ns c s sg (some (.error e)):=⟨fun _=>⟨_,rfl⟩,fun e' h'=>by cases h';exact h,fun v j ms h=>by cases h⟩
theorem Good.lay {k:Nat} {t:List UInt8} {p:Nat} {ks:List Nat} (hi:i<len) : Good E len i ns 0 1 true (layR k t p ks i ns):=by
 refine⟨fun _=>⟨_,rfl⟩,(fun e h=>by cases h),fun v j ms h=>?_⟩
 cases h
 refine⟨by omega,hi,by simp,by simp,fun _=>⟨_,rfl,by simp⟩⟩
theorem Good.one {n:Nat} (h:i<len) (hn:n<ns.length) : Good E len i ns 0 0 true (some (.ok ([n],i,ns))):=by
 refine⟨fun _=>⟨_,rfl⟩,(fun e h=>by cases h),fun v j ms h=>?_⟩
 cases h
 exact⟨by omega,by assumption,by omega,by omega,fun _=>⟨_,rfl,hn⟩⟩
theorem Good.same {v:List Nat} (h:i<len) (hv:sg=true→∃ n,v = [n]∧n<ns.length) : Good E len i ns 0 0 sg (some (.ok (v,i,ns))):=by
 refine⟨fun _=>⟨_,rfl⟩,(fun e h=>by cases h),fun v' j ms h=>?_⟩
 cases h
 exact⟨by omega,by assumption,by omega,by omega,hv⟩
end
structure Toks (ts:List Tok) : Prop where
 pos:0<ts.length
 last:∀ i,i<ts.length→(nx ts i = []↔i+1=ts.length)
 num:∀ i,(tk ts i).n≤9223372036854775807
theorem Toks.more {ts:List Tok} (h:Toks ts) {i:Nat} (hi:i<ts.length) (hn:nx ts i≠[]) : i+1<ts.length:=by
 have:¬ i+1=ts.length:=fun e=>hn ((h.last i hi).2 e)
 omega
theorem Good.want {E:Prop} {ts:List Tok} (h:Toks ts) {i:Nat} {ns:List PN} {c s:Nat} {sg:Bool} {what:List UInt8} {k:R} (hi:i<ts.length) (hw:what≠[]) (hk:nx ts i=what→i+1<ts.length→Good E ts.length (i+1) ns c s sg k) : Good E ts.length i ns (c+1) (s-2) sg (wantR ts what i k):=by
 unfold wantR
 by_cases e:nx ts i=what
 ·rw[if_pos e]
  exact (hk e (h.more hi (by rw[e];exact hw))).shift (by omega) (by omega)
 ·rw[if_neg e]
  exact Good.err hi
def rank:NT→Nat
 | .prog=>28 | .progL _=>27 | .decl=>26 | .blockL _ _=>25 | .stmt=>24 | .setOrDo=>23 | .listed _ _=>22 | .listedL _ _ _=>22 | .expr=>21 | .chain l=>20-l | .chainL _ _=>19
 | .signed=>6 | .signedL _=>5 | .back=>4 | .backL _=>3 | .first=>2 | .laySigns _ _=>0
 | _=>1
def slack:NT→Nat
 | .prog=>1 | .progL _=>1 | .other=>1 | .signedL acc=>acc.length | .laySigns acc _=>acc.length | _=>0
def consN:NT→Nat
 | .prog=>0 | .progL _=>0 | .other=>0 | .chainL _ _=>0 | .backL _=>0 | .laySigns _ _=>0 | _=>1
def single:NT→Bool
 | .listed _ _=>false | .listedL _ _ _=>false | _=>true
def preN (ts:List Tok) (i:Nat) (ns:List PN) : NT→Prop
 | .recd | .func | .letS | .choice | .whileS | .worded _ | .merge | .setS _ | .field _ | .elem _ | .number | .nameOrCall | .made | .alone _ | .empty _ | .about _=>nx ts i≠[]
 | .joined _ l=>nx ts i≠[]∧0<l∧l≤7
 | .chain l=>0<l∧l≤7
 | .chainL l n=>l≤6∧0<l∧n<ns.length
 | .backL n=>n<ns.length
 | .laySigns _ n=>n<ns.length
 | .listed _ c=>c≠[]
 | .listedL _ c _=>c≠[]
 | _=>True
theorem lineL_nil:lineL []=0:=by decide
theorem isSg_nil:isSg []=false:=by decide
theorem laySg_len:∀ (acc:List Tok) (n:Nat) (ns:List PN),n<ns.length→(laySg acc n ns).2.length=ns.length+acc.length∧(laySg acc n ns).1<(laySg acc n ns).2.length
 | [],n,ns,h=>by simp[laySg,h]
 | t::r,n,ns,h=>by
   simp only[laySg]
   have:=laySg_len r ns.length (ns++[⟨18,t.text,[n],t.frm⟩]) (by simp)
   simp only[List.length_append,List.length_cons,List.length_nil] at this ⊢
   omega
set_option maxHeartbeats 2000000 in
theorem good {ts:List Tok} (h:Toks ts) : ∀ (f:Nat) (nt:NT) (i:Nat) (ns:List PN),i<ts.length→preN ts i ns nt→Good (40*(ts.length-i)+rank nt<f) ts.length i ns (consN nt) (slack nt) (single nt) (P ts f nt i ns):=by
 intro f
 induction f with
 | zero=>exact fun nt i ns _ _=>⟨fun h=>by omega,fun e h=>by simp[P] at h,fun v j ms h=>by simp[P] at h⟩
 | succ f ih =>
   intro nt i ns hi hp
   generalize hE:(40*(ts.length-i)+rank nt<f+1)=E
   have go:∀ (nt' : NT) (j:Nat) (ms:List PN),j<ts.length→preN ts j ms nt'→i≤j→(i<j∨rank nt' < rank nt)→rank nt'≤28→Good E ts.length j ms (consN nt') (slack nt') (single nt') (P ts f nt' j ms):=fun nt' j ms hj hp' hij hr h28=>(ih nt' j ms hj hp').less (fun hf=>by
    rw[← hE] at hf
    rcases hr with hr | hr
    ·have:rank nt'≤28:=h28
     omega
    ·omega)
   clear ih hE
   cases nt with
   | prog=>exact (go (.progL []) i ns hi trivial (Nat.le_refl _) (.inr (by decide)) (by decide))
   | progL acc =>
     simp only[P]
     by_cases e:nx ts i = []
     ·rw[if_pos e]
      exact Good.lay hi
     ·rw[if_neg e]
      exact ((go .decl i ns hi trivial (Nat.le_refl _) (.inr (by simp[rank])) (by decide)).bind (c' := 0) (s' := 1) (sg' := true) (fun v j ms h1 h2 h3 _=>go (.progL (acc++[hd v])) j ms h2 trivial (by omega) (.inl (by simp[consN] at h1;omega)) (by simp[rank]))).weak (by simp[consN]) (by simp[slack])
   | decl =>
     simp only[P]
     unfold declNT
     by_cases e1:nx ts i = [114,101,99]
     ·rw[if_pos e1]
      exact go .recd i ns hi (by simp[preN,e1]) (Nat.le_refl _) (.inr (by simp[rank])) (by decide)
     ·rw[if_neg e1]
      by_cases e2:nx ts i = [102,110]
      ·rw[if_pos e2]
       exact go .func i ns hi (by simp[preN,e2]) (Nat.le_refl _) (.inr (by simp[rank])) (by decide)
      ·rw[if_neg e2]
       exact Good.err hi
   | recd =>
     simp only[P]
     have h1:=h.more hi hp
     refine Good.shift (d:=1) (Good.want h h1 (by decide) fun _ h2=>Good.want h h2 (by decide) fun _ h3=>Good.bind (go (.listed false [125]) (i+1+1+1) ns h3 (by simp[preN]) (by omega) (.inl (by omega)) (by decide)) (c' := 0) (s' := 1) (sg' := true) fun v j ms _ g2 _ _=>Good.lay g2) ?_ ?_
     all_goals simp[consN,slack]
   | func =>
     simp only[P]
     have h1:=h.more hi hp
     refine Good.shift (d:=1) (Good.want h h1 (by decide) fun _ h2=>Good.want h h2 (by decide) fun _ h3=>Good.bind (go (.listed false [41]) (i+1+1+1) ns h3 (by simp[preN]) (by omega) (.inl (by omega)) (by decide)) (c' := 1) (s' := 1) (sg' := true) fun v j ms g1 g2 _ _=>Good.bind (go (.block 0) j ms g2 trivial (by omega) (.inl (by omega)) (by decide)) (c' := 0) (s' := 1) (sg' := true) fun v j ms _ g2 _ _=>Good.lay g2) ?_ ?_
     all_goals simp[consN,slack]
   | name =>
     simp only[P]
     refine (Good.want h hi (by decide) fun _ h2=>Good.lay h2).weak ?_ ?_
     all_goals simp[consN,slack]
   | block pl =>
     simp only[P]
     refine (Good.want h hi (by decide) fun _ h2=>go (.blockL _ []) (i+1) ns h2 trivial (by omega) (.inl (by omega)) (by simp[rank])).weak ?_ ?_
     all_goals simp[consN,slack]
   | blockL pl acc =>
     simp only[P]
     by_cases e:nx ts i = [125]
     ·rw[if_pos e]
      refine Good.shift (d:=1) (Good.lay (h.more hi (by rw[e];decide))) ?_ ?_
      all_goals simp[consN,slack]
     ·rw[if_neg e]
      refine ((go .stmt i ns hi trivial (Nat.le_refl _) (.inr (by simp[rank])) (by decide)).bind (c' := 1) (s' := 0) (sg' := true) (fun v j ms h1 h2 h3 _=>go (.blockL pl (acc++[hd v])) j ms h2 trivial (by omega) (.inl (by simp[consN] at h1;omega)) (by simp[rank]))).weak ?_ ?_
      all_goals simp[consN,slack]
   | stmt =>
     simp only[P]
     unfold stmtNT
     have nn:∀ l:List UInt8,l≠[]→nx ts i=l→nx ts i≠[]:=fun l hl e=>by rw[e];exact hl
     by_cases e1:nx ts i = [108,101,116]
     ·rw[if_pos e1];exact go .letS i ns hi (nn _ (by decide) e1) (Nat.le_refl _) (.inr (by simp[rank])) (by decide)
     rw[if_neg e1]
     by_cases e2:nx ts i = [105,102]
     ·rw[if_pos e2];exact go .choice i ns hi (nn _ (by decide) e2) (Nat.le_refl _) (.inr (by simp[rank])) (by decide)
     rw[if_neg e2]
     by_cases e3:nx ts i = [119,104,105,108,101]
     ·rw[if_pos e3];exact go .whileS i ns hi (nn _ (by decide) e3) (Nat.le_refl _) (.inr (by simp[rank])) (by decide)
     rw[if_neg e3]
     by_cases e4:nx ts i = [114,101,116,117,114,110]
     ·rw[if_pos e4];exact go (.worded 9) i ns hi (nn _ (by decide) e4) (Nat.le_refl _) (.inr (by simp[rank])) (by decide)
     rw[if_neg e4]
     by_cases e5:nx ts i = [111,117,116]
     ·rw[if_pos e5];exact go (.worded 10) i ns hi (nn _ (by decide) e5) (Nat.le_refl _) (.inr (by simp[rank])) (by decide)
     rw[if_neg e5]
     by_cases e6:nx ts i = [115,116,111,112]
     ·rw[if_pos e6];exact go (.worded 11) i ns hi (nn _ (by decide) e6) (Nat.le_refl _) (.inr (by simp[rank])) (by decide)
     rw[if_neg e6]
     by_cases e7:nx ts i = [109,101,114,103,101]
     ·rw[if_pos e7];exact go .merge i ns hi (nn _ (by decide) e7) (Nat.le_refl _) (.inr (by simp[rank])) (by decide)
     rw[if_neg e7]
     exact go .setOrDo i ns hi trivial (Nat.le_refl _) (.inr (by simp[rank])) (by decide)
   | letS =>
     simp only[P]
     have h1:=h.more hi hp
     refine Good.shift (d:=1) (Good.want h h1 (by decide) fun _ h2=>Good.want h h2 (by decide) fun _ h3=>Good.bind (go .expr (i+1+1+1) ns h3 trivial (by omega) (.inl (by omega)) (by decide)) (c' := 1) (s' := 0) (sg' := true) fun v j ms _ g2 _ _=>(Good.want h g2 (by decide) fun _ g3=>Good.lay g3).weak (by omega) (by omega)) ?_ ?_
     all_goals simp[consN,slack]
   | choice =>
     simp only[P]
     have h1:=h.more hi hp
     refine Good.shift (d:=1) (Good.bind (go .expr (i+1) ns h1 trivial (by omega) (.inl (by omega)) (by decide)) (c' := 1) (s' := 2) (sg' := true) fun v j ms _ g2 _ _=>Good.bind (go (.block 0) j ms g2 trivial (by omega) (.inl (by omega)) (by decide)) (c' := 0) (s' := 2) (sg' := true) fun v j ms _ g2 _ _=>Good.bind (go .other j ms g2 trivial (by omega) (.inl (by omega)) (by decide)) (c' := 0) (s' := 1) (sg' := true) fun v j ms _ g2 _ _=>Good.lay g2) ?_ ?_
     all_goals simp[consN,slack]
   | other =>
     simp only[P]
     by_cases e:nx ts i = [101,108,115,101]
     ·rw[if_pos e]
      refine Good.shift (d:=1) (go (.block 0) (i+1) ns (h.more hi (by rw[e];decide)) trivial (by omega) (.inl (by omega)) (by decide)) ?_ ?_
      all_goals simp[consN,slack]
     ·rw[if_neg e]
      exact Good.lay hi
   | whileS =>
     simp only[P]
     have h1:=h.more hi hp
     refine Good.shift (d:=1) (Good.bind (go .expr (i+1) ns h1 trivial (by omega) (.inl (by omega)) (by decide)) (c' := 1) (s' := 1) (sg' := true) fun v j ms _ g2 _ _=>Good.bind (go (.block 0) j ms g2 trivial (by omega) (.inl (by omega)) (by decide)) (c' := 0) (s' := 1) (sg' := true) fun v j ms _ g2 _ _=>Good.lay g2) ?_ ?_
     all_goals simp[consN,slack]
   | worded k =>
     simp only[P]
     have h1:=h.more hi hp
     refine Good.shift (d:=1) (Good.bind (go .expr (i+1) ns h1 trivial (by omega) (.inl (by omega)) (by decide)) (c' := 1) (s' := 0) (sg' := true) fun v j ms _ g2 _ _=>(Good.want h g2 (by decide) fun _ g3=>Good.lay g3).weak (by omega) (by omega)) ?_ ?_
     all_goals simp[consN,slack]
   | merge =>
     simp only[P]
     have h1:=h.more hi hp
     refine Good.shift (d:=1) (Good.want h h1 (by decide) fun _ h2=>Good.bind (go (.listed false [41]) (i+1+1) ns h2 (by simp[preN]) (by omega) (.inl (by omega)) (by decide)) (c' := 1) (s' := 0) (sg' := true) fun v j ms _ g2 _ _=>(Good.want h g2 (by decide) fun _ g3=>Good.lay g3).weak (by omega) (by omega)) ?_ ?_
     all_goals simp[consN,slack]
   | setOrDo =>
     simp only[P]
     refine (Good.bind (go .back i ns hi trivial (Nat.le_refl _) (.inr (by simp[rank])) (by decide)) (c' := 0) (s' := 0) (sg' := true) fun v j ms g1 g2 _ _=>?_).weak ?_ ?_
     ·split
      ·rename_i e
       exact (go (.setS (hd v)) j ms g2 (by show nx ts j≠[];rw[e.2];decide) (by omega) (.inl (by simp[consN] at g1;omega)) (by simp[rank])).weak (by omega) (by simp[slack])
      ·split
       ·exact Good.err g2
       ·exact (Good.want h g2 (by decide) fun _ g3=>Good.lay g3).weak (by omega) (by omega)
     all_goals simp[consN,slack]
   | setS p =>
     simp only[P]
     have h1:=h.more hi hp
     refine Good.shift (d:=1) (Good.bind (go .expr (i+1) ns h1 trivial (by omega) (.inl (by omega)) (by decide)) (c' := 1) (s' := 0) (sg' := true) fun v j ms _ g2 _ _=>(Good.want h g2 (by decide) fun _ g3=>Good.lay g3).weak (by omega) (by omega)) ?_ ?_
     all_goals simp[consN,slack]
   | expr =>
     simp only[P]
     refine (Good.bind (go (.chain 2) i ns hi (by simp[preN]) (Nat.le_refl _) (.inr (by simp[rank])) (by decide)) (c' := 0) (s' := 0) (sg' := true) fun v j ms g1 g2 _ g4=>?_).weak ?_ ?_
     ·split
      ·rename_i e
       exact (go (.joined (hd v) 2) j ms g2 ⟨fun e2=>by rw[e2] at e;simp[lineL] at e,by decide,by decide⟩ (by omega) (.inl (by simp[consN] at g1;omega)) (by simp[rank])).weak (by omega) (by simp[slack])
      ·exact Good.same g2 g4
     all_goals simp[consN,slack]
   | chain line =>
     simp only[P]
     have hl:0<line∧line≤7:=hp
     split
     ·exact go .signed i ns hi trivial (Nat.le_refl _) (.inr (by simp[rank];omega)) (by decide)
     ·refine (Good.bind (go (.chain (line+1)) i ns hi (by show 0<line+1∧line+1≤7;omega) (Nat.le_refl _) (.inr (by simp[rank];omega)) (by simp[rank];omega)) (c' := 0) (s' := 0) (sg' := true) fun v j ms g1 g2 _ g4=>?_).weak ?_ ?_
      ·obtain⟨n,rfl,hn⟩:=g4 rfl
       exact go (.chainL line n) j ms g2 ⟨by omega,by omega,hn⟩ (by omega) (.inl (by simp[consN] at g1;omega)) (by simp[rank])
      all_goals simp[consN,slack]
   | chainL line n =>
     simp only[P]
     have hl:line≤6∧0<line∧n<ns.length:=hp
     split
     ·rename_i e
      refine (Good.bind (go (.joined n (line+1)) i ns hi ⟨fun e2=>by rw[e2,lineL_nil] at e;omega,by omega,by omega⟩ (Nat.le_refl _) (.inr (by simp[rank])) (by simp[rank])) (c' := 0) (s' := 0) (sg' := true) fun v j ms g1 g2 _ g4=>?_).weak ?_ ?_
      ·obtain⟨m,rfl,hm⟩:=g4 rfl
       exact go (.chainL line m) j ms g2 ⟨by omega,by omega,hm⟩ (by omega) (.inl (by simp[consN] at g1;omega)) (by simp[rank])
      all_goals simp[consN,slack]
     ·exact Good.one hi hl.2.2
   | joined left line =>
     simp only[P]
     have hl:nx ts i≠[]∧0<line∧line≤7:=hp
     have h1:=h.more hi hl.1
     refine Good.shift (d:=1) (Good.bind (go (.chain line) (i+1) ns h1 hl.2 (by omega) (.inl (by omega)) (by simp[rank];omega)) (c' := 0) (s' := 1) (sg' := true) fun v j ms _ g2 _ _=>Good.lay g2) ?_ ?_
     all_goals simp[consN,slack]
   | signed=>exact go (.signedL []) i ns hi trivial (Nat.le_refl _) (.inr (by simp[rank])) (by simp[rank])
   | signedL acc =>
     simp only[P]
     split
     ·rename_i e
      refine Good.shift (d:=1) (go (.signedL (acc++[tk ts i])) (i+1) ns (h.more hi (fun e2=>by rw[e2,isSg_nil] at e;cases e)) trivial (by omega) (.inl (by omega)) (by simp[rank])) ?_ ?_
      all_goals simp[consN,slack]
     ·refine (Good.bind (go .back i ns hi trivial (Nat.le_refl _) (.inr (by simp[rank])) (by decide)) (c' := 0) (s' := acc.length) (sg' := true) fun v j ms g1 g2 _ g4=>?_).weak ?_ ?_
      ·obtain⟨m,rfl,hm⟩:=g4 rfl
       exact (go (.laySigns acc.reverse m) j ms g2 hm (by omega) (.inl (by simp[consN] at g1;omega)) (by simp[rank])).weak (by simp[consN]) (by simp[slack])
      all_goals simp[consN,slack]
   | laySigns acc n =>
     simp only[P]
     have hn:n<ns.length:=hp
     obtain⟨g1,g2⟩:=laySg_len acc n ns hn
     refine⟨fun _=>⟨_,rfl⟩,(fun e h=>by cases h),fun v j ms h=>?_⟩
     cases h
     exact⟨by simp[consN],hi,by omega,by simp only[slack];omega,fun _=>⟨_,rfl,g2⟩⟩
   | back =>
     simp only[P]
     refine (Good.bind (go .first i ns hi trivial (Nat.le_refl _) (.inr (by simp[rank])) (by decide)) (c' := 0) (s' := 0) (sg' := true) fun v j ms g1 g2 _ g4=>?_).weak ?_ ?_
     ·obtain⟨m,rfl,hm⟩:=g4 rfl
      exact go (.backL m) j ms g2 hm (by omega) (.inl (by simp[consN] at g1;omega)) (by simp[rank])
     all_goals simp[consN,slack]
   | backL n =>
     simp only[P]
     have hn:n<ns.length:=hp
     split
     ·rename_i e
      refine (Good.bind (go (.field n) i ns hi (by show nx ts i≠[];rw[e];decide) (Nat.le_refl _) (.inr (by simp[rank])) (by simp[rank])) (c' := 0) (s' := 0) (sg' := true) fun v j ms g1 g2 _ g4=>?_).weak ?_ ?_
      ·obtain⟨m,rfl,hm⟩:=g4 rfl
       exact go (.backL m) j ms g2 hm (by omega) (.inl (by simp[consN] at g1;omega)) (by simp[rank])
      all_goals simp[consN,slack]
     ·split
      ·rename_i e
       refine (Good.bind (go (.elem n) i ns hi (by show nx ts i≠[];rw[e];decide) (Nat.le_refl _) (.inr (by simp[rank])) (by simp[rank])) (c' := 0) (s' := 0) (sg' := true) fun v j ms g1 g2 _ g4=>?_).weak ?_ ?_
       ·obtain⟨m,rfl,hm⟩:=g4 rfl
        exact go (.backL m) j ms g2 hm (by omega) (.inl (by simp[consN] at g1;omega)) (by simp[rank])
       all_goals simp[consN,slack]
      ·exact Good.one hi hn
   | field n =>
     simp only[P]
     have h1:=h.more hi hp
     refine Good.shift (d:=1) (Good.want h h1 (by decide) fun _ h2=>Good.lay h2) ?_ ?_
     all_goals simp[consN,slack]
   | elem n =>
     simp only[P]
     have h1:=h.more hi hp
     refine Good.shift (d:=1) (Good.bind (go .expr (i+1) ns h1 trivial (by omega) (.inl (by omega)) (by decide)) (c' := 1) (s' := 0) (sg' := true) fun v j ms _ g2 _ _=>(Good.want h g2 (by decide) fun _ g3=>Good.lay g3).weak (by omega) (by omega)) ?_ ?_
     all_goals simp[consN,slack]
   | first =>
     simp only[P]
     unfold firstNT
     have nn:∀ l:List UInt8,l≠[]→nx ts i=l→nx ts i≠[]:=fun l hl e=>by rw[e];exact hl
     by_cases e0:nx ts i = [110,117,109,98,101,114]
     ·rw[if_pos e0];exact go .number i ns hi (nn _ (by decide) e0) (Nat.le_refl _) (.inr (by simp[rank])) (by decide)
     rw[if_neg e0]
     by_cases e1:nx ts i = [110,97,109,101]
     ·rw[if_pos e1];exact go .nameOrCall i ns hi (nn _ (by decide) e1) (Nat.le_refl _) (.inr (by simp[rank])) (by decide)
     rw[if_neg e1]
     by_cases e2:nx ts i = [110,117,108,108]
     ·rw[if_pos e2];exact go (.alone 16) i ns hi (nn _ (by decide) e2) (Nat.le_refl _) (.inr (by simp[rank])) (by decide)
     rw[if_neg e2]
     by_cases e3:nx ts i = [114,111,111,116]
     ·rw[if_pos e3];exact go (.alone 30) i ns hi (nn _ (by decide) e3) (Nat.le_refl _) (.inr (by simp[rank])) (by decide)
     rw[if_neg e3]
     by_cases e4:nx ts i = [110,101,119]
     ·rw[if_pos e4];exact go .made i ns hi (nn _ (by decide) e4) (Nat.le_refl _) (.inr (by simp[rank])) (by decide)
     rw[if_neg e4]
     by_cases e5:nx ts i = [97,114,114]
     ·rw[if_pos e5];exact go (.about 24) i ns hi (nn _ (by decide) e5) (Nat.le_refl _) (.inr (by simp[rank])) (by decide)
     rw[if_neg e5]
     by_cases e6:nx ts i = [108,101,110]
     ·rw[if_pos e6];exact go (.about 25) i ns hi (nn _ (by decide) e6) (Nat.le_refl _) (.inr (by simp[rank])) (by decide)
     rw[if_neg e6]
     by_cases e7:nx ts i = [105,110]
     ·rw[if_pos e7];exact go (.empty 26) i ns hi (nn _ (by decide) e7) (Nat.le_refl _) (.inr (by simp[rank])) (by decide)
     rw[if_neg e7]
     by_cases e8:nx ts i = [105,109,103]
     ·rw[if_pos e8];exact go (.about 27) i ns hi (nn _ (by decide) e8) (Nat.le_refl _) (.inr (by simp[rank])) (by decide)
     rw[if_neg e8]
     by_cases e9:nx ts i = [115,105,122,101]
     ·rw[if_pos e9];exact go (.empty 28) i ns hi (nn _ (by decide) e9) (Nat.le_refl _) (.inr (by simp[rank])) (by decide)
     rw[if_neg e9]
     by_cases e10:nx ts i = [112,114,111,109,111,116,101]
     ·rw[if_pos e10];exact go (.about 29) i ns hi (nn _ (by decide) e10) (Nat.le_refl _) (.inr (by simp[rank])) (by decide)
     rw[if_neg e10]
     by_cases e11:nx ts i = [40]
     ·rw[if_pos e11];exact go .brack i ns hi trivial (Nat.le_refl _) (.inr (by simp[rank])) (by decide)
     rw[if_neg e11]
     exact Good.err hi
   | number =>
     simp only[P]
     refine Good.shift (d:=1) (Good.lay (h.more hi hp)) ?_ ?_
     all_goals simp[consN,slack]
   | nameOrCall =>
     simp only[P]
     have h1:=h.more hi hp
     split
     ·rename_i e
      refine Good.shift (d:=2) (Good.bind (go (.listed true [41]) (i+2) ns (h.more h1 (by rw[e];decide)) (by simp[preN]) (by omega) (.inl (by omega)) (by decide)) (c' := 0) (s' := 1) (sg' := true) fun v j ms _ g2 _ _=>Good.lay g2) ?_ ?_
      all_goals simp[consN,slack]
     ·refine Good.shift (d:=1) (Good.lay h1) ?_ ?_
      all_goals simp[consN,slack]
   | made =>
     simp only[P]
     have h1:=h.more hi hp
     refine Good.shift (d:=1) (Good.want h h1 (by decide) fun _ h2=>Good.lay h2) ?_ ?_
     all_goals simp[consN,slack]
   | alone k =>
     simp only[P]
     refine Good.shift (d:=1) (Good.lay (h.more hi hp)) ?_ ?_
     all_goals simp[consN,slack]
   | empty k =>
     simp only[P]
     have h1:=h.more hi hp
     refine Good.shift (d:=1) (Good.want h h1 (by decide) fun _ h2=>Good.want h h2 (by decide) fun _ h3=>Good.lay h3) ?_ ?_
     all_goals simp[consN,slack]
   | about k =>
     simp only[P]
     have h1:=h.more hi hp
     refine Good.shift (d:=1) (Good.bind (go .brack (i+1) ns h1 trivial (by omega) (.inl (by omega)) (by decide)) (c' := 0) (s' := 1) (sg' := true) fun v j ms _ g2 _ _=>Good.lay g2) ?_ ?_
     all_goals simp[consN,slack]
   | brack =>
     simp only[P]
     refine (Good.want h hi (by decide) fun _ h2=>Good.bind (go .expr (i+1) ns h2 trivial (by omega) (.inl (by omega)) (by decide)) (c' := 1) (s' := 0) (sg' := true) fun v j ms _ g2 _ g4=>(Good.want h g2 (by decide) fun _ g3=>Good.same g3 g4).weak (by omega) (by omega)).weak ?_ ?_
     all_goals simp[consN,slack]
   | listed thing closing =>
     simp only[P]
     have hc:closing≠[]:=hp
     split
     ·rename_i e
      refine Good.shift (d:=1) (Good.same (h.more hi (by rw[e];exact hc)) (fun e=>by cases e)) ?_ ?_
      all_goals simp[consN,slack]
     ·cases thing
      ·refine (Good.bind (go .name i ns hi trivial (Nat.le_refl _) (.inr (by simp[rank])) (by decide)) (c' := 1) (s' := 0) (sg' := false) fun v j ms g1 g2 _ g4=>go (.listedL false closing [hd v]) j ms g2 hc (by omega) (.inl (by simp[consN] at g1;omega)) (by simp[rank])).weak ?_ ?_
       all_goals simp[consN,slack]
      ·refine (Good.bind (go .expr i ns hi trivial (Nat.le_refl _) (.inr (by simp[rank])) (by decide)) (c' := 1) (s' := 0) (sg' := false) fun v j ms g1 g2 _ g4=>go (.listedL true closing [hd v]) j ms g2 hc (by omega) (.inl (by simp[consN] at g1;omega)) (by simp[rank])).weak ?_ ?_
       all_goals simp[consN,slack]
   | listedL thing closing acc =>
     simp only[P]
     have hc:closing≠[]:=hp
     split
     ·rename_i e
      have h1:=h.more hi (by rw[e];decide)
      cases thing
      ·refine Good.shift (d:=1) (Good.bind (go .name (i+1) ns h1 trivial (by omega) (.inl (by omega)) (by decide)) (c' := 1) (s' := 0) (sg' := false) fun v j ms g1 g2 _ g4=>go (.listedL false closing (acc++[hd v])) j ms g2 hc (by omega) (.inl (by omega)) (by simp[rank])) ?_ ?_
       all_goals simp[consN,slack]
      ·refine Good.shift (d:=1) (Good.bind (go .expr (i+1) ns h1 trivial (by omega) (.inl (by omega)) (by decide)) (c' := 1) (s' := 0) (sg' := false) fun v j ms g1 g2 _ g4=>go (.listedL true closing (acc++[hd v])) j ms g2 hc (by omega) (.inl (by omega)) (by simp[rank])) ?_ ?_
       all_goals simp[consN,slack]
     ·refine (Good.want h hi hc fun _ g3=>Good.same g3 (fun e=>by cases e)).weak ?_ ?_
      all_goals simp[consN,slack]
end Go.Proofs.YtnmfcaahdeddnaaGreatDoor
