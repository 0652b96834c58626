/-
  Parts of the proof; conditions: as each says.
-/
import Derived.Deep.RegionHeld3
import Derived.Deep.Cut
import Derived.Deep.RegionHeldLaw
import Derived.Deep.CutRange
import Derived.Recover
import Derived.Test.YtnmfcaahdeddnaaGreatDoorMgKBOA
set_option maxRecDepth 100000
namespace Go.Proofs.YtnmfcaahdeddnaaGreatDoor.T5
open Go.RowKit Go.Maps
set_option linter.unusedVariables false
set_option linter.unusedSimpArgs false
theorem bodyPost_panic {P:Program} {fn:Func} {R:Ending→World→Prop} {a:Act} {w:World} {chain:List PanicEntry} (hd:a.defers = []) (hR:R (.panicked chain) w) : bodyPost P fn R (.panic chain) a w:=⟨hd,hR⟩
theorem params_any (w:World) (kind:Int) (text:ByteArray) (a:Option Addr) (n c:Nat) (pl:Int) (hn:0<n) (hnc:n≤c) (hm:n≤50000) (ha:a≠none) :
 Calls Tryz.prog 69 #[.agg #[.int .i64 kind,.string text,.slice a n c,.int .i64 pl]] w fun e w'=>(∃ a' c',e = .returned (.slice a' (n-1) c'))∧Fr [] w w' := by
 obtain⟨ad,rfl⟩ : ∃ ad,a=some ad:=by cases a with | none=>exact absurd rfl ha | some ad=>exact⟨ad,rfl⟩
 have hnI:(1:Int)≤n:=by omega
 have hcI:(n:Int)≤c:=by omega
 have hmI:(n:Int)≤50000:=by omega
 have F0:Fr [] w (w.alloc (.cells #[.int .i64 kind,.string text,.slice (some ad) n c,.int .i64 pl] 55)):=(Fr.refl _ _).alloc _
 go_enter Tryz.func69,Tryz.ntmps69
 go_wp2
 go_ret
 exact⟨⟨_,_,rfl⟩,F0⟩
set_option maxHeartbeats 8000000 in
theorem expr_all {G:JG} {E:Env} (hA:Ahead G.L) (hF:FnOk G E) : ∀ n,n<G.len→ExprC G E n:=by
 intro n
 induction n using Nat.strongRecOn with
 | ind n ih =>
 intro hn w hi v C R hJ hE hC hR
 obtain⟨x,b,o,hx,ha,hb,hc⟩:=hJ.node hn
 have hlm:=hJ.lm
 have hlI:(G.len:Int)≤50000:=by omega
 have hnI:(n:Int)<G.len:=by omega
 have eK:kdN G.L n=x.kind:=by unfold kdN;rw[hx]
 have eT:txN G.L n=x.text.data.toList:=by unfold txN;rw[hx]
 have eN:kN G.L n=x.ks.map Int.toNat:=by unfold kN;rw[hx]
 have hkm:x.ks.length≤50000:=hJ.kb n x hx
 rw[exprE_eq hA,eN] at hR
 have hks:∀ k∈x.ks,0≤k∧ExprC G E k.toNat:=fun k hk=>by
  obtain⟨h0,h1⟩:=hA n x hx k hk
  exact⟨h0,ih k.toNat (by omega) (by omega)⟩
 have HS:Hid (∀ w' R',Fr [] w w'→ERes w' R' (eachE (exprE G.L E C) (x.ks.map Int.toNat))→Calls Tryz.prog 202 #[.pointer (some ⟨G.jb,0,none⟩),.slice x.a x.ks.length x.c,v] w' R'):=fun w' R' f hr=>exprs_cps (hJ.fr f (by simp)) (hE.fr f (by simp)) (hC.fr f (by simp)) (hc.k.fr f (by simp)) rfl hkm hks hr
 have HRF:Hid (∀ w' e,Fr [] w w'→Calls Tryz.prog 146 #[.pointer (some ⟨G.jb,0,none⟩),.int .i64 n,.int .i64 (e:Nat)] w' fun ex w''=>ex=thr (plN G.L n) e∧w'' = w'):=fun w' e f=>refuse_any (hJ.fr f (by simp)) hn e
 have HHS:Hid (∀ w',Fr [] w w'→Calls Tryz.prog 219 #[v,.string x.text] w' fun ex w''=>ex = .returned (.bool (hasE C (txN G.L n)))∧w'' = w'):=fun w' f=>by rw[eT];exact has_any (hC.fr f (by simp)) x.text hc.t
 have F1:Fr [] w (w.alloc (.cells #[.int .i64 x.kind,.string x.text,.slice x.a x.ks.length x.c,.int .i64 x.pl] 55)):=(Fr.refl _ _).alloc _
 have bx:=heap_alloc_new w (.cells #[.int .i64 x.kind,.string x.text,.slice x.a x.ks.length x.c,.int .i64 x.pl] 55)
 have k0:w.cell? ⟨G.jb,0,none⟩=some (.slice G.a G.len G.cap):=at_cells hJ.blk 0 rfl
 rw[ha] at k0
 have HJ:=hidC hJ
 have HE:=hidC hE
 have nb:b≠w.heap.size:=by have:=World.block_lt_of_cell? w _ hc.c0;simp only at this;omega
 have hkI:(x.ks.length:Int)≤50000:=by omega
 obtain⟨c0,c1,c2,c3,ck,ct,ckl,ckc,ckn⟩:=hc
 have HCK:=hidC ck
 have HRR:=hidC hR
 obtain⟨xk,xt,xa,xc,xks,xpl⟩:=x
 simp only at *
 clear hks ih hC hE hJ ck hR
 go_enter Tryz.func200,Tryz.ntmps200
 go_upto_region 1 with fail
 clear c0 c1 c2 c3 k0 nb
 generalize w.alloc (.cells #[.int .i64 xk,.string xt,.slice xa xks.length xc,.int .i64 xpl] 55)=W1 at *
 have d0:∀ w',Fr [] W1 w'→w'.cell? ⟨w.heap.size,0,none⟩=some (.int .i64 xk):=fun w' f=>f.cell1 (at_cells bx 0 rfl) (by simp)
 have d1:∀ w',Fr [] W1 w'→w'.cell? ⟨w.heap.size,1,none⟩=some (.string xt):=fun w' f=>f.cell1 (at_cells bx 1 rfl) (by simp)
 have d2:∀ w',Fr [] W1 w'→w'.cell? ⟨w.heap.size,2,none⟩=some (.slice xa xks.length xc):=fun w' f=>f.cell1 (at_cells bx 2 rfl) (by simp)
 have hJ1:=HJ.out.fr F1 (by simp)
 have j1:W1.cell? ⟨G.jb,1,none⟩=some (.map (some G.mr)):=at_cells hJ1.blk 1 rfl
 have j2:W1.cell? ⟨G.jb,2,none⟩=some (.map (some G.mf)):=at_cells hJ1.blk 2 rfl
 have j3:W1.cell? ⟨G.jb,3,none⟩=some (.map (some G.mn)):=at_cells hJ1.blk 3 rfl
 have RF:Fr [] W1 W1:=Fr.refl _ _
 have HF1:=hidC F1
 have HJ1:=hidC hJ1
 have HE1:=hidC (HE.out.fr F1 (by simp))
 clear bx hJ1
 have HRF80:Hid (Calls Tryz.prog 146 #[.pointer (some ⟨G.jb,0,none⟩),.int .i64 n,.int .i64 80] W1 fun ex w''=>ex=thr (plN G.L n) 80∧w'' = W1):=HRF.out W1 80 F1
 have HRF81:Hid (∀ w',Fr [] w w'→Calls Tryz.prog 146 #[.pointer (some ⟨G.jb,0,none⟩),.int .i64 n,.int .i64 81] w' fun ex w''=>ex=thr (plN G.L n) 81∧w'' = w'):=fun w' f=>HRF.out w' 81 f
 clear HRF
 by_cases k17:xk=17
 ·subst k17
  have C219:=HHS.out W1 F1
  clear HRF81 HHS j1 j2 j3
  cases hh:hasE C (txN G.L n) with
  | false =>
    have HT:Hid (∀ w',Fr [] w w'→R (thr (plN G.L n) 80) w'):=by
     have h1:=HRR.out
     unfold selfE at h1
     rw[eK,if_pos rfl,hh] at h1
     exact h1
    rw[hh] at C219
    have C146:=HRF80.out
    clear HRR HS HRF80 d2 F1
    generalize plN G.L n=pl at *
    unfold thr at *
    go_wp2_with (first | (go_at_call 219;with_reducible (refine C219.mono ?_);rintro ex wq ⟨rfl,rfl⟩) | (go_at_call 146;with_reducible (refine C146.mono ?_);rintro ex wq ⟨rfl,rfl⟩))
    exact⟨rfl,HT.out _ HF1.out⟩
  | true =>
    have HT:Hid (ERes W1 R (eachE (exprE G.L E C) (xks.map Int.toNat))):=by
     have h1:=HRR.out
     unfold selfE at h1
     rw[eK,if_pos rfl,hh] at h1
     exact ERes.fr h1 F1
    rw[hh] at C219
    clear HRR HRF80 F1
    go_wp2_with (go_at_call 219;with_reducible (refine C219.mono ?_);rintro ex wq ⟨rfl,rfl⟩)
    refine HS.out _ _ HF1.out ?_
    revert HT
    cases hq:eachE (exprE G.L E C) (xks.map Int.toNat) with
    | error pe =>
      obtain⟨pp,ee⟩:=pe
      intro HT w' f'
      exact⟨rfl,HT.out w' f'⟩
    | ok u =>
      intro HT w' f'
      have HX:=hidC (HT.out w' f')
      clear HT hq
      go_wp2
      go_end0
      exact HX.out
 clear HHS
 by_cases k20:xk=20
 ·subst k20
  obtain⟨cn,hm⟩:=HE1.out.f
  clear HRF81 HRF80 j1 j3
  cases hh:E.fl (txN G.L n) with
  | none =>
    have HT:Hid (∀ w',Fr [] w w'→R (thr (plN G.L n) 80) w'):=by
     have h1:=HRR.out
     unfold selfE at h1
     rw[eK,if_neg (by omega),if_pos rfl,hh] at h1
     exact h1
    have C220:=found_none HJ1.out hn hm hh
    clear HRR HS d2 F1 hm
    generalize plN G.L n=pl at *
    unfold thr at *
    go_wp2_with (go_at_call 220;with_reducible (refine C220.mono ?_);rintro ex wq ⟨rfl,rfl⟩)
    exact⟨rfl,HT.out _ HF1.out⟩
  | some d =>
    have HT:Hid (ERes W1 R (eachE (exprE G.L E C) (xks.map Int.toNat))):=by
     have h1:=HRR.out
     unfold selfE at h1
     rw[eK,if_neg (by omega),if_pos rfl,hh] at h1
     exact ERes.fr h1 F1
    have C220:=found_some HJ1.out hn hm hh
    clear HRR F1 hm
    go_wp2_with (go_at_call 220;with_reducible (refine C220.mono ?_);rintro ex wq ⟨rfl,rfl⟩)
    refine HS.out _ _ HF1.out ?_
    revert HT
    cases hq:eachE (exprE G.L E C) (xks.map Int.toNat) with
    | error pe =>
      obtain⟨pp,ee⟩:=pe
      intro HT w' f'
      exact⟨rfl,HT.out w' f'⟩
    | ok u =>
      intro HT w' f'
      have HX:=hidC (HT.out w' f')
      clear HT hq
      go_wp2
      go_end0
      exact HX.out
 by_cases k23:xk=23
 ·subst k23
  obtain⟨cn,hm⟩:=HE1.out.r
  clear HRF81 HRF80 j2 j3
  cases hh:E.rc (txN G.L n) with
  | none =>
    have HT:Hid (∀ w',Fr [] w w'→R (thr (plN G.L n) 80) w'):=by
     have h1:=HRR.out
     unfold selfE at h1
     rw[eK,if_neg (by omega),if_neg (by omega),if_pos rfl,hh] at h1
     exact h1
    have C220:=found_none HJ1.out hn hm hh
    clear HRR HS d2 F1 hm
    generalize plN G.L n=pl at *
    unfold thr at *
    go_wp2_with (go_at_call 220;with_reducible (refine C220.mono ?_);rintro ex wq ⟨rfl,rfl⟩)
    exact⟨rfl,HT.out _ HF1.out⟩
  | some d =>
    have HT:Hid (ERes W1 R (eachE (exprE G.L E C) (xks.map Int.toNat))):=by
     have h1:=HRR.out
     unfold selfE at h1
     rw[eK,if_neg (by omega),if_neg (by omega),if_pos rfl,hh] at h1
     exact ERes.fr h1 F1
    have C220:=found_some HJ1.out hn hm hh
    clear HRR F1 hm
    go_wp2_with (go_at_call 220;with_reducible (refine C220.mono ?_);rintro ex wq ⟨rfl,rfl⟩)
    refine HS.out _ _ HF1.out ?_
    revert HT
    cases hq:eachE (exprE G.L E C) (xks.map Int.toNat) with
    | error pe =>
      obtain⟨pp,ee⟩:=pe
      intro HT w' f'
      exact⟨rfl,HT.out w' f'⟩
    | ok u =>
      intro HT w' f'
      have HX:=hidC (HT.out w' f')
      clear HT hq
      go_wp2
      go_end0
      exact HX.out
 by_cases k22:xk=22
 ·subst k22
  obtain⟨cn,hm⟩:=HE1.out.n
  have j0:W1.cell? ⟨G.jb,0,none⟩=some (.slice (some ⟨b,o,none⟩) G.len G.cap):=by
   have:=at_cells HJ1.out.blk 0 rfl
   rw[ha] at this
   exact this
  have njb:G.jb≠W1.heap.size:=by have:=World.block_lt_of_cell? W1 _ j0;simp only at this;omega
  clear HRF80 j1 j2
  obtain⟨d,ev,hd,hdl,hC,hT⟩ : ∃ (d:Nat) (ev:Bool),d<G.len∧(ev=true→0<(kN G.L d).length) ∧
   (∀ w',Fr [] W1 w'→Calls Tryz.prog 220 #[.pointer (some ⟨G.jb,0,none⟩),.int .i64 n,.map (some G.mn)] w' fun ex w''=>(ev=false∧ex=thr (plN G.L n) 80∧w'' = w')∨(ev=true∧ex = .returned (.int .i64 d)∧w'' = w')) ∧
   ERes W1 R (if ev=true then (match (if xks.length=(kN G.L d).length-1 then .ok () else .error (plN G.L n,81) : JE Unit) with | .error e=>.error e | .ok _=>eachE (exprE G.L E C) (xks.map Int.toNat)) else .error (plN G.L n,80)):=by
   have h1:=HRR.out
   unfold selfE at h1
   rw[eK,if_neg (by omega),if_neg (by omega),if_neg (by omega),if_pos rfl] at h1
   cases hh:E.fn (txN G.L n) with
   | none =>
     rw[hh] at h1
     exact⟨n,false,hn,nofun,fun w' f=>(found_none (HJ1.out.fr f (by simp)) hn (hm.fr f (by simp)) hh).mono fun ex w'' h=>.inl ⟨rfl,h⟩,ERes.fr h1 F1⟩
   | some d =>
     rw[hh] at h1
     simp only[eN,List.length_map] at h1
     exact⟨d,true,(hF _ _ hh).1,fun _=>(hF _ _ hh).2,fun w' f=>(found_some (HJ1.out.fr f (by simp)) hn (hm.fr f (by simp)) hh).mono fun ex w'' h=>.inr ⟨rfl,h⟩,ERes.fr h1 F1⟩
  have HC220:=hidC hC
  have HTn:Hid (ev=false→∀ w',Fr [] W1 w'→R (thr (plN G.L n) 80) w'):=fun h w' f=>by
   rw[h] at hT
   exact hT w' f
  obtain⟨y,b2,o2,hy,ha2,hb2,hc2⟩:=HJ1.out.node hd
  rw[ha] at ha2
  obtain⟨rfl,rfl⟩ : b2=b∧o2=o:=by cases ha2;exact⟨rfl,rfl⟩
  have eY:kN G.L d=y.ks.map Int.toNat:=by unfold kN;rw[hy]
  rw[eY,List.length_map] at hdl hT
  have HT:Hid (ev=true→ERes W1 R (match (if xks.length=y.ks.length-1 then .ok () else .error (plN G.L n,81) : JE Unit) with | .error e=>.error e | .ok _=>eachE (exprE G.L E C) (xks.map Int.toNat))):=fun h=>by
   rw[h] at hT
   exact hT
  have HDL:=hidC hdl
  have hdI:(d:Int)<G.len:=by omega
  have nb1:b2≠W1.heap.size:=by have:=World.block_lt_of_cell? W1 _ hc2.c0;simp only at this;omega
  obtain⟨e0,e1,e2,e3,ek,et,ekl,ekc,ekn⟩:=hc2
  have HYK:=hidC (HJ1.out.kb d y hy)
  have HYC:=hidC ekc
  have HNN:Hid (0<y.ks.length→y.a≠none):=by
   intro h h0
   have:=ekn h0
   omega
  clear HRR F1 hm ek hy eY hdl hC hT ekc ekl ekn ha2 eN hx hb2
  obtain⟨yk,yt,ya,yc,yks,ypl⟩:=y
  simp only at *
  generalize plN G.L n=pl at *
  unfold thr at *
  go_upto_region 10 with fail
  go_cut [7] from 47 to 60 (fun s7 wc=>ev=true∧∃ kb:Nat,s7 = .pointer (some ⟨kb,0,none⟩)∧Fr [] W1 wc∧wc.heap[kb]? = some (.cells #[.int .i64 yk,.string yt,.slice ya yks.length yc,.int .i64 ypl] 55 (0,0)))
  case first =>
   have q0:∀ w',Fr [] W1 w'→w'.cell? ⟨G.jb,0,none⟩=some (.slice (some ⟨b2,o2,none⟩) G.len G.cap):=fun w' f=>f.cell1 j0 (by simp)
   have q3:∀ w',Fr [] W1 w'→w'.cell? ⟨G.jb,3,none⟩=some (.map (some G.mn)):=fun w' f=>f.cell1 j3 (by simp)
   have r0:∀ w',Fr [] W1 w'→w'.cell? ⟨b2,o2+d*4,none⟩=some (.int .i64 yk):=fun w' f=>f.cell1 e0 (by simp)
   have r1:∀ w',Fr [] W1 w'→w'.cell? ⟨b2,o2+d*4+1,none⟩=some (.string yt):=fun w' f=>f.cell1 e1 (by simp)
   have r2:∀ w',Fr [] W1 w'→w'.cell? ⟨b2,o2+d*4+2,none⟩=some (.slice ya yks.length yc):=fun w' f=>f.cell1 e2 (by simp)
   have r3:∀ w',Fr [] W1 w'→w'.cell? ⟨b2,o2+d*4+3,none⟩=some (.int .i64 ypl):=fun w' f=>f.cell1 e3 (by simp)
   have HD:∀ w' : World,Fr [] W1 w'→Fr [] W1 w'.drew:=fun w' h=>h.drew
   have HAl:∀ (w' : World) (o:Obj),Fr [] W1 w'→Fr [] W1 (w'.alloc o):=fun w' o h=>h.alloc o
   have HDA:∀ o:Obj,Fr [] W1 (W1.alloc o).drew:=fun o=>((Fr.refl _ _).alloc o).drew
   have HD0:Fr [] W1 W1.drew:=(Fr.refl _ _).drew
   clear j0 j3 e0 e1 e2 e3
   go_region_held_law (fun w' : World=>Fr [] W1 w')
    (with_reducible (first | assumption | exact HDA _ | exact HD _ (by assumption) | exact HAl _ _ (by assumption)))
    (first | (go_at_call 220;with_reducible (refine (HC220.out _ ?_).mono ?_);(with_reducible (first | assumption | exact HDA _));rintro ex wq (⟨he,rfl,rfl⟩ | ⟨he,rfl,rfl⟩);(· show bodyPost Tryz.prog Tryz.f200 R (.panic _) _ _;refine bodyPost_panic rfl (HTn.out he _ ?_);first | assumption | exact HDA _)))
   all_goals
    go_wp2_with fail
    go_meet
    case rel=>exact⟨he,W1.heap.size,rfl,HDA _,heap_alloc_new W1 _⟩
  case rest =>
   obtain⟨rfl,kb,rfl,fc,bK⟩:=hcut
   obtain⟨wA,hwA⟩ : ∃ x:World,x=wc:=⟨_,rfl⟩
   subst hwA
   have hyl:=HDL.out rfl
   have z2:∀ w',Fr [] wA w'→w'.cell? ⟨w.heap.size,2,none⟩=some (.slice xa xks.length xc):=fun w' f=>d2 w' (fc.trans f)
   have r0:∀ w',Fr [] wA w'→w'.cell? ⟨kb,0,none⟩=some (.int .i64 yk):=fun w' f=>f.cell1 (at_cells bK 0 rfl) (by simp)
   have r1:∀ w',Fr [] wA w'→w'.cell? ⟨kb,1,none⟩=some (.string yt):=fun w' f=>f.cell1 (at_cells bK 1 rfl) (by simp)
   have r2:∀ w',Fr [] wA w'→w'.cell? ⟨kb,2,none⟩=some (.slice ya yks.length yc):=fun w' f=>f.cell1 (at_cells bK 2 rfl) (by simp)
   have r3:∀ w',Fr [] wA w'→w'.cell? ⟨kb,3,none⟩=some (.int .i64 ypl):=fun w' f=>f.cell1 (at_cells bK 3 rfl) (by simp)
   have HP:Hid (∀ w',Calls Tryz.prog 69 #[.agg #[.int .i64 yk,.string yt,.slice ya yks.length yc,.int .i64 ypl]] w' fun e w''=>(∃ a' c',e = .returned (.slice a' (yks.length-1) c'))∧Fr [] w' w''):=fun w'=>params_any w' yk yt ya yks.length yc ypl hyl HYC.out HYK.out (HNN.out hyl)
   have HT1:=hidC (ERes.fr (HT.out rfl) fc)
   have HW1:=hidC (HF1.out.trans fc)
   have C146:∀ w',Fr [] wA w'→_:=fun w' f=>HRF81.out w' (HW1.out.trans f)
   clear HT HRF81 HTn HC220 j0 j3 e0 e1 e2 e3 d0 d1 d2 fc bK RF njb nb1
   go_upto_region 11 with fail
   go_cut [66] from 60 to 67 (fun s66 wd=>s66 = .bool (!decide (xks.length=yks.length-1))∧Fr [] wA wd)
   case first =>
    have HD:∀ w' : World,Fr [] wA w'→Fr [] wA w'.drew:=fun w' h=>h.drew
    have HD0:Fr [] wA wA.drew:=(Fr.refl _ _).drew
    have hkey:Hid ((!decide (xks.length=yks.length-1))=(!decide ((xks.length:Int)=((yks.length-1:Nat) : Int)))):=by
     unfold Hid
     congr 1
     exact decide_eq_decide.2 (by omega)
    go_region_held_law (fun w' : World=>Fr [] wA w')
     (with_reducible (first | assumption | exact HD _ (by assumption)))
     (first | (go_at_call 69;with_reducible (refine (HP.out _).mono ?_);rintro ex wq ⟨⟨a',c',rfl⟩,fq⟩;have FQ:Fr [] wA wq:=Fr.trans (by assumption) fq))
    all_goals
     clear C146 HT1 z2 r0 r1 r2 r3 HP
     go_wp2_with fail
     go_meet
     case rel =>
      refine⟨?_,by assumption⟩
      rw[hkey.out]
      first
       | rfl
       | (congr 1;done)
   case rest =>
    obtain⟨rfl,fd⟩:=hcut
    obtain⟨wB,hwB⟩ : ∃ x:World,x=wc:=⟨_,rfl⟩
    subst hwB
    have C1:=C146 wB fd
    have HFB:=hidC (HW1.out.trans fd)
    have HT2:=hidC (HT1.out.fr fd)
    have y2:=z2 _ fd
    clear C146 HT1 z2 r0 r1 r2 r3 HP
    by_cases hl:xks.length=yks.length-1
    ·rw[if_pos hl] at HT2
     rw[decide_eq_true hl]
     clear hl C1 HDL hyl HYK HYC HNN
     go_wp2_with fail
     refine HS.out _ _ HFB.out ?_
     revert HT2
     cases hq:eachE (exprE G.L E C) (xks.map Int.toNat) with
     | error pe =>
       obtain⟨pp,ee⟩:=pe
       intro HT w' f'
       exact⟨rfl,HT.out w' f'⟩
     | ok u =>
       intro HT w' f'
       have HX:=hidC (HT.out w' f')
       clear HT hq
       go_wp2
       go_end0
       exact HX.out
    ·rw[if_neg hl] at HT2
     rw[decide_eq_false hl]
     clear hl HDL hyl HYK HYC HNN HS
     go_wp2_with (go_at_call 146;with_reducible (refine C1.mono ?_);rintro ex wq ⟨rfl,rfl⟩)
     exact⟨rfl,HT2.out _ (Fr.refl _ _)⟩
 ·have HT:Hid (ERes W1 R (eachE (exprE G.L E C) (xks.map Int.toNat))):=by
   have h1:=HRR.out
   unfold selfE at h1
   rw[eK,if_neg k17,if_neg k20,if_neg k23,if_neg k22] at h1
   exact ERes.fr h1 F1
  clear HRR F1 HRF80 HRF81 j1 j2 j3 eK
  go_wp2_with fail
  refine HS.out _ _ HF1.out ?_
  revert HT
  cases hq:eachE (exprE G.L E C) (xks.map Int.toNat) with
  | error pe =>
    obtain⟨pp,ee⟩:=pe
    intro HT w' f'
    exact⟨rfl,HT.out w' f'⟩
  | ok u =>
    intro HT w' f'
    have HX:=hidC (HT.out w' f')
    clear HT hq
    go_wp2
    go_end0
    exact HX.out
set_option maxHeartbeats 8000000 in
theorem merge_cps {G:JG} {E:Env} (hA:Ahead G.L) (hXs:∀ n,n<G.len→ExprC G E n) {w:World} {hi:Nat} {v:Value} {C:List NM} {R:Ending→World→Prop} (hJ:JI G w) (hE:EM G E w) (hC:Chain w hi v C) {n:Nat} (hn:n<G.len)
 (hR:ERes w R (mergeE G.L E C n)) : Calls Tryz.prog 221 #[.pointer (some ⟨G.jb,0,none⟩),.int .i64 n,v] w R:=by
 obtain⟨x,b,o,hx,ha,hb,hc⟩:=hJ.node hn
 have hlm:=hJ.lm
 have hlI:(G.len:Int)≤50000:=by omega
 have hnI:(n:Int)<G.len:=by omega
 have eN:kN G.L n=x.ks.map Int.toNat:=by unfold kN;rw[hx]
 have hkm:x.ks.length≤50000:=hJ.kb n x hx
 have HKS:Hid (∀ k∈x.ks,0≤k∧k.toNat<G.len):=fun k hk=>by
  obtain⟨h0,h1⟩:=hA n x hx k hk
  exact⟨h0,by omega⟩
 unfold mergeE at hR
 rw[eN,List.length_map] at hR
 have k0:w.cell? ⟨G.jb,0,none⟩=some (.slice G.a G.len G.cap):=at_cells hJ.blk 0 rfl
 rw[ha] at k0
 obtain⟨c0,c1,c2,c3,ck,ct,ckl,ckc,ckn⟩:=hc
 by_cases h4:4<x.ks.length
 ·rw[if_pos h4] at hR
  have C146:Calls Tryz.prog 146 #[.pointer (some ⟨G.jb,0,none⟩),.int .i64 n,.int .i64 82] w (fun ex w''=>ex=thr (plN G.L n) 82∧w'' = w):=refuse_any hJ hn 82
  have HT:=hidC (ERes.err hR w (Fr.refl _ _))
  have h4I:(4:Int)<x.ks.length:=by omega
  clear hJ hE hC hR hx ha eN HKS c0 c1 c3 ck ct ckl ckc ckn
  generalize plN G.L n=pl at *
  unfold thr at *
  go_enter Tryz.func221,Tryz.ntmps221
  go_wp2_with (go_at_call 146;with_reducible (refine C146.mono ?_);rintro ex wq ⟨rfl,rfl⟩)
  exact⟨rfl,HT.out⟩
 ·rw[if_neg h4] at hR
  have h4I:¬ (4:Int)<x.ks.length:=by omega
  have HJ:=hidC hJ
  have HE:=hidC hE
  have HC:=hidC hC
  have HCK:=hidC ck
  have HXS:=hidC hXs
  have F0:Fr [] w (w.alloc (.map #[] 0)):=(Fr.refl _ _).alloc _
  have HM0:=hidC (MA.made w)
  have HR0:Hid (ERes w R (greensE G.L E C (x.ks.map Int.toNat) NM.nil)):=hR
  have HF0:=hidC F0
  clear hJ hE hC hR hx ha eN c0 c1 c3 ck ct ckl ckc ckn hXs F0 hA
  obtain⟨xk,xt,xa,xc,xks,xpl⟩:=x
  simp only at *
  have hmk:∀ w,(Instr.makeMap 123 none).run Tryz.prog w = .ok (.map (some w.heap.size)) (w.alloc (.map #[] 0)):=fun w=>rfl
  go_enter Tryz.func221,Tryz.ntmps221
  go_wp2
  clear k0 c2 hmk
  go_loopw [9,27] (fun _ ix wr=>∃ p:Nat,p≤xks.length∧ix = .int .i64 p∧Fr [] w wr∧∃ cnt m,cnt≤p∧MA wr w.heap.size cnt m∧Hid (ERes w R (greensE G.L E C ((xks.drop p).map Int.toNat) m))) (fun _ ix _=>xks.length-(intOf ix).toNat)
  case atStart=>exact⟨0,Nat.zero_le _,rfl,HF0.out,0,_,Nat.le_refl _,HM0.out,HR0.out⟩
  case round =>
   clear HM0 HR0 HF0
   obtain⟨p,hp,rfl,fw,cnt,m,hcnt,hm,hr⟩:=hrel
   by_cases hlt:p<xks.length
   ·have hpI:(p:Int)<xks.length:=by omega
    have hx:xks[p]? = some xks[p]:=List.getElem?_eq_getElem hlt
    obtain⟨h0,hxl⟩:=HKS.out xks[p] (List.getElem_mem _)
    have HRS:Hid (ERes w R (match exprE G.L E C (xks[p]).toNat with | .error e=>.error e | .ok _=>match decE G.L (xks[p]).toNat m with | .error e=>.error e | .ok m'=>greensE G.L E C ((xks.drop (p+1)).map Int.toNat) m')):=by
     have:=hr.out
     rw[List.drop_eq_getElem_cons hlt,List.map_cons] at this
     exact this
    obtain⟨b3,o3,e,hb3,hc3⟩:=(HCK.out.fr fw (by simp)) p _ hx
    subst e
    generalize xks[p]=z at *
    obtain⟨q,rfl⟩:=Int.eq_ofNat_of_zero_le h0
    rw[Int.toNat_natCast] at hxl HRS
    have HCX:=hidC (HXS.out q hxl wr hi v C)
    have HM:=hidC hm
    have hqI:(q:Int)<G.len:=by omega
    clear hx h0 hr hm
    go_wp2_with fail
    refine HCX.out _ (HJ.out.fr fw (by simp)) (HE.out.fr fw (by simp)) (HC.out.fr fw (by simp)) ?_
    cases hq:exprE G.L E C q with
    | error pe =>
      obtain⟨pp,ee⟩:=pe
      rw[hq] at HRS
      intro w' f'
      exact⟨rfl,HRS.out w' (fw.trans f')⟩
    | ok u =>
      rw[hq] at HRS
      intro w' f'
      have HR2:=hidC HRS.out
      have HF2:=hidC (fw.trans f')
      have HM2:=hidC (HM.out.fr f' (by simp))
      have HJ2:=hidC (HJ.out.fr HF2.out (by simp))
      clear HRS hq HCX HM
      unfold decE at HR2
      cases hd:m (txN G.L q) with
      | some d =>
        rw[hd] at HR2
        have C102:=declare_no HJ2.out hxl HM2.out hd
        have HT:=hidC (ERes.err HR2.out w' HF2.out)
        clear HR2 hd
        generalize plN G.L q=pl at *
        unfold thr at *
        go_wp2_with (go_at_call 102;with_reducible (refine C102.mono ?_);rintro ex wq ⟨rfl,rfl⟩)
        exact⟨rfl,HT.out⟩
      | none =>
        rw[hd] at HR2
        have C102:=declare_yes HJ2.out hxl HM2.out (by omega) hd
        have HLO:Hid (w.heap.size≤w.heap.size):=Nat.le_refl _
        clear hd
        go_wp2_with (go_at_call 102;with_reducible (refine C102.mono ?_);rintro ex wq ⟨rfl,hm3,hf3⟩;have HM3:=hidC hm3;have HF3:=hidC hf3;clear hm3 hf3)
        go_roundw
        case rel=>exact⟨p+1,hlt,by go_num,((HF2.out.sub (T:=[w.heap.size]) (by simp)).trans HF3.out).sub (fun k hk=>.inr (by simp at hk;omega)),cnt+1,_,by omega,HM3.out,HR2.out⟩
        case measure=>simp[intOf];omega
   ·have hpI:¬ (p:Int)<xks.length:=by omega
    have hr2:=hr.out
    rw[List.drop_of_length_le (by omega)] at hr2
    have HR2:=hidC (hr2 wr fw)
    clear hr hr2 hm
    go_wp2
    go_end0
    exact HR2.out
structure HdS (G:JG) (W:World) (sb mb cnt:Nat) (up:Value) (m:NM) (C:List NM) : Prop where
 blk:W.heap[sb]? = some (.cells #[up,.map (some mb)] 181 (0,0))
 ma:MA W mb cnt m
 ch:∃ lo,Chain W lo up C∧lo≤mb∧lo≤sb
 ob:G.B≤mb
 oj:mb≠G.jb
 om:G.mr≠mb∧G.mf≠mb∧G.mn≠mb
theorem HdS.ne {G:JG} {W:World} {sb mb cnt:Nat} {up:Value} {m:NM} {C:List NM} (h:HdS G W sb mb cnt up m C) : sb≠mb:=by
 rintro rfl
 obtain⟨es,c,hm⟩:=h.ma.map
 rw[h.blk] at hm
 cases hm
theorem HdS.chain {G:JG} {W:World} {sb mb cnt:Nat} {up:Value} {m:NM} {C:List NM} (h:HdS G W sb mb cnt up m C) (hc:cnt≤50000) : Chain W (sb+mb+1) (.pointer (some ⟨sb,0,none⟩)) (m::C):=by
 obtain⟨lo,hch,h1,h2⟩:=h.ch
 exact⟨sb,mb,cnt,lo,up,rfl,h.blk,h.ma,hc,hch,h1,by omega,by omega,h2⟩
theorem HdS.fr {G:JG} {W W' : World} {sb mb cnt cnt' : Nat} {up:Value} {m m' : NM} {C:List NM} (h:HdS G W sb mb cnt up m C) (f:Fr [mb] W W') (hm:MA W' mb cnt' m') : HdS G W' sb mb cnt' up m' C:=by
 obtain⟨lo,hch,h1,h2⟩:=h.ch
 exact⟨(f.block _ (Array.getElem?_eq_some_iff.1 h.blk).1 (by simpa using h.ne)).trans h.blk,hm,⟨lo,hch.fr f (fun k hk=>by simp at hk;omega),h1,h2⟩,h.ob,h.oj,h.om⟩
theorem HdS.fr0 {G:JG} {W W' : World} {sb mb cnt:Nat} {up:Value} {m:NM} {C:List NM} (h:HdS G W sb mb cnt up m C) (f:Fr [] W W') : HdS G W' sb mb cnt up m C :=
 h.fr (f.sub (by simp)) (h.ma.fr f (by simp))
def SRes (w:World) (mb cnt:Nat) (R:Ending→World→Prop) : JE NM→Prop
 | .ok m'=>∀ w' cnt',Fr [mb] w w'→cnt'≤cnt+1→MA w' mb cnt' m'→R (.returned (.tuple #[])) w'
 | .error (p,e)=>∀ w',Fr [mb] w w'→R (thr p e) w'
theorem SRes.ok {w:World} {mb cnt:Nat} {R:Ending→World→Prop} {m' : NM} (h:SRes w mb cnt R (.ok m')) : ∀ w' cnt',Fr [mb] w w'→cnt'≤cnt+1→MA w' mb cnt' m'→R (.returned (.tuple #[])) w' := h
theorem SRes.err {w:World} {mb cnt:Nat} {R:Ending→World→Prop} {p:Int} {e:Nat} (h:SRes w mb cnt R (.error (p,e))) : ∀ w',Fr [mb] w w'→R (thr p e) w' := h
theorem within_any (w:World) (up:Option Addr) : Calls Tryz.prog 147 #[.pointer up] w fun e w'=>e = .returned (.pointer (some ⟨w.heap.size+1,0,none⟩))∧Fr [] w w'∧w'.heap[w.heap.size+1]? = some (.cells #[.pointer up,.map (some w.heap.size)] 181 (0,0))∧MA w' w.heap.size 0 NM.nil:=by
 have hmk:∀ w,(Instr.makeMap 123 none).run Tryz.prog w = .ok (.map (some w.heap.size)) (w.alloc (.map #[] 0)):=fun w=>rfl
 have HM0:=hidC (MA.made w)
 go_enter Tryz.func147,Tryz.ntmps147
 go_wp2
 go_ret
 refine⟨rfl,((Fr.refl _ _).alloc _).alloc _,?_,HM0.out.fr ((Fr.refl [] _).alloc _) (by simp)⟩
 have:=heap_alloc_new (w.alloc (.map #[] 0)) (.cells #[.pointer up,.map (some w.heap.size)] 181)
 simpa using this
set_option maxHeartbeats 8000000 in
theorem let_cps {G:JG} {E:Env} (hA:Ahead G.L) (hXs:∀ n,n<G.len→ExprC G E n) {w:World} {sb mb cnt:Nat} {up:Value} {m:NM} {C:List NM} {R:Ending→World→Prop} (hJ:JI G w) (hE:EM G E w) (hH:HdS G w sb mb cnt up m C) (hcn:cnt≤50000) {n:Nat} (hn:n<G.len)
 (hR:SRes w mb cnt R (if hasE (m::C) (txN G.L n) then .error (plN G.L n,80) else match eachE (exprE G.L E (m::C)) (kN G.L n) with | .error e=>.error e | .ok _=>.ok (m.put (txN G.L n) n))) : Calls Tryz.prog 199 #[.pointer (some ⟨G.jb,0,none⟩),.int .i64 n,.pointer (some ⟨sb,0,none⟩)] w R:=by
 obtain⟨x,b,o,hx,ha,hb,hc⟩:=hJ.node hn
 have hlm:=hJ.lm
 have hlI:(G.len:Int)≤50000:=by omega
 have hnI:(n:Int)<G.len:=by omega
 have eT:txN G.L n=x.text.data.toList:=by unfold txN;rw[hx]
 have eN:kN G.L n=x.ks.map Int.toNat:=by unfold kN;rw[hx]
 have hkm:x.ks.length≤50000:=hJ.kb n x hx
 have hks:∀ k∈x.ks,0≤k∧ExprC G E k.toNat:=fun k hk=>by
  obtain⟨h0,h1⟩:=hA n x hx k hk
  exact⟨h0,hXs _ (by omega)⟩
 rw[eN] at hR
 have HS:Hid (∀ w' R',Fr [] w w'→ERes w' R' (eachE (exprE G.L E (m::C)) (x.ks.map Int.toNat))→Calls Tryz.prog 202 #[.pointer (some ⟨G.jb,0,none⟩),.slice x.a x.ks.length x.c,.pointer (some ⟨sb,0,none⟩)] w' R'):=fun w' R' f hr=>exprs_cps (hJ.fr f (by simp)) (hE.fr f (by simp)) ((hH.fr0 f).chain hcn) (hc.k.fr f (by simp)) rfl hkm hks hr
 have HRF80:Hid (∀ w',Fr [] w w'→Calls Tryz.prog 146 #[.pointer (some ⟨G.jb,0,none⟩),.int .i64 n,.int .i64 80] w' fun ex w''=>ex=thr (plN G.L n) 80∧w'' = w'):=fun w' f=>refuse_any (hJ.fr f (by simp)) hn 80
 have HHS:Hid (∀ w',Fr [] w w'→Calls Tryz.prog 219 #[.pointer (some ⟨sb,0,none⟩),.string x.text] w' fun ex w''=>ex = .returned (.bool (hasE (m::C) (txN G.L n)))∧w'' = w'):=fun w' f=>by rw[eT];exact has_any ((hH.fr0 f).chain hcn) x.text hc.t
 have F1:Fr [] w (w.alloc (.cells #[.int .i64 x.kind,.string x.text,.slice x.a x.ks.length x.c,.int .i64 x.pl] 55)):=(Fr.refl _ _).alloc _
 have bx:=heap_alloc_new w (.cells #[.int .i64 x.kind,.string x.text,.slice x.a x.ks.length x.c,.int .i64 x.pl] 55)
 have k0:w.cell? ⟨G.jb,0,none⟩=some (.slice G.a G.len G.cap):=at_cells hJ.blk 0 rfl
 rw[ha] at k0
 have nb:b≠w.heap.size:=by have:=World.block_lt_of_cell? w _ hc.c0;simp only at this;omega
 have hkI:(x.ks.length:Int)≤50000:=by omega
 obtain⟨c0,c1,c2,c3,ck,ct,ckl,ckc,ckn⟩:=hc
 have HRR:=hidC hR
 have HHD:=hidC hH
 have HCN:=hidC hcn
 have HCT:=hidC ct
 rw[eT] at HRR
 obtain⟨xk,xt,xa,xc,xks,xpl⟩:=x
 simp only at *
 clear hks hE hJ eN ck hR hH hXs hA ct ckl ckc ckn hcn
 go_enter Tryz.func199,Tryz.ntmps199
 go_upto_region 1 with fail
 clear c0 c1 c2 c3 k0 nb
 generalize w.alloc (.cells #[.int .i64 xk,.string xt,.slice xa xks.length xc,.int .i64 xpl] 55)=W1 at *
 have d1:∀ w',Fr [] W1 w'→w'.cell? ⟨w.heap.size,1,none⟩=some (.string xt):=fun w' f=>f.cell1 (at_cells bx 1 rfl) (by simp)
 have d2:∀ w',Fr [] W1 w'→w'.cell? ⟨w.heap.size,2,none⟩=some (.slice xa xks.length xc):=fun w' f=>f.cell1 (at_cells bx 2 rfl) (by simp)
 have RF:Fr [] W1 W1:=Fr.refl _ _
 have HF1:=hidC F1
 have C219:=HHS.out W1 F1
 rw[eT] at C219
 clear bx HHS
 cases hh:hasE (m::C) xt.data.toList with
 | true =>
   rw[hh] at HRR C219
   have C146:=HRF80.out W1 F1
   have HT:=hidC (SRes.err HRR.out _ (F1.sub (by simp)))
   clear HRR HS HRF80 d2 F1
   generalize plN G.L n=pl at *
   unfold thr at *
   go_wp2_with (first | (go_at_call 219;with_reducible (refine C219.mono ?_);rintro ex wq ⟨rfl,rfl⟩) | (go_at_call 146;with_reducible (refine C146.mono ?_);rintro ex wq ⟨rfl,rfl⟩))
   exact⟨rfl,HT.out⟩
 | false =>
   rw[hh] at HRR C219
   clear HRF80 F1
   go_wp2_with (go_at_call 219;with_reducible (refine C219.mono ?_);rintro ex wq ⟨rfl,rfl⟩)
   refine HS.out _ _ HF1.out ?_
   clear HS C219
   revert HRR
   cases hq:eachE (exprE G.L E (m::C)) (xks.map Int.toNat) with
   | error pe =>
     obtain⟨pp,ee⟩:=pe
     intro HRR w' f'
     exact⟨rfl,SRes.err HRR.out w' ((HF1.out.trans f').sub (by simp))⟩
   | ok u =>
     intro HRR w' f'
     have HH2:=HHD.out.fr0 (HF1.out.trans f')
     have s1:w'.cell? ⟨sb,1,none⟩=some (.map (some mb)):=at_cells HH2.blk 1 rfl
     obtain⟨w3,st,hm3,hf3⟩:=(HH2.ma.fr (S:=[]) (W' := w'.drew) (Fr.refl _ _).drew (by simp)).store (s:=xt) HCT.out (by have:=HCN.out;unfold maxLen;omega) n (by omega)
     have e1:=d1 _ f'
     have HX:Hid (R (.returned (.tuple #[])) w3):=SRes.ok HRR.out w3 (cnt+1) (((HF1.out.trans f').drew.sub (by simp)).trans hf3) (Nat.le_refl _) hm3
     clear HRR hq HH2 hm3 hf3 d1 d2 RF
     go_upto_region 4 with fail
     go_region
     all_goals
      go_wp2
      go_end0
      exact HX.out
theorem kid_lt {L:List Nd} (h:Ahead L) {n i k:Nat} (hk:k∈kN L (kid L n i)) : k<n:=by
 have h1:=h.kid hk
 unfold kid at h1
 rw[List.getD_eq_getElem?_getD] at h1
 cases hg:(kN L n)[i]? with
 | none=>rw[hg] at h1;simp at h1
 | some z =>
   rw[hg] at h1
   have:=h.kid (List.mem_of_getElem? hg)
   simp at h1
   omega
theorem stmtF_fuel {L:List Nd} (h:Ahead L) (E:Env) : ∀ (f f' : Nat) (C:List NM) (n:Nat) (m:NM),n<f→n<f'→stmtF L E f C n m=stmtF L E f' C n m:=by
 intro f
 induction f with
 | zero=>intro f' C n m h1;omega
 | succ f ih =>
   intro f' C n m h1 h2
   cases f' with
   | zero=>omega
   | succ f' =>
     have key:∀ (C:List NM) (l:List Nat),(∀ k∈l,k<n)→∀ m,seqE (stmtF L E f C) l m=seqE (stmtF L E f' C) l m:=fun C l hl m=>seqE_congr (fun k hk m=>ih f' C k m (by have:=hl k hk;omega) (by have:=hl k hk;omega)) m
     unfold stmtF
     rw[key (m::C) _ (fun k hk=>kid_lt h hk) NM.nil,key (m::C) _ (fun k hk=>kid_lt h hk) NM.nil]
     by_cases k8:kdN L n=8
     ·have k5:¬ kdN L n=5:=by omega
      have k7:¬ kdN L n=7:=by omega
      rw[if_neg k5,if_neg k7,if_pos k8,if_neg k5,if_neg k7,if_pos k8]
      cases exprE L E (m::C) (kid L n 0) with
      | error e=>rfl
      | ok u =>
        have hl:∀ k∈kN L (kid L n 1),k<n:=fun k hk=>kid_lt h hk
        generalize kN L (kid L n 1)=l at hl
        cases l with
        | nil=>rfl
        | cons k r =>
          simp only
          rw[key (m::C) r (fun j hj=>hl j (by simp[hj])),key (m::C) (k::r) hl]
     ·simp only[if_neg k8]
def loopE (L:List Nd) (E:Env) (C:List NM) : List Nat→JE Unit
 | []=>.ok ()
 | k::r=>if kdN L k=13 then match mergeE L E C k with
     | .error e=>.error e
     | .ok _=>blockE L E C r
  else blockE L E C (k::r)
theorem block_fuel {L:List Nd} (h:Ahead L) (E:Env) (C:List NM) (n:Nat) (l:List Nat) (hl:∀ k∈l,k<n) (m:NM) : seqE (stmtF L E n C) l m=seqE (stmtE L E C) l m :=
 seqE_congr (fun k hk m=>stmtF_fuel h E n (k+1) C k m (hl k hk) (by omega)) m
theorem stmtE_eq {L:List Nd} (h:Ahead L) (E:Env) (C:List NM) (n:Nat) (m:NM) : stmtE L E C n m =
 if kdN L n=5 then (if hasE (m::C) (txN L n) then .error (plN L n,80) else match eachE (exprE L E (m::C)) (kN L n) with | .error e=>.error e | .ok _=>.ok (m.put (txN L n) n))
 else if kdN L n=7 then match exprE L E (m::C) (kid L n 0) with
  | .error e=>.error e
  | .ok _=>match blockE L E (m::C) (kN L (kid L n 1)) with
    | .error e=>.error e
    | .ok _=>match blockE L E (m::C) (kN L (kid L n 2)) with | .error e=>.error e | .ok _=>.ok m
 else if kdN L n=8 then match exprE L E (m::C) (kid L n 0) with
  | .error e=>.error e
  | .ok _=>match loopE L E (m::C) (kN L (kid L n 1)) with | .error e=>.error e | .ok _=>.ok m
 else if kdN L n=13 then .error (plN L n,82)
 else match eachE (exprE L E (m::C)) (kN L n) with | .error e=>.error e | .ok _=>.ok m:=by
 unfold stmtE stmtF blockE
 rw[block_fuel h E (m::C) n _ (fun k hk=>kid_lt h hk) NM.nil,block_fuel h E (m::C) n _ (fun k hk=>kid_lt h hk) NM.nil]
 by_cases k8:kdN L n=8
 ·have k5:¬ kdN L n=5:=by omega
  have k7:¬ kdN L n=7:=by omega
  rw[if_neg k5,if_neg k7,if_pos k8,if_neg k5,if_neg k7,if_pos k8]
  cases exprE L E (m::C) (kid L n 0) with
  | error e=>rfl
  | ok u =>
    have hl:∀ k∈kN L (kid L n 1),k<n:=fun k hk=>kid_lt h hk
    generalize kN L (kid L n 1)=l at hl
    cases l with
    | nil=>rfl
    | cons k r =>
      unfold loopE blockE
      simp only
      rw[block_fuel h E (m::C) n r (fun j hj=>hl j (by simp[hj])),block_fuel h E (m::C) n (k::r) hl]
      by_cases hk:kdN L k=13
      ·rw[if_pos hk,if_pos hk]
       cases mergeE L E (m::C) k <;> rfl
      ·rw[if_neg hk,if_neg hk]
       cases seqE (stmtE L E (m::C)) (k::r) NM.nil <;> rfl
 ·simp only[if_neg k8]
  rfl
theorem Chain.low {W:World} : ∀ {C:List NM} {hi:Nat} {v:Value},Chain W hi v C→Chain W W.heap.size v C
 | [],_,_,h=>h
 | m::C,hi,v,⟨sb,mb,n,hi',up,h1,h2,h3,h4,h5,h6,h7,h8,h9⟩=>⟨sb,mb,n,hi',up,h1,h2,h3,h4,h5,h6,h3.lt,(Array.getElem?_eq_some_iff.1 h2).1,h9⟩
theorem Chain.ptr {W:World} : ∀ {C:List NM} {hi:Nat} {v:Value},Chain W hi v C→∃ q,v = .pointer q
 | [],_,_,h=>⟨none,h⟩
 | m::C,hi,v,⟨sb,mb,n,hi',up,h1,_⟩=>⟨_,h1⟩
def StmtC (G:JG) (E:Env) (n:Nat) : Prop:=∀ (w:World) (sb mb cnt:Nat) (up:Value) (m:NM) (C:List NM) (R:Ending→World→Prop),JI G w→EM G E w→HdS G w sb mb cnt up m C→cnt≤50000→SRes w mb cnt R (stmtE G.L E C n m)→Calls Tryz.prog 180 #[.pointer (some ⟨G.jb,0,none⟩),.int .i64 n,.pointer (some ⟨sb,0,none⟩)] w R
set_option maxHeartbeats 8000000 in
theorem block_cps {G:JG} {E:Env} {w:World} {hi:Nat} {v:Value} {C:List NM} {R:Ending→World→Prop} (hJ:JI G w) (hE:EM G E w) (hC:Chain w hi v C) {a:Option Addr} {n c:Nat} {ks:List Int} (hk:KAt G.B w a ks) (hn:ks.length=n) (hnm:n≤50000) (hX:∀ k∈ks,0≤k∧StmtC G E k.toNat)
 (hR:ERes w R (blockE G.L E C (ks.map Int.toNat))) : Calls Tryz.prog 148 #[.pointer (some ⟨G.jb,0,none⟩),.slice a n c,v] w R:=by
 obtain⟨q,rfl⟩:=hC.ptr
 have HN:Hid (ks.length=n):=hn
 have hnI:(n:Int)≤50000:=by omega
 have C147:=within_any w q
 have HW:Hid (∀ w',Fr [] w w'→w'.heap[w.heap.size+1]? = some (.cells #[.pointer q,.map (some w.heap.size)] 181 (0,0))→MA w' w.heap.size 0 NM.nil→HdS G w' (w.heap.size+1) w.heap.size 0 (.pointer q) NM.nil C):=fun w' f h1 h2=>by
  have hj:=(Array.getElem?_eq_some_iff.1 hJ.blk).1
  obtain⟨_,hr⟩:=hE.r
  obtain⟨_,hf⟩:=hE.f
  obtain⟨_,hfn⟩:=hE.n
  have r1:=hr.lt
  have r2:=hf.lt
  have r3:=hfn.lt
  have:=hJ.lj
  exact⟨h1,h2,⟨_,(hC.low).fr f (by simp),Nat.le_refl _,by omega⟩,by omega,by omega,by omega,by omega,by omega⟩
 have HJ:=hidC hJ
 have HE:=hidC hE
 have HX:=hidC hX
 have HR:=hidC hR
 unfold blockE at HR
 clear hn hJ hE hC hX hR
 go_enter Tryz.func148,Tryz.ntmps148
 go_wp2_with (go_at_call 147;with_reducible (refine C147.mono ?_);rintro ex w1 ⟨rfl,f1,b1,m1⟩;have HH:=hidC (HW.out w1 f1 b1 m1);have HF1:=hidC f1;clear f1 b1 m1 HW C147)
 go_loopw [8,13] (fun _ ix wr=>∃ p:Nat,p≤n∧ix = .int .i64 p∧Fr [] w wr∧∃ cnt m,cnt≤p∧HdS G wr (w.heap.size+1) w.heap.size cnt (.pointer q) m C∧Hid (ERes w R (seqE (stmtE G.L E C) ((ks.drop p).map Int.toNat) m))) (fun _ ix _=>n-(intOf ix).toNat)
 case atStart=>exact⟨0,Nat.zero_le _,rfl,HF1.out,0,_,Nat.le_refl _,HH.out,HR.out⟩
 case round =>
  clear HR HH HF1
  obtain⟨p,hp,rfl,fw,cnt,m,hcnt,hh,hr⟩:=hrel
  by_cases hlt:p<n
  ·have hpI:(p:Int)<n:=by omega
   have hpk:p<ks.length:=by rw[HN.out];exact hlt
   have hx:ks[p]? = some ks[p]:=List.getElem?_eq_getElem hpk
   obtain⟨h0,hx'⟩:=HX.out ks[p] (List.getElem_mem _)
   have HRS:Hid (ERes w R (match stmtE G.L E C (ks[p]).toNat m with | .error e=>.error e | .ok m'=>seqE (stmtE G.L E C) ((ks.drop (p+1)).map Int.toNat) m')):=by
    have:=hr.out
    rw[List.drop_eq_getElem_cons hpk,List.map_cons] at this
    exact this
   obtain⟨b,o,e,hb,hc⟩:=(hk.fr fw (by simp)) p _ hx
   subst e
   generalize ks[p]=z at *
   obtain⟨y,rfl⟩:=Int.eq_ofNat_of_zero_le h0
   rw[Int.toNat_natCast] at hx' HRS
   have HCX:=hidC (hx' wr (w.heap.size+1) w.heap.size cnt (.pointer q) m C)
   have HH:=hidC hh
   have hc5:cnt≤50000:=by omega
   have LF:Hid (∀ w',Fr [w.heap.size] wr w'→Fr [] w w'):=fun w' f=>((fw.sub (T:=[w.heap.size]) (by simp)).trans f).sub (fun k hk=>.inr (by simp at hk;omega))
   clear hx h0 hx' hr hh
   go_wp2_with fail
   refine HCX.out _ (HJ.out.fr fw (by simp)) (HE.out.fr fw (by simp)) HH.out hc5 ?_
   cases hq:stmtE G.L E C y m with
   | error pe =>
     obtain⟨pp,ee⟩:=pe
     rw[hq] at HRS
     intro w' f'
     exact⟨rfl,HRS.out w' (LF.out w' f')⟩
   | ok m' =>
     rw[hq] at HRS
     intro w' cnt' f' hc' hm'
     have HH2:=hidC (HH.out.fr f' hm')
     have HF2:=hidC (LF.out w' f')
     have HC2:=hidC hc'
     clear hq HCX HH LF f' hm' hc'
     go_wp2
     go_roundw
     case rel=>exact⟨p+1,hlt,by go_num,HF2.out,cnt',m',by have:=HC2.out;omega,HH2.out,HRS.out⟩
     case measure=>simp[intOf];omega
  ·have hpI:¬ (p:Int)<n:=by omega
   have hr2:=hr.out
   rw[List.drop_of_length_le (by rw[HN.out];omega)] at hr2
   have HR2:=hidC (hr2 wr fw)
   clear hr hr2 hh
   go_wp2
   go_end0
   exact HR2.out
theorem KAt.tail {B:Nat} {w:World} {b o:Nat} {z:Int} {ks:List Int} (h:KAt B w (some ⟨b,o,none⟩) (z::ks)) : KAt B w (some ⟨b,o+1,none⟩) ks:=by
 intro p x hx
 obtain⟨b',o',e,hb,hc⟩:=h (p+1) x (by simpa using hx)
 cases e
 exact⟨_,_,rfl,hb,by have e1:o+1+p=o+(p+1):=by omega
                     rw[e1];exact hc⟩
theorem kat_nil {B:Nat} {w:World} {a:Option Addr} {r:List Int} (h:r.length=0) : KAt B w a r:=by
 intro p x hx
 rw[List.length_eq_zero_iff.1 h] at hx
 simp at hx
set_option maxHeartbeats 8000000 in
theorem loop_cps {G:JG} {E:Env} (hA:Ahead G.L) (hXs:∀ n,n<G.len→ExprC G E n) {w:World} {hi:Nat} {v:Value} {C:List NM} {R:Ending→World→Prop} (hJ:JI G w) (hE:EM G E w) (hC:Chain w hi v C) {a:Option Addr} {n c:Nat} {ks:List Int} (hk:KAt G.B w a ks) (hn:ks.length=n) (hnm:n≤50000) (hnc:n≤c) (hX:∀ k∈ks,0≤k∧k.toNat<G.len∧StmtC G E k.toNat)
 (hR:ERes w R (loopE G.L E C (ks.map Int.toNat))) : Calls Tryz.prog 201 #[.pointer (some ⟨G.jb,0,none⟩),.slice a n c,v] w R:=by
 have HJ:=hidC hJ
 have HE:=hidC hE
 have HC:=hidC hC
 have HX:=hidC hX
 have HK:=hidC hk
 have HA:=hidC hA
 have HXS:=hidC hXs
 clear hA hXs
 cases ks with
 | nil =>
   have e0:n=0:=hn.symm
   subst e0
   have HB:Hid (∀ w' R',Fr [] w w'→ERes w' R' (.ok ())→Calls Tryz.prog 148 #[.pointer (some ⟨G.jb,0,none⟩),.slice a 0 c,v] w' R'):=fun w' R' f h=>block_cps (hJ.fr f (by simp)) (hE.fr f (by simp)) (hC.fr f (by simp)) (hk.fr f (by simp)) rfl (by omega) (fun k hk=>(by cases hk)) h
   have HR:=hidC hR.ok
   have j0:w.cell? ⟨G.jb,0,none⟩=some (.slice G.a G.len G.cap):=at_cells hJ.blk 0 rfl
   clear hJ hE hC hk hX hR hn HJ HE HC HX HK
   go_enter Tryz.func201,Tryz.ntmps201
   go_upto_region 0 with fail
   go_region
   all_goals
    go_wp2_with fail
    refine HB.out _ _ (Fr.refl _ _).drew ?_
    intro w' f'
    have HX:=hidC (HR.out w' ((Fr.refl _ _).drew.trans f'))
    clear HR HB
    go_wp2
    go_end0
    exact HX.out
 | cons z r =>
   obtain⟨h0,hz,_⟩:=hX z (by simp)
   obtain⟨y,rfl⟩:=Int.eq_ofNat_of_zero_le h0
   rw[Int.toNat_natCast] at hz
   obtain⟨x,b,o,hx,ha,hb,hc⟩:=hJ.node hz
   have hlm:=hJ.lm
   have hlI:(G.len:Int)≤50000:=by omega
   have hyI:(y:Int)<G.len:=by omega
   have eK:kdN G.L y=x.kind:=by unfold kdN;rw[hx]
   obtain⟨b3,o3,rfl,hb3,hc3⟩:=hk 0 y rfl
   have hn1:r.length+1=n:=hn
   have hn0:(0:Int)<n:=by omega
   have hn0N:0<n:=by omega
   rw[Nat.add_zero] at hc3
   have hnI:(n:Int)≤50000:=by omega
   have hcI:(n:Int)≤c:=by omega
   have j0:w.cell? ⟨G.jb,0,none⟩=some (.slice G.a G.len G.cap):=at_cells hJ.blk 0 rfl
   rw[ha] at j0
   have c0:=hc.c0
   have HHN:=hidC hn1
   have HL:Hid (ERes w R (if x.kind=13 then match mergeE G.L E C y with
    | .error e=>.error e
    | .ok _=>blockE G.L E C (r.map Int.toNat)
   else blockE G.L E C (y::r.map Int.toNat))):=by
    have:=hR
    rw[List.map_cons,Int.toNat_natCast,loopE,eK] at this
    exact this
   obtain⟨xk,xt,xa,xc,xks,xpl⟩:=x
   simp only at *
   clear hJ hE hC hX hR hn eK hc ha hx h0 hn1 hb hb3 hk
   by_cases k13:xk=13
   ·subst k13
    rw[if_pos rfl] at HL
    go_enter Tryz.func201,Tryz.ntmps201
    go_upto_region 0 with fail
    go_region
    all_goals
     go_wp2_with fail
     have D0:Fr [] w w.drew:=(Fr.refl _ _).drew
     refine merge_cps HA.out HXS.out (HJ.out.fr D0 (by simp)) (HE.out.fr D0 (by simp)) (HC.out.fr D0 (by simp)) hz ?_
     revert HL
     cases hq:mergeE G.L E C y with
     | error pe =>
       obtain⟨pp,ee⟩:=pe
       intro HL w' f'
       exact⟨rfl,HL.out w' (D0.trans f')⟩
     | ok u =>
       intro HL w' f'
       have HF:=hidC (D0.trans f')
       have HKT:=hidC ((HK.out.tail).fr HF.out (by simp))
       have HB:Hid (∀ R' a' cc,KAt G.B w' a' r→ERes w' R' (blockE G.L E C (r.map Int.toNat))→Calls Tryz.prog 148 #[.pointer (some ⟨G.jb,0,none⟩),.slice a' (n-1) cc,v] w' R'):=fun R' a' cc hk' h=>block_cps (HJ.out.fr HF.out (by simp)) (HE.out.fr HF.out (by simp)) (HC.out.fr HF.out (by simp)) hk' (by have:=HHN.out;omega) (by omega) (fun k hk=>⟨(HX.out k (by simp[hk])).1,(HX.out k (by simp[hk])).2.2⟩) h
       clear hq f' D0 HX HK HJ HE HC j0 c0 hc3
       go_wp2_with fail
       all_goals
        with_reducible (refine HB.out _ _ _ ?_ ?_)
        ·first
          | exact HKT.out
          | exact kat_nil (by have:=HHN.out;omega)
        revert HL
        cases hq:blockE G.L E C (r.map Int.toNat) with
        | error pe =>
          obtain⟨pp,ee⟩:=pe
          intro HL w'' f''
          exact⟨rfl,HL.out w'' (HF.out.trans f'')⟩
        | ok u =>
          intro HL w'' f''
          have HX:=hidC (HL.out w'' (HF.out.trans f''))
          clear HL hq HB HKT
          go_wp2
          go_end0
          exact HX.out
   ·rw[if_neg k13] at HL
    go_enter Tryz.func201,Tryz.ntmps201
    go_upto_region 0 with fail
    go_region
    all_goals
     go_wp2_with fail
     have D0:Fr [] w w.drew:=(Fr.refl _ _).drew
     have HH1:((y:Int)::r).length=n:=HHN.out
     with_reducible refine block_cps (HJ.out.fr D0 (by simp)) (HE.out.fr D0 (by simp)) (HC.out.fr D0 (by simp)) (HK.out.fr D0 (by simp)) HH1 (by omega) (fun k hk=>⟨(HX.out k hk).1,(HX.out k hk).2.2⟩) ?_
     rw[List.map_cons,Int.toNat_natCast]
     revert HL
     cases hq:blockE G.L E C (y::r.map Int.toNat) with
     | error pe =>
       obtain⟨pp,ee⟩:=pe
       intro HL w' f'
       exact⟨rfl,HL.out w' (D0.trans f')⟩
     | ok u =>
       intro HL w' f'
       have HX:=hidC (HL.out w' (D0.trans f'))
       clear HL hq HJ HE HC HK HH1
       go_wp2
       go_end0
       exact HX.out
theorem SRes.fr {w w1:World} {mb cnt:Nat} {R:Ending→World→Prop} {r:JE NM} (h:SRes w mb cnt R r) (f:Fr [] w w1) : SRes w1 mb cnt R r:=by
 rcases r with ⟨p,e⟩ | u
 ·exact fun w' g=>h w' ((f.sub (by simp)).trans g)
 ·exact fun w' c' g=>h w' c' ((f.sub (by simp)).trans g)
def Looks (w:World) (r:JE Unit) (ex:Ending) (w' : World) : Prop:=Fr [] w w'∧((∃ p e,r = .error (p,e)∧ex=thr p e)∨(r = .ok ()∧ex = .returned (.tuple #[])))
theorem Looks.out {w w' : World} {r:JE Unit} {ex:Ending} (h:Looks w r ex w') : Fr [] w w'∧((∃ p e,r = .error (p,e)∧ex=thr p e)∨(r = .ok ()∧ex = .returned (.tuple #[]))):=h
theorem Looks.res (w:World) (r:JE Unit) : ERes w (Looks w r) r:=by
 rcases r with ⟨p,e⟩ | u
 ·exact fun w' f=>⟨f,.inl ⟨p,e,rfl,rfl⟩⟩
 ·exact fun w' f=>⟨f,.inr ⟨rfl,rfl⟩⟩
def ShOk (L:List Nd) : Prop:=∀ n,(kdN L n=7→3≤(kN L n).length)∧(kdN L n=8→2≤(kN L n).length)
set_option maxHeartbeats 8000000 in
theorem stmt_all {G:JG} {E:Env} (hA:Ahead G.L) (hF:FnOk G E) (hSh:ShOk G.L) : ∀ n,n<G.len→StmtC G E n:=by
 have hXs:∀ n,n<G.len→ExprC G E n:=expr_all hA hF
 intro n
 induction n using Nat.strongRecOn with
 | ind n ih =>
 intro hn w sb mb cnt up m C R hJ hE hH hcn hR
 obtain⟨x,b,o,hx,ha,hb,hc⟩:=hJ.node hn
 have hlm:=hJ.lm
 have hlI:(G.len:Int)≤50000:=by omega
 have hnI:(n:Int)<G.len:=by omega
 have eK:kdN G.L n=x.kind:=by unfold kdN;rw[hx]
 have eN:kN G.L n=x.ks.map Int.toNat:=by unfold kN;rw[hx]
 have hkm:x.ks.length≤50000:=hJ.kb n x hx
 have hks:∀ k∈x.ks,0≤k∧k.toNat<n:=fun k hk=>by
  obtain⟨h0,h1⟩:=hA n x hx k hk
  exact⟨h0,by omega⟩
 rw[stmtE_eq hA,eK] at hR
 have HS:Hid (∀ w',Fr [] w w'→Calls Tryz.prog 202 #[.pointer (some ⟨G.jb,0,none⟩),.slice x.a x.ks.length x.c,.pointer (some ⟨sb,0,none⟩)] w' (Looks w' (eachE (exprE G.L E (m::C)) (kN G.L n)))):=fun w' f=>exprs_cps (hJ.fr f (by simp)) (hE.fr f (by simp)) ((hH.fr0 f).chain hcn) (hc.k.fr f (by simp)) rfl hkm (fun k hk=>⟨(hks k hk).1,hXs _ (by have:=(hks k hk).2;omega)⟩) (by rw[eN];exact Looks.res _ _)
 have HLT:Hid (∀ w' R',Fr [] w w'→SRes w' mb cnt R' (if hasE (m::C) (txN G.L n) then .error (plN G.L n,80) else match eachE (exprE G.L E (m::C)) (kN G.L n) with | .error e=>.error e | .ok _=>.ok (m.put (txN G.L n) n))→Calls Tryz.prog 199 #[.pointer (some ⟨G.jb,0,none⟩),.int .i64 n,.pointer (some ⟨sb,0,none⟩)] w' R'):=fun w' R' f h=>let_cps hA hXs (hJ.fr f (by simp)) (hE.fr f (by simp)) (hH.fr0 f) hcn hn h
 have HRF82:Hid (∀ w',Fr [] w w'→Calls Tryz.prog 146 #[.pointer (some ⟨G.jb,0,none⟩),.int .i64 n,.int .i64 82] w' fun ex w''=>ex=thr (plN G.L n) 82∧w'' = w'):=fun w' f=>refuse_any (hJ.fr f (by simp)) hn 82
 have F1:Fr [] w (w.alloc (.cells #[.int .i64 x.kind,.string x.text,.slice x.a x.ks.length x.c,.int .i64 x.pl] 55)):=(Fr.refl _ _).alloc _
 have bx:=heap_alloc_new w (.cells #[.int .i64 x.kind,.string x.text,.slice x.a x.ks.length x.c,.int .i64 x.pl] 55)
 have k0:w.cell? ⟨G.jb,0,none⟩=some (.slice G.a G.len G.cap):=at_cells hJ.blk 0 rfl
 rw[ha] at k0
 have nb:b≠w.heap.size:=by have:=World.block_lt_of_cell? w _ hc.c0;simp only at this;omega
 have hkI:(x.ks.length:Int)≤50000:=by omega
 have hsh:=hSh n
 rw[eK,eN,List.length_map] at hsh
 have eKid:∀ (i:Nat) (z:Int),x.ks[i]? = some z→kid G.L n i=z.toNat:=fun i z hz=>by unfold kid;rw[eN];simp[hz]
 obtain⟨c0,c1,c2,c3,ck,ct,ckl,ckc,ckn⟩:=hc
 have HRR:=hidC hR
 have HHD:=hidC hH
 have HCN:=hidC hcn
 have HJ:=hidC hJ
 have HE:=hidC hE
 have HKS:=hidC hks
 have HCK:=hidC ck
 have HIH:=hidC ih
 have HXS:=hidC hXs
 have HA:=hidC hA
 have HSH:=hidC hsh
 have HKID:=hidC eKid
 obtain⟨xk,xt,xa,xc,xks,xpl⟩:=x
 simp only at *
 clear hks hE hJ ck hR hH hXs hA ct ckl ckc ckn hcn ih hsh hx eKid hSh hF
 go_enter Tryz.func180,Tryz.ntmps180
 go_upto_region 1 with fail
 clear c0 c1 c2 c3 k0 nb
 generalize w.alloc (.cells #[.int .i64 xk,.string xt,.slice xa xks.length xc,.int .i64 xpl] 55)=W1 at *
 have d0:∀ w',Fr [] W1 w'→w'.cell? ⟨w.heap.size,0,none⟩=some (.int .i64 xk):=fun w' f=>f.cell1 (at_cells bx 0 rfl) (by simp)
 have d2:∀ w',Fr [] W1 w'→w'.cell? ⟨w.heap.size,2,none⟩=some (.slice xa xks.length xc):=fun w' f=>f.cell1 (at_cells bx 2 rfl) (by simp)
 have RF:Fr [] W1 W1:=Fr.refl _ _
 have HF1:=hidC F1
 clear bx
 by_cases k5:xk=5
 ·subst k5
  rw[if_pos rfl] at HRR
  clear HS HRF82 HSH HKID HXS HIH HKS HCK d2
  go_wp2_with fail
  refine HLT.out _ _ HF1.out ?_
  have HRS:=hidC (HRR.out.fr HF1.out)
  clear HRR HLT
  generalize (if hasE (m::C) (txN G.L n)=true then (Except.error (plN G.L n,80) : JE NM) else match eachE (exprE G.L E (m::C)) (kN G.L n) with | .error e=>.error e | .ok _=>.ok (m.put (txN G.L n) n))=res at *
  cases res with
  | error pe =>
    obtain⟨pp,ee⟩:=pe
    intro w' f'
    exact⟨rfl,SRes.err HRS.out w' f'⟩
  | ok m' =>
    intro w' cnt' f' hc' hm'
    have HX:=hidC (SRes.ok HRS.out w' cnt' f' hc' hm')
    clear HRS hc' hm' f'
    go_wp2
    go_end0
    exact HX.out
 rw[if_neg k5] at HRR
 clear HLT
 by_cases k7:xk=7
 ·subst k7
  rw[if_pos rfl] at HRR
  have hl3:=HSH.out.1 rfl
  obtain⟨z0,g0⟩ : ∃ z,xks[0]? = some z:=⟨_,List.getElem?_eq_getElem (by omega)⟩
  obtain⟨z1,g1⟩ : ∃ z,xks[1]? = some z:=⟨_,List.getElem?_eq_getElem (by omega)⟩
  obtain⟨z2,g2⟩ : ∃ z,xks[2]? = some z:=⟨_,List.getElem?_eq_getElem (by omega)⟩
  obtain⟨p0,l0⟩:=HKS.out _ (List.mem_of_getElem? g0)
  obtain⟨p1,l1⟩:=HKS.out _ (List.mem_of_getElem? g1)
  obtain⟨p2,l2⟩:=HKS.out _ (List.mem_of_getElem? g2)
  have i0:=HKID.out 0 _ g0
  have i1:=HKID.out 1 _ g1
  have i2:=HKID.out 2 _ g2
  obtain⟨q0,rfl⟩:=Int.eq_ofNat_of_zero_le p0
  obtain⟨q1,rfl⟩:=Int.eq_ofNat_of_zero_le p1
  obtain⟨q2,rfl⟩:=Int.eq_ofNat_of_zero_le p2
  rw[Int.toNat_natCast] at l0 l1 l2 i0 i1 i2
  rw[i0,i1,i2] at HRR
  obtain⟨b3,o3,rfl,hb3,e0⟩:=HCK.out 0 _ g0
  obtain⟨b4,o4,e4,hb4,e1⟩:=HCK.out 1 _ g1
  obtain⟨rfl,rfl⟩ : b4=b3∧o4=o3:=by cases e4;exact⟨rfl,rfl⟩
  obtain⟨b6,o6,e6,hb6,e2⟩:=HCK.out 2 _ g2
  obtain⟨rfl,rfl⟩ : b6=b4∧o6=o4:=by cases e6;exact⟨rfl,rfl⟩
  rw[Nat.add_zero] at e0
  obtain⟨y,b5,o5,hy,hay,hby,hcy⟩:=HJ.out.node (show q1<G.len by omega)
  rw[ha] at hay
  obtain⟨rfl,rfl⟩ : b5=b∧o5=o:=by cases hay;exact⟨rfl,rfl⟩
  have ey:kN G.L q1=y.ks.map Int.toNat:=by unfold kN;rw[hy]
  have CBy:Hid (∀ w',Fr [] w w'→Calls Tryz.prog 148 #[.pointer (some ⟨G.jb,0,none⟩),.slice y.a y.ks.length y.c,.pointer (some ⟨sb,0,none⟩)] w' (Looks w' (blockE G.L E (m::C) (kN G.L q1)))):=fun w' f=>block_cps (HJ.out.fr f (by simp)) (HE.out.fr f (by simp)) ((HHD.out.fr0 f).chain HCN.out) (hcy.k.fr f (by simp)) rfl (HJ.out.kb q1 y hy) (fun k hk=>by
   obtain⟨h0,h1⟩:=HA.out q1 y hy k hk
   exact⟨h0,HIH.out k.toNat (by omega) (by omega)⟩) (by rw[ey];exact Looks.res _ _)
  obtain⟨u,b7,o7,hu,hau,hbu,hcu⟩:=HJ.out.node (show q2<G.len by omega)
  rw[ha] at hau
  obtain⟨rfl,rfl⟩ : b7=b5∧o7=o5:=by cases hau;exact⟨rfl,rfl⟩
  have eu:kN G.L q2=u.ks.map Int.toNat:=by unfold kN;rw[hu]
  have CBu:Hid (∀ w',Fr [] w w'→Calls Tryz.prog 148 #[.pointer (some ⟨G.jb,0,none⟩),.slice u.a u.ks.length u.c,.pointer (some ⟨sb,0,none⟩)] w' (Looks w' (blockE G.L E (m::C) (kN G.L q2)))):=fun w' f=>block_cps (HJ.out.fr f (by simp)) (HE.out.fr f (by simp)) ((HHD.out.fr0 f).chain HCN.out) (hcu.k.fr f (by simp)) rfl (HJ.out.kb q2 u hu) (fun k hk=>by
   obtain⟨h0,h1⟩:=HA.out q2 u hu k hk
   exact⟨h0,HIH.out k.toNat (by omega) (by omega)⟩) (by rw[eu];exact Looks.res _ _)
  have CE:Hid (∀ w',Fr [] w w'→Calls Tryz.prog 200 #[.pointer (some ⟨G.jb,0,none⟩),.int .i64 q0,.pointer (some ⟨sb,0,none⟩)] w' (Looks w' (exprE G.L E (m::C) q0))):=fun w' f=>HXS.out q0 (by omega) w' _ _ _ _ (HJ.out.fr f (by simp)) (HE.out.fr f (by simp)) ((HHD.out.fr0 f).chain HCN.out) (Looks.res _ _)
  have J0:∀ w',Fr [] W1 w'→w'.cell? ⟨G.jb,0,none⟩=some (.slice (some ⟨b7,o7,none⟩) G.len G.cap):=fun w' f=>by
   have:=at_cells HJ.out.blk 0 rfl
   rw[ha] at this
   exact (HF1.out.trans f).cell1 this (by simp)
  have E0:∀ w',Fr [] W1 w'→w'.cell? ⟨b6,o6,none⟩=some (.int .i64 q0):=fun w' f=>(HF1.out.trans f).cell1 e0 (by simp)
  have E1:∀ w',Fr [] W1 w'→w'.cell? ⟨b6,o6+1,none⟩=some (.int .i64 q1):=fun w' f=>(HF1.out.trans f).cell1 e1 (by simp)
  have E2:∀ w',Fr [] W1 w'→w'.cell? ⟨b6,o6+2,none⟩=some (.int .i64 q2):=fun w' f=>(HF1.out.trans f).cell1 e2 (by simp)
  have Y2:∀ w',Fr [] W1 w'→w'.cell? ⟨b7,o7+q1*4+2,none⟩=some (.slice y.a y.ks.length y.c):=fun w' f=>(HF1.out.trans f).cell1 hcy.c2 (by simp)
  have U2:∀ w',Fr [] W1 w'→w'.cell? ⟨b7,o7+q2*4+2,none⟩=some (.slice u.a u.ks.length u.c):=fun w' f=>(HF1.out.trans f).cell1 hcu.c2 (by simp)
  have hq1:(q1:Int)<G.len:=by omega
  have hq2:(q2:Int)<G.len:=by omega
  have hl3I:(3:Int)≤xks.length:=by omega
  have HM:=hidC HHD.out.ma
  obtain⟨yk,yt,ya,yc,yks,ypl⟩:=y
  obtain⟨uk,ut,ua,uc,uks,upl⟩:=u
  simp only at *
  clear HS HRF82 HSH HKID HXS HIH HKS HCK ey eu hy hu hcy hcu e0 e1 e2 e4 e6 hay hau g0 g1 g2 i0 i1 i2 p0 p1 p2 HJ HE HHD HA hb3 hb4 hb6 hby hbu
  generalize blockE G.L E (m::C) (kN G.L q1)=r1 at *
  generalize blockE G.L E (m::C) (kN G.L q2)=r2 at *
  generalize exprE G.L E (m::C) q0=r0 at *
  have HT0:Hid (∀ p e,r0 = .error (p,e)→∀ w',Fr [] W1 w'→R (thr p e) w'):=fun p e h w' f=>by
   have h1:=HRR.out
   rw[h] at h1
   exact h1 w' ((HF1.out.trans f).sub (by simp))
  have HT1:Hid (r0 = .ok ()→∀ p e,r1 = .error (p,e)→∀ w',Fr [] W1 w'→R (thr p e) w'):=fun h p e h' w' f=>by
   have h1:=HRR.out
   rw[h,h'] at h1
   exact h1 w' ((HF1.out.trans f).sub (by simp))
  have HT2:Hid (r0 = .ok ()→r1 = .ok ()→∀ p e,r2 = .error (p,e)→∀ w',Fr [] W1 w'→R (thr p e) w'):=fun h h' p e h'' w' f=>by
   have h1:=HRR.out
   rw[h,h',h''] at h1
   exact h1 w' ((HF1.out.trans f).sub (by simp))
  have HT3:Hid (r0 = .ok ()→r1 = .ok ()→r2 = .ok ()→∀ w',Fr [] W1 w'→R (.returned (.tuple #[])) w'):=fun h h' h'' w' f=>by
   have h1:=HRR.out
   rw[h,h',h''] at h1
   exact h1 w' cnt ((HF1.out.trans f).sub (by simp)) (by omega) (HM.out.fr (HF1.out.trans f) (by simp))
  clear HRR F1 HM
  have C200:=CE.out W1 HF1.out
  go_wp2_with fail
  with_reducible (refine C200.mono ?_)
  rintro ex wq ⟨fq,(⟨p,e,he,rfl⟩ | ⟨he0,rfl⟩)⟩
  ·exact⟨rfl,HT0.out p e he _ fq⟩
  go_upto_region 7 with fail
  have HD:∀ w' : World,Fr [] W1 w'→Fr [] W1 w'.drew:=fun w' h=>h.drew
  have HFD:Fr [] W1 wq.drew:=fq.drew
  have C148:=CBy.out wq.drew (HF1.out.trans HFD)
  clear CE C200 HT0 CBy
  unfold thr at HT1 HT2
  go_cut [49] from 36 to 50 (fun _ wd=>r1 = .ok ()∧Fr [] W1 wd)
  case first =>
   clear HT2 HT3 CBu
   go_region_held_law (fun w' : World=>Fr [] W1 w')
    (with_reducible (first | assumption | exact HD _ (by assumption)))
    (first | (go_at_call 148;with_reducible (refine C148.mono ?_);intro ex wz hL;rcases hL.out with ⟨fz,(⟨p,e,he,rfl⟩ | ⟨he1,rfl⟩)⟩;(· unfold thr;show bodyPost Tryz.prog Tryz.f180 R (.panic _) _ _;exact bodyPost_panic rfl (HT1.out he0 p e he _ (HFD.trans fz)));have FZ:Fr [] W1 wz:=HFD.trans fz))
   all_goals
    clear HT1 C148
    go_wp2_with fail
    go_meet
    case rel=>exact⟨he1,FZ⟩
  case rest =>
   obtain⟨he1,fd⟩:=hcut
   obtain⟨wA,hwA⟩ : ∃ x:World,x=wc:=⟨_,rfl⟩
   subst hwA
   have HFE:Fr [] W1 wA.drew:=fd.drew
   have C149:=CBu.out wA.drew (HF1.out.trans HFE)
   clear HT1 C148 CBu HFD fq Y2
   go_upto_region 8 with fail
   go_region_held_law (fun w' : World=>Fr [] W1 w')
    (with_reducible (first | assumption | exact HD _ (by assumption)))
    (first | (go_at_call 148;with_reducible (refine C149.mono ?_);intro ex wz hL;rcases hL.out with ⟨fz,(⟨p,e,he,rfl⟩ | ⟨he2,rfl⟩)⟩;(· unfold thr;show bodyPost Tryz.prog Tryz.f180 R (.panic _) _ _;exact bodyPost_panic rfl (HT2.out he0 he1 p e he _ (HFE.trans fz)));have FZ:Fr [] W1 wz:=HFE.trans fz))
   all_goals
    have HX:=hidC (HT3.out he0 he1 he2 wz FZ)
    clear HT2 HT3 C149
    go_wp2
    go_end0
    exact HX.out
 rw[if_neg k7] at HRR
 by_cases k8:xk=8
 ·subst k8
  rw[if_pos rfl] at HRR
  have hl2:=HSH.out.2 rfl
  obtain⟨z0,g0⟩ : ∃ z,xks[0]? = some z:=⟨_,List.getElem?_eq_getElem (by omega)⟩
  obtain⟨z1,g1⟩ : ∃ z,xks[1]? = some z:=⟨_,List.getElem?_eq_getElem (by omega)⟩
  obtain⟨p0,l0⟩:=HKS.out _ (List.mem_of_getElem? g0)
  obtain⟨p1,l1⟩:=HKS.out _ (List.mem_of_getElem? g1)
  have i0:=HKID.out 0 _ g0
  have i1:=HKID.out 1 _ g1
  obtain⟨q0,rfl⟩:=Int.eq_ofNat_of_zero_le p0
  obtain⟨q1,rfl⟩:=Int.eq_ofNat_of_zero_le p1
  rw[Int.toNat_natCast] at l0 l1 i0 i1
  rw[i0,i1] at HRR
  obtain⟨b3,o3,rfl,hb3,e0⟩:=HCK.out 0 _ g0
  obtain⟨b4,o4,e4,hb4,e1⟩:=HCK.out 1 _ g1
  obtain⟨rfl,rfl⟩ : b4=b3∧o4=o3:=by cases e4;exact⟨rfl,rfl⟩
  rw[Nat.add_zero] at e0
  obtain⟨y,b5,o5,hy,ha5,hb5,hc5⟩:=HJ.out.node (show q1<G.len by omega)
  rw[ha] at ha5
  obtain⟨rfl,rfl⟩ : b5=b∧o5=o:=by cases ha5;exact⟨rfl,rfl⟩
  have eY:kN G.L q1=y.ks.map Int.toNat:=by unfold kN;rw[hy]
  have CE:Hid (∀ w',Fr [] w w'→Calls Tryz.prog 200 #[.pointer (some ⟨G.jb,0,none⟩),.int .i64 q0,.pointer (some ⟨sb,0,none⟩)] w' (Looks w' (exprE G.L E (m::C) q0))):=fun w' f=>HXS.out q0 (by omega) w' _ _ _ _ (HJ.out.fr f (by simp)) (HE.out.fr f (by simp)) ((HHD.out.fr0 f).chain HCN.out) (Looks.res _ _)
  have CL:Hid (∀ w',Fr [] w w'→Calls Tryz.prog 201 #[.pointer (some ⟨G.jb,0,none⟩),.slice y.a y.ks.length y.c,.pointer (some ⟨sb,0,none⟩)] w' (Looks w' (loopE G.L E (m::C) (kN G.L q1)))):=fun w' f=>loop_cps HA.out HXS.out (HJ.out.fr f (by simp)) (HE.out.fr f (by simp)) ((HHD.out.fr0 f).chain HCN.out) (hc5.k.fr f (by simp)) rfl (HJ.out.kb q1 y hy) hc5.kc (fun k hk=>by
   obtain⟨h0,h1⟩:=HA.out q1 y hy k hk
   exact⟨h0,by omega,HIH.out k.toNat (by omega) (by omega)⟩) (by rw[eY];exact Looks.res _ _)
  have J0:∀ w',Fr [] W1 w'→w'.cell? ⟨G.jb,0,none⟩=some (.slice (some ⟨b5,o5,none⟩) G.len G.cap):=fun w' f=>by
   have:=at_cells HJ.out.blk 0 rfl
   rw[ha] at this
   exact (HF1.out.trans f).cell1 this (by simp)
  have E0:∀ w',Fr [] W1 w'→w'.cell? ⟨b4,o4,none⟩=some (.int .i64 q0):=fun w' f=>(HF1.out.trans f).cell1 e0 (by simp)
  have E1:∀ w',Fr [] W1 w'→w'.cell? ⟨b4,o4+1,none⟩=some (.int .i64 q1):=fun w' f=>(HF1.out.trans f).cell1 e1 (by simp)
  have Y2:∀ w',Fr [] W1 w'→w'.cell? ⟨b5,o5+q1*4+2,none⟩=some (.slice y.a y.ks.length y.c):=fun w' f=>(HF1.out.trans f).cell1 hc5.c2 (by simp)
  have hq1:(q1:Int)<G.len:=by omega
  have hl2I:(2:Int)≤xks.length:=by omega
  have HM:=hidC HHD.out.ma
  obtain⟨yk,yt,ya,yc,yks,ypl⟩:=y
  simp only at *
  clear HS HRF82 HSH HKID HXS HIH HKS HCK eY hy hc5 e0 e1 e4 ha5 g0 g1 i0 i1 p0 p1 HJ HE HHD HA hb3 hb4 hb5
  generalize loopE G.L E (m::C) (kN G.L q1)=r1 at *
  generalize exprE G.L E (m::C) q0=r0 at *
  have HT0:Hid (∀ p e,r0 = .error (p,e)→∀ w',Fr [] W1 w'→R (thr p e) w'):=fun p e h w' f=>by
   have h1:=HRR.out
   rw[h] at h1
   exact h1 w' ((HF1.out.trans f).sub (by simp))
  have HT1:Hid (r0 = .ok ()→∀ p e,r1 = .error (p,e)→∀ w',Fr [] W1 w'→R (thr p e) w'):=fun h p e h' w' f=>by
   have h1:=HRR.out
   rw[h,h'] at h1
   exact h1 w' ((HF1.out.trans f).sub (by simp))
  have HT2:Hid (r0 = .ok ()→r1 = .ok ()→∀ w',Fr [] W1 w'→R (.returned (.tuple #[])) w'):=fun h h' w' f=>by
   have h1:=HRR.out
   rw[h,h'] at h1
   exact h1 w' cnt ((HF1.out.trans f).sub (by simp)) (by omega) (HM.out.fr (HF1.out.trans f) (by simp))
  clear HRR F1 HM
  have C200:=CE.out W1 HF1.out
  go_wp2_with fail
  with_reducible (refine C200.mono ?_)
  rintro ex wq ⟨fq,(⟨p,e,he,rfl⟩ | ⟨he0,rfl⟩)⟩
  ·exact⟨rfl,HT0.out p e he _ fq⟩
  go_upto_region 11 with fail
  have HD:∀ w' : World,Fr [] W1 w'→Fr [] W1 w'.drew:=fun w' h=>h.drew
  have HFD:Fr [] W1 wq.drew:=fq.drew
  have C201:=CL.out wq.drew (HF1.out.trans HFD)
  clear CE C200 HT0 CL
  unfold thr at HT1
  go_region_held_law (fun w' : World=>Fr [] W1 w')
   (with_reducible (first | assumption | exact HD _ (by assumption)))
   (first | (go_at_call 201;(with_reducible (refine C201.mono ?_);intro ex wz hL;rcases hL.out with ⟨fz,(⟨p,e,he,rfl⟩ | ⟨he1,rfl⟩)⟩;(· unfold thr;show bodyPost Tryz.prog Tryz.f180 R (.panic _) _ _;exact bodyPost_panic rfl (HT1.out he0 p e he _ (HFD.trans fz)));have FZ:Fr [] W1 wz:=HFD.trans fz)))
  all_goals
   have HX:=hidC (HT2.out he0 he1 wz FZ)
   clear HT1 HT2 C201
   go_wp2
   go_end0
   exact HX.out
 rw[if_neg k8] at HRR
 clear HSH HKID HXS HIH HKS HCK
 by_cases k13:xk=13
 ·subst k13
  rw[if_pos rfl] at HRR
  have C146:=HRF82.out W1 F1
  have HT:=hidC (SRes.err HRR.out _ (F1.sub (by simp)))
  clear HRR HS HRF82 d2 F1
  generalize plN G.L n=pl at *
  unfold thr at *
  go_wp2_with (go_at_call 146;with_reducible (refine C146.mono ?_);rintro ex wq ⟨rfl,rfl⟩)
  exact⟨rfl,HT.out⟩
 rw[if_neg k13] at HRR
 have C202:=HS.out W1 F1
 have HRS:=hidC (HRR.out.fr HF1.out)
 have HM1:=hidC (HHD.out.fr0 F1).ma
 clear HS HRF82 HRR F1
 generalize eachE (exprE G.L E (m::C)) (kN G.L n)=res at *
 go_wp2_with fail
 refine C202.mono ?_
 rintro ex wq ⟨fq,(⟨p,e,rfl,rfl⟩ | ⟨rfl,rfl⟩)⟩
 ·exact⟨rfl,SRes.err HRS.out wq (fq.sub (by simp))⟩
 ·have HX:=hidC (SRes.ok HRS.out wq cnt (fq.sub (by simp)) (by omega) (HM1.out.fr fq (by simp)))
  clear HRS C202 fq
  go_wp2
  go_end0
  exact HX.out
def recE (L:List Nd) (k:Nat) (rc fl:NM) : JE (NM×NM):=match decE L k rc with
 | .error e=>.error e
 | .ok rc'=>if 100<(kN L k).length then .error (plN L k,2) else match decsE L (kN L k) fl with | .error e=>.error e | .ok fl'=>.ok (rc',fl')
def RRes (G:JG) (w:World) (cr cf:Nat) (R:Ending→World→Prop) : JE (NM×NM)→Prop
 | .ok m=>∀ w' cr' cf',Fr [G.mr,G.mf] w w'→cr'≤cr+1→cf'≤cf+100→MA w' G.mr cr' m.1→MA w' G.mf cf' m.2→R (.returned (.tuple #[])) w'
 | .error (p,e)=>∀ w',Fr [G.mr,G.mf] w w'→R (thr p e) w'
theorem RRes.ok {G:JG} {w:World} {cr cf:Nat} {R:Ending→World→Prop} {m:NM×NM} (h:RRes G w cr cf R (.ok m)) : ∀ w' cr' cf',Fr [G.mr,G.mf] w w'→cr'≤cr+1→cf'≤cf+100→MA w' G.mr cr' m.1→MA w' G.mf cf' m.2→R (.returned (.tuple #[])) w' := h
theorem RRes.err {G:JG} {w:World} {cr cf:Nat} {R:Ending→World→Prop} {p:Int} {e:Nat} (h:RRes G w cr cf R (.error (p,e))) : ∀ w',Fr [G.mr,G.mf] w w'→R (thr p e) w' := h
set_option maxHeartbeats 8000000 in
theorem record_cps {G:JG} (hA:Ahead G.L) {w:World} {cr cf:Nat} {rc fl:NM} {R:Ending→World→Prop} (hJ:JI G w) (hr:MA w G.mr cr rc) (hf:MA w G.mf cf fl) (hne:G.mr≠G.mf) (hrj:G.mr≠G.jb) (hfj:G.mf≠G.jb) (hcr:cr≤100000) (hcf:cf≤10000000) {n:Nat} (hn:n<G.len)
 (hR:RRes G w cr cf R (recE G.L n rc fl)) : Calls Tryz.prog 101 #[.pointer (some ⟨G.jb,0,none⟩),.int .i64 n] w R:=by
 obtain⟨x,b,o,hx,ha,hb,hc⟩:=hJ.node hn
 have hlm:=hJ.lm
 have hlI:(G.len:Int)≤50000:=by omega
 have hnI:(n:Int)<G.len:=by omega
 have eN:kN G.L n=x.ks.map Int.toNat:=by unfold kN;rw[hx]
 have hkm:x.ks.length≤50000:=hJ.kb n x hx
 have HKS:Hid (∀ k∈x.ks,0≤k∧k.toNat<G.len):=fun k hk=>by
  obtain⟨h0,h1⟩:=hA n x hx k hk
  exact⟨h0,by omega⟩
 have j1:w.cell? ⟨G.jb,1,none⟩=some (.map (some G.mr)):=at_cells hJ.blk 1 rfl
 unfold recE decE at hR
 cases hd:rc (txN G.L n) with
 | some d =>
   rw[hd] at hR
   have C102:=declare_no hJ hn hr hd
   have HT:=hidC (RRes.err hR w (Fr.refl _ _))
   clear hJ hr hf hR hx ha hc eN HKS hd
   generalize plN G.L n=pl at *
   unfold thr at *
   go_enter Tryz.func101,Tryz.ntmps101
   go_wp2_with (go_at_call 102;with_reducible (refine C102.mono ?_);rintro ex wq ⟨rfl,rfl⟩)
   exact⟨rfl,HT.out⟩
 | none =>
   rw[hd] at hR
   have C102:=declare_yes hJ hn hr (by omega) hd
   have HJ:=hidC hJ
   have HR:=hidC hR
   have HMF:=hidC hf
   have HCC:=hidC hc
   have HB:=hidC (hJ.lr)
   have HBF:=hidC (hJ.lf)
   have HA0:=hidC ha
   have HNE:=hidC hne
   have HRJ:=hidC hrj
   have HFJ:=hidC hfj
   clear hJ hr hf hR hx hd hc hne hrj hfj
   go_enter Tryz.func101,Tryz.ntmps101
   go_upto_region 1 with (go_at_call 102;with_reducible (refine C102.mono ?_);rintro ex w1 ⟨rfl,hm1,hf1⟩;have HM1:=hidC hm1;have HF1:=hidC hf1;clear hm1 hf1)
   have HJ1:=hidC (HJ.out.fr HF1.out (by have:=HB.out;have:=HRJ.out;simp;omega))
   have hc1:=HCC.out.fr HF1.out hb (by have:=HB.out;simp;omega)
   have k0:w1.cell? ⟨G.jb,0,none⟩=some (.slice G.a G.len G.cap):=at_cells HJ1.out.blk 0 rfl
   rw[HA0.out] at k0
   have HMF1:=hidC (HMF.out.fr HF1.out (by have:=HNE.out;simp;omega))
   clear C102 j1 ha
   obtain⟨c0,c1,c2,c3,ck,ct,ckl,ckc,ckn⟩:=hc1
   obtain⟨xk,xt,xa,xc,xks,xpl⟩:=x
   simp only at *
   rw[eN,List.length_map] at HR
   by_cases h4:100<xks.length
   ·rw[if_pos h4] at HR
    have h4I:(100:Int)<xks.length:=by omega
    have C146:Calls Tryz.prog 146 #[.pointer (some ⟨G.jb,0,none⟩),.int .i64 n,.int .i64 2] w1 (fun ex w''=>ex=thr (plN G.L n) 2∧w'' = w1):=refuse_any HJ1.out hn 2
    have HT:=hidC (RRes.err HR.out w1 (HF1.out.sub (by simp)))
    clear HR c0 c1 c3 ck ct ckl ckc ckn HKS
    generalize plN G.L n=pl at *
    unfold thr at *
    go_wp2_with (go_at_call 146;with_reducible (refine C146.mono ?_);rintro ex wq ⟨rfl,rfl⟩)
    exact⟨rfl,HT.out⟩
   ·rw[if_neg h4] at HR
    have h4I:¬ (100:Int)<xks.length:=by omega
    have HCK:=hidC ck
    clear c0 c1 c3 ck ct ckl ckc ckn
    go_wp2
    clear k0 c2
    go_loopw [6,30] (fun _ ix wr=>∃ p:Nat,p≤xks.length∧ix = .int .i64 p∧Fr [G.mf] w1 wr∧∃ cnt m,cnt≤cf+p∧MA wr G.mf cnt m∧Hid (RRes G w cr cf R (match decsE G.L ((xks.drop p).map Int.toNat) m with | .error e=>.error e | .ok fl'=>.ok (rc.put (txN G.L n) n,fl')))) (fun _ ix _=>xks.length-(intOf ix).toNat)
    case atStart=>exact⟨0,Nat.zero_le _,rfl,Fr.refl _ _,cf,fl,Nat.le_refl _,HMF1.out,HR.out⟩
    case round =>
     clear HR HMF1
     obtain⟨p,hp,rfl,fw,cnt,m,hcnt,hm,hr⟩:=hrel
     have LF:Hid (∀ w',Fr [G.mf] w1 w'→Fr [G.mr,G.mf] w w'):=fun w' f=>(HF1.out.sub (by simp)).trans (f.sub (by simp))
     by_cases hlt:p<xks.length
     ·have hpI:(p:Int)<xks.length:=by omega
      have hx:xks[p]? = some xks[p]:=List.getElem?_eq_getElem hlt
      obtain⟨h0,hxl⟩:=HKS.out xks[p] (List.getElem_mem _)
      have HRS:Hid (RRes G w cr cf R (match ((match decE G.L (xks[p]).toNat m with | .error e=>.error e | .ok m'=>decsE G.L ((xks.drop (p+1)).map Int.toNat) m') : JE NM) with | .error e=>.error e | .ok fl'=>.ok (rc.put (txN G.L n) n,fl'))):=by
       have:=hr.out
       rw[List.drop_eq_getElem_cons hlt,List.map_cons] at this
       exact this
      have HJ2:=hidC (HJ1.out.fr fw (by have:=HBF.out;have:=HFJ.out;simp;omega))
      have j2:wr.cell? ⟨G.jb,2,none⟩=some (.map (some G.mf)):=at_cells HJ2.out.blk 2 rfl
      obtain⟨b3,o3,e,hb3,hc3⟩:=(HCK.out.fr fw (by have:=HBF.out;simp;omega)) p _ hx
      subst e
      generalize xks[p]=z at *
      obtain⟨q,rfl⟩:=Int.eq_ofNat_of_zero_le h0
      rw[Int.toNat_natCast] at hxl HRS
      have hqI:(q:Int)<G.len:=by omega
      unfold decE at HRS
      clear hx h0 hr
      cases hd:m (txN G.L q) with
      | some d =>
        rw[hd] at HRS
        have C102:=declare_no HJ2.out hxl hm hd
        have HT:=hidC (RRes.err HRS.out wr (LF.out _ fw))
        clear HRS hd hm LF
        generalize plN G.L q=pl at *
        unfold thr at *
        go_wp2_with (go_at_call 102;with_reducible (refine C102.mono ?_);rintro ex wq ⟨rfl,rfl⟩)
        exact⟨rfl,HT.out⟩
      | none =>
        rw[hd] at HRS
        have C102:=declare_yes HJ2.out hxl hm (by omega) hd
        have HFW:=hidC fw
        clear hd hm LF fw
        go_wp2_with (go_at_call 102;with_reducible (refine C102.mono ?_);rintro ex wq ⟨rfl,hm3,hf3⟩;have HM3:=hidC hm3;have HF3:=hidC hf3;clear hm3 hf3)
        go_roundw
        case rel=>exact⟨p+1,hlt,by go_num,HFW.out.trans HF3.out,cnt+1,_,by omega,HM3.out,HRS.out⟩
        case measure=>simp[intOf];omega
     ·have hpI:¬ (p:Int)<xks.length:=by omega
      have hr2:=hr.out
      rw[List.drop_of_length_le (by omega)] at hr2
      have HX:=hidC (RRes.ok hr2 wr (cr+1) cnt (LF.out _ fw) (Nat.le_refl _) (by omega) (HM1.out.fr fw (by have:=HNE.out;simp;omega)) hm)
      clear hr hr2 hm LF
      go_wp2
      go_end0
      exact HX.out
theorem params_is (w:World) (kind:Int) (text:ByteArray) (ad:Addr) (n c:Nat) (pl:Int) (hn:0<n) (hnc:n≤c) (hm:n≤50000) :
 Calls Tryz.prog 69 #[.agg #[.int .i64 kind,.string text,.slice (some ad) n c,.int .i64 pl]] w fun e w'=>e = .returned (.slice (some ad) (n-1) c)∧Fr [] w w' := by
 have hnI:(1:Int)≤n:=by omega
 have hcI:(n:Int)≤c:=by omega
 have hmI:(n:Int)≤50000:=by omega
 have F0:Fr [] w (w.alloc (.cells #[.int .i64 kind,.string text,.slice (some ad) n c,.int .i64 pl] 55)):=(Fr.refl _ _).alloc _
 go_enter Tryz.func69,Tryz.ntmps69
 go_wp2
 go_ret
 exact⟨rfl,F0⟩
def fnE (L:List Nd) (E:Env) (vl nd:Nat) : JE Unit :=
 if 100<vl then .error (plN L nd,2)
 else match decsE L ((kN L nd).take ((kN L nd).length-1)) NM.nil with
  | .error e=>.error e
  | .ok m=>blockE L E [m] (kN L (kid L nd ((kN L nd).length-1)))
set_option maxHeartbeats 8000000 in
theorem function_cps {G:JG} {E:Env} (hA:Ahead G.L) (hSt:∀ n,n<G.len→StmtC G E n) {w:World} {R:Ending→World→Prop} (hJ:JI G w) (hE:EM G E w) {nm:ByteArray} {va:Option Addr} {vn vc nd:Nat} (hvn:vn≤1000000) (hn:nd<G.len) (hk0:0<(kN G.L nd).length)
 (hR:ERes w R (fnE G.L E vn nd)) : Calls Tryz.prog 103 #[.pointer (some ⟨G.jb,0,none⟩),.agg #[.string nm,.int .i64 (((kN G.L nd).length-1:Nat) : Int),.slice va vn vc,.int .i64 nd]] w R:=by
 obtain⟨x,b,o,hx,ha,hb,hc⟩:=hJ.node hn
 have hlm:=hJ.lm
 have hlI:(G.len:Int)≤50000:=by omega
 have hnI:(nd:Int)<G.len:=by omega
 have hvI:(vn:Int)≤1000000:=by omega
 have eN:kN G.L nd=x.ks.map Int.toNat:=by unfold kN;rw[hx]
 have hkm:x.ks.length≤50000:=hJ.kb nd x hx
 have HKS:Hid (∀ k∈x.ks,0≤k∧k.toNat<nd):=fun k hk=>by
  obtain⟨h0,h1⟩:=hA nd x hx k hk
  exact⟨h0,by omega⟩
 have eL:(kN G.L nd).length=x.ks.length:=by rw[eN,List.length_map]
 unfold fnE at hR
 rw[eL] at hk0 hR ⊢
 have F1:Fr [] w (w.alloc (.cells #[.string nm,.int .i64 ((x.ks.length-1:Nat) : Int),.slice va vn vc,.int .i64 nd] 61)):=(Fr.refl _ _).alloc _
 have bx:=heap_alloc_new w (.cells #[.string nm,.int .i64 ((x.ks.length-1:Nat) : Int),.slice va vn vc,.int .i64 nd] 61)
 have HJ:=hidC hJ
 have HE:=hidC hE
 have HST:=hidC hSt
 have HA:=hidC hA
 have HRR:=hidC hR
 have HA0:=hidC ha
 have HC:=hidC hc
 have HX:=hidC hx
 have HEN:=hidC eN
 clear hJ hE hSt hA hR ha hx eL eN hc
 by_cases hv:100<vn
 ·rw[if_pos hv] at HRR
  have hv2:(100:Int)<vn:=by omega
  have C146:Hid (∀ w',Fr [] w w'→Calls Tryz.prog 146 #[.pointer (some ⟨G.jb,0,none⟩),.int .i64 nd,.int .i64 2] w' (fun ex w''=>ex=thr (plN G.L nd) 2∧w'' = w')):=fun w' f=>refuse_any (HJ.out.fr f (by simp)) hn 2
  have C1:=C146.out _ F1
  have HT:=hidC (ERes.err HRR.out _ F1)
  clear HRR HKS C146
  generalize plN G.L nd=pl at *
  unfold thr at *
  go_enter Tryz.func103,Tryz.ntmps103
  go_wp2_with (go_at_call 146;with_reducible (refine C1.mono ?_);rintro ex wq ⟨rfl,rfl⟩)
  exact⟨rfl,HT.out⟩
 ·rw[if_neg hv] at HRR
  have hv2:¬ (100:Int)<vn:=by omega
  go_enter Tryz.func103,Tryz.ntmps103
  go_upto_region 3 with fail
  generalize w.alloc (.cells #[.string nm,.int .i64 ((x.ks.length-1:Nat) : Int),.slice va vn vc,.int .i64 nd] 61)=W1 at *
  have d1:∀ w',Fr [] W1 w'→w'.cell? ⟨w.heap.size,1,none⟩=some (.int .i64 ((x.ks.length-1:Nat) : Int)):=fun w' f=>f.cell1 (at_cells bx 1 rfl) (by simp)
  have d3:∀ w',Fr [] W1 w'→w'.cell? ⟨w.heap.size,3,none⟩=some (.int .i64 nd):=fun w' f=>f.cell1 (at_cells bx 3 rfl) (by simp)
  have HF1:=hidC F1
  have hc1:=HC.out.fr F1 hb (by simp)
  have k0:W1.cell? ⟨G.jb,0,none⟩=some (.slice G.a G.len G.cap):=at_cells (HJ.out.fr F1 (by simp)).blk 0 rfl
  rw[HA0.out] at k0
  have z3:=d3 _ (Fr.refl _ _)
  have n1:=World.block_lt_of_cell? W1 _ hc1.c0
  have n2:=World.block_lt_of_cell? W1 _ k0
  have n3:=World.block_lt_of_cell? W1 _ z3
  simp only at n1 n2 n3
  have m1:b≠W1.heap.size:=by omega
  have m2:G.jb≠W1.heap.size:=by omega
  have m3:w.heap.size≠W1.heap.size:=by omega
  have HCK:=hidC hc1.k
  have HNN:Hid (x.ks.length≤x.c∧x.a≠none):=⟨hc1.kc,fun h0=>by have h1:=hc1.kc;have h2:=hc1.kn h0;omega⟩
  obtain⟨c0,c1,c2,c3,ck,ct,ckl,ckc,ckn⟩:=hc1
  obtain⟨xk,xt,xa,xc,xks,xpl⟩:=x
  simp only at *
  clear ck ct ckl ckc ckn bx F1
  go_cut [4] from 16 to 24 (fun s4 wc=>∃ kb:Nat,s4 = .pointer (some ⟨kb,0,none⟩)∧Fr [] W1 wc∧wc.heap[kb]? = some (.cells #[.int .i64 xk,.string xt,.slice xa xks.length xc,.int .i64 xpl] 55 (0,0)))
  case first =>
   go_region
   all_goals
    go_wp2_with fail
    go_meet
    case rel=>exact⟨_,rfl,((Fr.refl _ _).alloc _).drew,heap_alloc_new W1 _⟩
  case rest =>
   obtain⟨kb,rfl,fc,bK⟩:=hcut
   obtain⟨wA,hwA⟩ : ∃ x:World,x=wc:=⟨_,rfl⟩
   subst hwA
   obtain⟨za,ga⟩ : ∃ z,xks[0]? = some z:=⟨_,List.getElem?_eq_getElem (by omega)⟩
   obtain⟨b3,o3,rfl,hb3,_⟩:=HCK.out 0 _ ga
   have kA:=World.block_lt_of_cell? wA _ (d3 wA fc)
   simp only at kA
   have C147:=within_any wA none
   have HJA:=hidC (HJ.out.fr (HF1.out.trans fc) (by simp))
   have HEA:=hidC (HE.out.fr (HF1.out.trans fc) (by simp))
   have HW:Hid (∀ w',Fr [] wA w'→w'.heap[wA.heap.size+1]? = some (.cells #[.pointer none,.map (some wA.heap.size)] 181 (0,0))→MA w' wA.heap.size 0 NM.nil→HdS G w' (wA.heap.size+1) wA.heap.size 0 (.pointer none) NM.nil []):=fun w' f h1 h2=>by
    have hj:=(Array.getElem?_eq_some_iff.1 HJA.out.blk).1
    obtain⟨_,hr⟩:=HEA.out.r
    obtain⟨_,hf⟩:=HEA.out.f
    obtain⟨_,hfn⟩:=HEA.out.n
    have r1:=hr.lt
    have r2:=hf.lt
    have r3:=hfn.lt
    have:=HJA.out.lj
    exact⟨h1,h2,⟨0,rfl,by omega,by omega⟩,by omega,by omega,by omega,by omega,by omega⟩
   have C69:Hid (∀ w',Calls Tryz.prog 69 #[.agg #[.int .i64 xk,.string xt,.slice (some ⟨b3,o3,none⟩) xks.length xc,.int .i64 xpl]] w' fun e w''=>e = .returned (.slice (some ⟨b3,o3,none⟩) (xks.length-1) xc)∧Fr [] w' w''):=fun w'=>params_is w' xk xt _ _ _ xpl hk0 HNN.out.1 hkm
   have r0:∀ w',Fr [] wA w'→w'.cell? ⟨kb,0,none⟩=some (.int .i64 xk):=fun w' f=>f.cell1 (at_cells bK 0 rfl) (by simp)
   have r1:∀ w',Fr [] wA w'→w'.cell? ⟨kb,1,none⟩=some (.string xt):=fun w' f=>f.cell1 (at_cells bK 1 rfl) (by simp)
   have r2:∀ w',Fr [] wA w'→w'.cell? ⟨kb,2,none⟩=some (.slice (some ⟨b3,o3,none⟩) xks.length xc):=fun w' f=>f.cell1 (at_cells bK 2 rfl) (by simp)
   have r3:∀ w',Fr [] wA w'→w'.cell? ⟨kb,3,none⟩=some (.int .i64 xpl):=fun w' f=>f.cell1 (at_cells bK 3 rfl) (by simp)
   have D1:∀ w',Fr [] wA w'→w'.cell? ⟨w.heap.size,1,none⟩=some (.int .i64 ((xks.length-1:Nat) : Int)):=fun w' f=>d1 w' (fc.trans f)
   have HKA:=hidC (HCK.out.fr fc (by simp))
   have HFA:=hidC (HF1.out.trans fc)
   have HLI:Hid (((xks.length-1:Nat) : Int)≤50000):=by unfold Hid;omega
   clear c0 c1 c2 c3 k0 z3 n1 n2 n3 m1 m2 m3 d1 d3 bK HC HCK HJ HE HF1 ga
   go_upto_region 5 with (go_at_call 147;with_reducible (refine C147.mono ?_);rintro ex w2 ⟨rfl,f2,b2,m2⟩;have HH:=hidC (HW.out w2 f2 b2 m2);have HF2:=hidC f2;have G2:=f2;clear f2 b2 m2 HW C147)
   have a0:=r0 _ G2
   have a1:=r1 _ G2
   have a2:=r2 _ G2
   have a3:=r3 _ G2
   have hp5:=HLI.out
   go_wp2_with (go_at_call 69;with_reducible (refine (C69.out _).mono ?_);rintro ex w3 ⟨rfl,f3⟩;have HF3:=hidC f3;clear f3)
   clear a0 a1 a2 a3 C69
   have HF4:=hidC (HF2.out.trans HF3.out)
   have HH4:=hidC (HH.out.fr0 HF3.out)
   have HR4:Hid (ERes w R (match decsE G.L (((xks.take (xks.length-1)).drop 0).map Int.toNat) NM.nil with | .error e=>.error e | .ok m=>blockE G.L E [m] (kN G.L (kid G.L nd (xks.length-1))))):=by
    have h1:=HRR.out
    rw[HEN.out,← List.map_take] at h1
    exact h1
   clear HH HF2 HF3 HRR G2
   generalize hL1:xks.length-1=l1 at *
   have HL1:=hidC hL1
   clear hL1
   go_loopw [7,28] (fun _ ix wr=>∃ p:Nat,p≤l1∧ix = .int .i64 p∧Fr [] wA wr∧∃ cnt m,cnt≤p∧HdS G wr (wA.heap.size+1) wA.heap.size cnt (.pointer none) m []∧Hid (ERes w R (match decsE G.L (((xks.take l1).drop p).map Int.toNat) m with | .error e=>.error e | .ok m=>blockE G.L E [m] (kN G.L (kid G.L nd l1))))) (fun _ ix _=>l1-(intOf ix).toNat)
   case atStart=>exact⟨0,Nat.zero_le _,rfl,HF4.out,0,_,Nat.le_refl _,HH4.out,HR4.out⟩
   case round =>
    clear HF4 HH4 HR4
    obtain⟨p,hp,rfl,fw,cnt,m,hcnt,hh,hr⟩:=hrel
    have hl1:l1+1=xks.length:=by have:=HL1.out;omega
    have HHL:=hidC hl1
    by_cases hlt:p<l1
    ·have hpI:(p:Int)<l1:=by omega
     have hpx:p<xks.length:=by omega
     have hx:xks[p]? = some xks[p]:=List.getElem?_eq_getElem hpx
     obtain⟨h0,hxl⟩:=HKS.out xks[p] (List.getElem_mem _)
     have HRS:Hid (ERes w R (match ((match decE G.L (xks[p]).toNat m with | .error e=>.error e | .ok m'=>decsE G.L (((xks.take l1).drop (p+1)).map Int.toNat) m') : JE NM) with | .error e=>.error e | .ok m=>blockE G.L E [m] (kN G.L (kid G.L nd l1)))):=by
      have:=hr.out
      have ht:p<(xks.take l1).length:=by rw[List.length_take];omega
      rw[List.drop_eq_getElem_cons ht,List.map_cons,List.getElem_take] at this
      exact this
     have HJ2:=hidC (HJA.out.fr fw (by simp))
     have s1:wr.cell? ⟨wA.heap.size+1,1,none⟩=some (.map (some wA.heap.size)):=at_cells hh.blk 1 rfl
     obtain⟨b4,o4,e,hb4,hc4⟩:=(HKA.out.fr fw (by simp)) p _ hx
     cases e
     generalize xks[p]=z at *
     obtain⟨q,rfl⟩:=Int.eq_ofNat_of_zero_le h0
     rw[Int.toNat_natCast] at hxl HRS
     have hqI:(q:Int)<G.len:=by omega
     unfold decE at HRS
     have hql:q<G.len:=by omega
     have HHH:=hidC hh
     have HFW:=hidC fw
     clear hx h0 hr hl1 hpx
     cases hd:m (txN G.L q) with
     | some d =>
       rw[hd] at HRS
       have C102:=declare_no HJ2.out hql hh.ma hd
       have HT:=hidC (ERes.err HRS.out wr (HFA.out.trans fw))
       clear HRS hd hh
       generalize plN G.L q=pl at *
       unfold thr at *
       go_wp2_with (go_at_call 102;with_reducible (refine C102.mono ?_);rintro ex wq ⟨rfl,rfl⟩)
       exact⟨rfl,HT.out⟩
     | none =>
       rw[hd] at HRS
       have C102:=declare_yes HJ2.out hql hh.ma (by omega) hd
       clear hd hh fw
       go_wp2_with (go_at_call 102;with_reducible (refine C102.mono ?_);rintro ex wq ⟨rfl,hm3,hf3⟩;have HM3:=hidC hm3;have HF3:=hidC hf3;clear hm3 hf3)
       go_roundw
       case rel=>exact⟨p+1,hlt,by go_num,((HFW.out.sub (T:=[wA.heap.size]) (by simp)).trans HF3.out).sub (fun k hk=>.inr (by simp at hk;omega)),cnt+1,_,by omega,HHH.out.fr HF3.out HM3.out,HRS.out⟩
       case measure=>simp[intOf];omega
    ·have hpI:¬ (p:Int)<l1:=by omega
     have hr2:=hr.out
     rw[List.drop_of_length_le (by rw[List.length_take];omega)] at hr2
     have HR2:Hid (ERes w R (blockE G.L E [m] (kN G.L (kid G.L nd l1)))):=hr2
     obtain⟨z,hz⟩ : ∃ z,xks[l1]? = some z:=⟨_,List.getElem?_eq_getElem (by omega)⟩
     obtain⟨h0,hzl⟩:=HKS.out z (List.mem_of_getElem? hz)
     obtain⟨q,rfl⟩:=Int.eq_ofNat_of_zero_le h0
     rw[Int.toNat_natCast] at hzl
     have ek:kid G.L nd l1=q:=by unfold kid;rw[HEN.out];simp[hz]
     rw[ek] at HR2
     have HJ2:=hidC (HJA.out.fr fw (by simp))
     have HE2:=hidC (HEA.out.fr fw (by simp))
     obtain⟨y,b5,o5,hy,ha5,hb5,hc5⟩:=HJ2.out.node (show q<G.len by omega)
     have eY:kN G.L q=y.ks.map Int.toNat:=by unfold kN;rw[hy]
     have CB:Hid (Calls Tryz.prog 148 #[.pointer (some ⟨G.jb,0,none⟩),.slice y.a y.ks.length y.c,.pointer (some ⟨wA.heap.size+1,0,none⟩)] wr.drew (Looks wr.drew (blockE G.L E [m] (kN G.L q)))):=by
      have f:Fr [] wr wr.drew:=(Fr.refl _ _).drew
      exact block_cps (HJ2.out.fr f (by simp)) (HE2.out.fr f (by simp)) ((hh.fr0 f).chain (by omega)) (hc5.k.fr f (by simp)) rfl (HJ2.out.kb q y hy) (fun k hk=>by
       obtain⟨h0,h1⟩:=HA.out q y hy k hk
       exact⟨h0,HST.out k.toNat (by omega)⟩) (by rw[eY];exact Looks.res _ _)
     obtain⟨b4,o4,e,hb4,hc4⟩:=(HKA.out.fr fw (by simp)) l1 _ hz
     cases e
     have J0:∀ w',Fr [] wr w'→w'.cell? ⟨G.jb,0,none⟩=some (.slice (some ⟨b5,o5,none⟩) G.len G.cap):=fun w' f=>by
      have:=at_cells HJ2.out.blk 0 rfl
      rw[ha5] at this
      exact f.cell1 this (by simp)
     have R2:∀ w',Fr [] wr w'→w'.cell? ⟨kb,2,none⟩=some (.slice (some ⟨b3,o3,none⟩) xks.length xc):=fun w' f=>r2 w' (fw.trans f)
     have DD:∀ w',Fr [] wr w'→w'.cell? ⟨w.heap.size,1,none⟩=some (.int .i64 (l1:Int)):=fun w' f=>D1 w' (fw.trans f)
     have EE:∀ w',Fr [] wr w'→w'.cell? ⟨b3,o3+l1,none⟩=some (.int .i64 q):=fun w' f=>f.cell1 hc4 (by simp)
     have Y2:∀ w',Fr [] wr w'→w'.cell? ⟨b5,o5+q*4+2,none⟩=some (.slice y.a y.ks.length y.c):=fun w' f=>f.cell1 hc5.c2 (by simp)
     have HD:∀ w' : World,Fr [] wr w'→Fr [] wr w'.drew:=fun w' h=>h.drew
     have HFD:Fr [] wr wr.drew:=(Fr.refl _ _).drew
     have RF:Fr [] wr wr:=Fr.refl _ _
     have hqI:(q:Int)<G.len:=by omega
     have hlx:(l1:Int)<xks.length:=by omega
     have HFW:=hidC (HFA.out.trans fw)
     generalize blockE G.L E [m] (kN G.L q)=res at *
     have HT1:Hid (∀ p e,res = .error (p,e)→∀ w',Fr [] wr w'→R (thr p e) w'):=fun p e h w' f=>by
      have h1:=HR2.out
      rw[h] at h1
      exact h1 w' (HFW.out.trans f)
     have HT2:Hid (res = .ok ()→∀ w',Fr [] wr w'→R (.returned (.tuple #[])) w'):=fun h w' f=>by
      have h1:=HR2.out
      rw[h] at h1
      exact h1 w' (HFW.out.trans f)
     unfold thr at HT1
     obtain⟨yk,yt,ya,yc,yks,ypl⟩:=y
     simp only at *
     have CC:=CB.out
     clear hr hr2 hh r0 r1 r2 r3 D1 fw HR2 hc5 hc4 hz ek eY hy ha5 h0 hl1 CB HKA HKS
     go_upto_region 10 with fail
     go_region_held_law (fun w' : World=>Fr [] wr w')
      (with_reducible (first | assumption | exact HD _ (by assumption)))
      (first | (go_at_call 148;with_reducible (refine CC.mono ?_);intro ex wz hL;rcases hL.out with ⟨fz,(⟨p,e,he,rfl⟩ | ⟨he1,rfl⟩)⟩;(· unfold thr;show bodyPost Tryz.prog Tryz.f103 R (.panic _) _ _;exact bodyPost_panic rfl (HT1.out p e he _ (HFD.trans fz)));have FZ:Fr [] wr wz:=HFD.trans fz))
     all_goals
      have HX:=hidC (HT2.out he1 wz FZ)
      clear HT1 HT2 CC
      go_wp2
      go_end0
      exact HX.out
end Go.Proofs.YtnmfcaahdeddnaaGreatDoor.T5
namespace Go.Proofs.YtnmfcaahdeddnaaGreatDoor.T5
open Go.RowKit
set_option linter.unusedVariables false
set_option linter.unusedSimpArgs false
theorem nodes_pre {L:List Nd} {m:Nat} {T:List Bool} (h:nodesL L m = .ok T) {n:Nat} (hn:n≤m) : ∃ U,nodesL L n = .ok U:=by
 cases hu:nodesL L n with
 | ok U=>exact⟨U,rfl⟩
 | error e=>rw[nodes_stop hu m hn] at h;cases h
theorem nodes_at_ok {L:List Nd} {T:List Bool} (h:nodesL L L.length = .ok T) {i:Nat} {x:Nd} (hx:L[i]? = some x) : ∃ U V,nodesL L i = .ok U∧nodeE L i x U = .ok V:=by
 have hi:=(List.getElem?_eq_some_iff.1 hx).1
 obtain⟨W,hW⟩:=nodes_pre h (n:=i+1) (by omega)
 unfold nodesL at hW
 split at hW
 ·cases hW
 ·rename_i U hU
  rw[hx] at hW
  simp only at hW
  split at hW
  ·cases hW
  ·rename_i V hV
   exact⟨U,V,hU,hV⟩
theorem node_parts {L:List Nd} {n:Nat} {x:Nd} {U V:List Bool} (h:nodeE L n x U = .ok V) : (∃ t ls,wantL x.kind=some (t,ls)∧textL t x.text=true∧fitL ls (x.ks.map (kd L))=true)∧0≤x.pl∧takeL n x.ks U=some V:=by
 unfold nodeE at h
 split at h
 ·cases h
 ·rename_i t ls hw
  split at h
  ·cases h
  ·rename_i hp
   split at h
   ·cases h
   ·rename_i T' ht
    split at h
    ·cases h
    ·rename_i h1
     split at h
     ·cases h
     ·rename_i h2
      cases h
      exact⟨⟨t,ls,hw,by simpa using h1,by simpa using h2⟩,by omega,ht⟩
theorem kind_in {k:Int} {t:Nat} {ls:List UInt8} (h:wantL k=some (t,ls)) : 1≤k∧k≤30:=by
 rcases Int.lt_or_le k 1 with h1 | h1
 ·rw[lookup_want k (.inl h1)] at h;cases h
 ·rcases Int.lt_or_le 30 k with h2 | h2
  ·rw[lookup_want k (.inr h2)] at h;cases h
  ·exact⟨h1,h2⟩
structure Shp (L:List Nd) : Prop where
 sh:∀ (i:Nat) (x:Nd),L[i]? = some x→shapeL x.kind (x.ks.map (kd L))=true
 kr:∀ (i:Nat) (x:Nd),L[i]? = some x→1≤x.kind∧x.kind≤30
 pl:∀ (i:Nat) (x:Nd),L[i]? = some x→0≤x.pl
theorem shp_of {L:List Nd} {T:List Bool} (h:nodesL L L.length = .ok T) : Shp L:=by
 refine⟨fun i x hx=>?_,fun i x hx=>?_,fun i x hx=>?_⟩
 ·obtain⟨U,V,hU,hV⟩:=nodes_at_ok h hx
  obtain⟨⟨t,ls,hw,_,hf⟩,_,_⟩:=node_parts hV
  rw[← shape_fit _ t ls _ hw]
  exact hf
 ·obtain⟨U,V,hU,hV⟩:=nodes_at_ok h hx
  obtain⟨⟨t,ls,hw,_,hf⟩,_,_⟩:=node_parts hV
  exact kind_in hw
 ·obtain⟨U,V,hU,hV⟩:=nodes_at_ok h hx
  exact (node_parts hV).2.1
theorem len1 {l:List Int} (h:l.length=1) : ∃ a,l = [a]:=by
 match l,h with
 | [a],_=>exact⟨a,rfl⟩
theorem len2 {l:List Int} (h:l.length=2) : ∃ a b,l = [a,b]:=by
 match l,h with
 | [a,b],_=>exact⟨a,b,rfl⟩
theorem len3 {l:List Int} (h:l.length=3) : ∃ a b c,l = [a,b,c]:=by
 match l,h with
 | [a,b,c],_=>exact⟨a,b,c,rfl⟩
section
variable {L:List Nd} (S:Shp L) {i:Nat} {x:Nd} (hx:L[i]? = some x)
include S hx
theorem Shp.one (hk:x.kind=5∨x.kind=9∨x.kind=10∨x.kind=11∨x.kind=18∨x.kind=20∨x.kind=24∨x.kind=25∨x.kind=27∨x.kind=29) : ∃ a,x.ks = [a]∧isEx (kd L a)=true:=by
 have h:=S.sh i x hx
 rcases hk with e | e | e | e | e | e | e | e | e | e <;> rw[e] at h <;> simp[shapeL] at h <;> obtain⟨h1,h2⟩:=h <;> obtain⟨a,rfl'⟩:=len1 h2 <;> exact⟨a,rfl',h1 a (by simp[rfl'])⟩
theorem Shp.two (hk:x.kind=19∨x.kind=21∨x.kind=6) : ∃ a b,x.ks = [a,b]∧isEx (kd L a)=true∧isEx (kd L b)=true:=by
 have h:=S.sh i x hx
 rcases hk with e | e | e <;> rw[e] at h <;> simp[shapeL] at h
 ·obtain⟨h1,h2⟩:=h
  obtain⟨a,b,e⟩:=len2 h2
  exact⟨a,b,e,h1 a (by simp[e]),h1 b (by simp[e])⟩
 ·obtain⟨h1,h2⟩:=h
  obtain⟨a,b,e⟩:=len2 h2
  exact⟨a,b,e,h1 a (by simp[e]),h1 b (by simp[e])⟩
 ·obtain⟨⟨h1,h2⟩,_⟩:=h
  obtain⟨a,b,e⟩:=len2 h2
  exact⟨a,b,e,h1 a (by simp[e]),h1 b (by simp[e])⟩
theorem Shp.iff_ (hk:x.kind=7) : ∃ a b c,x.ks = [a,b,c]∧isEx (kd L a)=true∧kd L b=4∧(kd L c=4∨kd L c=14):=by
 have h:=S.sh i x hx
 rw[hk] at h
 simp[shapeL] at h
 obtain⟨⟨⟨h1,h2⟩,h3⟩,h4⟩:=h
 obtain⟨a,b,c,e⟩:=len3 h1
 rw[e] at h2 h3 h4
 simp at h2 h3 h4
 exact⟨a,b,c,e,h2,h3,h4⟩
theorem Shp.whl (hk:x.kind=8) : ∃ a b,x.ks = [a,b]∧isEx (kd L a)=true∧kd L b=4:=by
 have h:=S.sh i x hx
 rw[hk] at h
 simp[shapeL] at h
 obtain⟨⟨h1,h2⟩,h3⟩:=h
 obtain⟨a,b,e⟩:=len2 h1
 rw[e] at h2 h3
 simp at h2 h3
 exact⟨a,b,e,h2,h3⟩
theorem Shp.do_ (hk:x.kind=12) : ∃ a,x.ks = [a]∧kd L a=22:=by
 have h:=S.sh i x hx
 rw[hk] at h
 simp[shapeL] at h
 obtain⟨h1,h2⟩:=h
 obtain⟨a,e⟩:=len1 h1
 rw[e] at h2
 simp at h2
 exact⟨a,e,h2⟩
theorem Shp.fn (hk:x.kind=3) : ∃ ps b,x.ks=ps++[b]∧(∀ k∈ps,kd L k=17)∧kd L b=4:=by
 have h:=S.sh i x hx
 rw[hk] at h
 simp[shapeL] at h
 obtain⟨⟨h1,h2⟩,h3⟩:=h
 have hne:x.ks≠[]:=by intro e;rw[e] at h1;simp at h1
 refine⟨x.ks.dropLast,x.ks.getLast hne,(List.dropLast_concat_getLast hne).symm,fun k hk=>?_,?_⟩
 ·exact h2 _ (by rw[← List.map_take,← List.dropLast_eq_take];exact List.mem_map.2 ⟨k,hk,rfl⟩)
 ·rw[List.getLast?_eq_some_getLast hne] at h3
  simpa using h3
theorem Shp.many (hk:x.kind=2∨x.kind=13∨x.kind=22) : ∀ k∈x.ks,isEx (kd L k)=true:=by
 have h:=S.sh i x hx
 rcases hk with e | e | e <;> rw[e] at h <;> simp[shapeL] at h
 ·intro k hk;rw[h k hk];rfl
 ·intro k hk;rw[h k hk];rfl
 ·exact h
theorem Shp.blk (hk:x.kind=4) : ∀ k∈x.ks,isSt (kd L k)=true:=by
 have h:=S.sh i x hx
 rw[hk] at h
 simp[shapeL] at h
 exact h
theorem Shp.prg (hk:x.kind=1) : ∀ k∈x.ks,kd L k=2∨kd L k=3:=by
 have h:=S.sh i x hx
 rw[hk] at h
 simp[shapeL] at h
 exact h
theorem Shp.nil (hk:x.kind=14∨x.kind=15∨x.kind=16∨x.kind=17∨x.kind=23∨x.kind=26∨x.kind=28∨x.kind=30) : x.ks = []:=by
 have h:=S.sh i x hx
 rcases hk with e | e | e | e | e | e | e | e <;> rw[e] at h <;> simpa [shapeL] using h
end
theorem kd_kdN (L:List Nd) (k:Int) : kd L k=kdN L k.toNat:=rfl
theorem mem_kN {L:List Nd} {n k:Nat} (h:k∈kN L n) : ∃ x q,L[n]? = some x∧q∈x.ks∧q.toNat=k:=by
 unfold kN at h
 cases hx:L[n]? with
 | none=>rw[hx] at h;simp at h
 | some x =>
   rw[hx] at h
   obtain⟨q,hq,e⟩:=List.mem_map.1 h
   exact⟨x,q,rfl,hq,e⟩
theorem kdN_some {L:List Nd} {n:Nat} {c:Int} (h:kdN L n=c) (hc:c≠0) : ∃ x,L[n]? = some x∧x.kind=c:=by
 unfold kdN at h
 cases hx:L[n]? with
 | none=>rw[hx] at h;exact absurd h.symm hc
 | some x=>rw[hx] at h;exact⟨x,rfl,h⟩
theorem kN_some {L:List Nd} {n:Nat} {x:Nd} (hx:L[n]? = some x) : kN L n=x.ks.map Int.toNat:=by unfold kN;rw[hx]
theorem kdN_of {L:List Nd} {n:Nat} {x:Nd} (hx:L[n]? = some x) : kdN L n=x.kind:=by unfold kdN;rw[hx]
theorem Shp.shOk {L:List Nd} (S:Shp L) : ShOk L:=fun n=>⟨fun h=>by
 obtain⟨x,hx,hk⟩:=kdN_some h (by decide)
 obtain⟨a,b,c,e,_⟩:=S.iff_ hx hk
 rw[kN_some hx,e];simp,fun h=>by
 obtain⟨x,hx,hk⟩:=kdN_some h (by decide)
 obtain⟨a,b,e,_⟩:=S.whl hx hk
 rw[kN_some hx,e];simp⟩
theorem Shp.fnPos {L:List Nd} (S:Shp L) {n:Nat} (h:kdN L n=3) : n<L.length∧0<(kN L n).length:=by
 obtain⟨x,hx,hk⟩:=kdN_some h (by decide)
 obtain⟨ps,b,e,_⟩:=S.fn hx hk
 refine⟨(List.getElem?_eq_some_iff.1 hx).1,?_⟩
 rw[kN_some hx,e];simp
def Led (K:Nat→Int) (T:List (Nat×Nat)) : Prop:=∀ d t r,T=d++t::r→K t.1=5→∃ s∈d,K s.1=3
theorem Led.flat {K:Nat→Int} {α:Type} (g:α→List (Nat×Nat)) : ∀ (l:List α),(∀ a∈l,(∀ t∈g a,K t.1≠5)∨∃ s r,g a=s::r∧K s.1=3)→Led K (l.flatMap g)
 | [],_=>fun d t r h=>by simp at h
 | a::l,H=>by
   intro d t r h hk
   rw[List.flatMap_cons] at h
   rcases List.append_eq_append_iff.1 h with ⟨b,e1,e2⟩ | ⟨b,e1,e2⟩
   ·obtain⟨s,hs,hs3⟩:=Led.flat g l (fun a ha=>H a (by simp[ha])) b t r e2 hk
    exact⟨s,by rw[e1];simp[hs],hs3⟩
   ·cases b with
    | nil =>
      simp only[List.nil_append] at e2
      simp only[List.append_nil] at e1
      obtain⟨s,hs,hs3⟩:=Led.flat g l (fun a ha=>H a (by simp[ha])) [] t r (by simpa using e2.symm) hk
      simp at hs
    | cons c b =>
      simp only[List.cons_append,List.cons.injEq] at e2
      obtain⟨rfl,e2⟩:=e2
      rcases H a (by simp) with h1 | ⟨s,q,e3,hs⟩
      ·exact absurd hk (h1 t (by rw[e1];simp))
      ·cases d with
       | nil =>
         rw[e3] at e1
         simp at e1
         obtain⟨rfl,_⟩:=e1
         rw[hs] at hk;exact absurd hk (by decide)
       | cons d0 d =>
         rw[e3] at e1
         simp at e1
         exact⟨d0,by simp,by rw[← e1.1];exact hs⟩
theorem wk_names {L:List Nd} (hA:Ahead L) (S:Shp L) {n d:Nat} (h:kdN L n=17) : wk L n d = [(n,d)]:=by
 obtain⟨x,hx,hk⟩:=kdN_some h (by decide)
 rw[wk_eq hA,kN_some hx,S.nil hx (by omega)]
 rfl
theorem Shp.rec_ {L:List Nd} (S:Shp L) {n:Nat} {x:Nd} (hx:L[n]? = some x) (hk:x.kind=2∨x.kind=13) : ∀ k∈x.ks,kd L k=17:=by
 have h:=S.sh n x hx
 rcases hk with e | e <;> rw[e] at h <;> simp[shapeL] at h <;> exact h
theorem tree_led {L:List Nd} (hA:Ahead L) (S:Shp L) {n:Nat} (h1:kdN L n=1) : Led (kdN L) (wk L n 0):=by
 obtain⟨x,hx,hk⟩:=kdN_some h1 (by decide)
 rw[wk_eq hA]
 intro d t r h hk5
 cases d with
 | nil =>
   simp at h
   rw[← h.1] at hk5
   simp only at hk5
   rw[h1] at hk5;exact absurd hk5 (by decide)
 | cons d0 d =>
   simp only[List.cons_append,List.cons.injEq] at h
   obtain⟨s,hs,h3⟩:=Led.flat (K:=kdN L) (fun k=>wk L k (0+1)) (kN L n) (fun k hk'=>by
    obtain⟨x',q,hx',hq,rfl⟩:=mem_kN hk'
    rw[hx] at hx'
    cases hx'
    rcases S.prg hx hk q hq with h2 | h3
    ·left
     rw[kd_kdN] at h2
     obtain⟨y,hy,hyk⟩:=kdN_some h2 (by decide)
     intro t ht
     rw[wk_eq hA,List.mem_cons,List.mem_flatMap] at ht
     rcases ht with rfl | ⟨j,hj,ht⟩
     ·simp only;rw[h2];decide
     ·obtain⟨y',p,hy',hp,rfl⟩:=mem_kN hj
      rw[hy] at hy'
      cases hy'
      have h17:=S.rec_ hy (.inl hyk) p hp
      rw[kd_kdN] at h17
      rw[wk_names hA S h17] at ht
      simp at ht
      rw[ht]
      simp only
      rw[h17];decide
    ·right
     rw[kd_kdN] at h3
     exact⟨_,_,wk_eq hA _ _,h3⟩) d t r h.2 hk5
   exact⟨s,by simp[hs],h3⟩
theorem count_le_one {L:List Nd} {T:List Bool} (h:nodesL L L.length = .ok T) {i:Nat} {x:Nd} (hx:L[i]? = some x) (m:Nat) : (kN L i).count m≤1:=by
 obtain⟨U,V,hU,hV⟩:=nodes_at_ok h hx
 have h1:=(node_parts hV).2.2
 have hl:=nodes_length _ _ hU
 have:=take_count _ _ _ h1 (by have:=(List.getElem?_eq_some_iff.1 hx).1;omega) m
 rw[kN_some hx]
 have hb:∀ b,b2n b≤1:=by intro b;cases b <;> decide
 have:=hb (V.getD m false)
 omega
theorem sumN_le {n:Nat} {f g:Nat→Nat} (h:∀ i,i<n→f i≤g i) : sumN n f≤sumN n g:=by
 induction n with
 | zero=>exact Nat.le_refl _
 | succ n ih=>simp only[sumN];have:=ih (fun i hi=>h i (by omega));have:=h n (by omega);omega
theorem kids_few {L:List Nd} {T:List Bool} (h:nodesL L L.length = .ok T) {i:Nat} {x:Nd} (hx:L[i]? = some x) : x.ks.length≤i:=by
 have hA:∀ k∈x.ks,0≤k∧k<i:=fun k hk=>nodes_in _ _ h i x (List.getElem?_eq_some_iff.1 hx).1 hx k hk
 have h1:=sum_count (n:=i) (fun _=>1) (kN L i) (fun p hp=>by
  obtain⟨y,q,hy,hq,rfl⟩:=mem_kN hp
  rw[hx] at hy
  cases hy
  have:=hA q hq
  omega)
 rw[List.map_const',List.sum_replicate_nat,Nat.mul_one] at h1
 have h2:sumN i (fun p=>(kN L i).count p*1)≤sumN i (fun _=>1):=sumN_le (fun p _=>by have:=count_le_one h hx p;omega)
 rw[sumN_ones] at h2
 rw[kN_some hx,List.length_map] at h1
 rw[kN_some hx] at h2
 omega
end Go.Proofs.YtnmfcaahdeddnaaGreatDoor.T5
namespace Go.Proofs.YtnmfcaahdeddnaaGreatDoor.T5
open Go.RowKit Go.Maps
set_option linter.unusedVariables false
set_option linter.unusedSimpArgs false
theorem info9:(Tryz.prog.info? 9).map (fun i=>(i.zero,i.size,i.bytes))=some (some (.string ⟨#[]⟩),1,16):=by kernel_rfl
theorem under56:Tryz.prog.underlying 56=some (.slice 9):=by kernel_rfl
def stC (l:List ByteArray) : List Value:=l.map Value.string
theorem new_one (X:World) (v:Value) (t:TypeId) : ∀ j u,[v][j]? = some u→(X.alloc (.cells #[v] t)).cell? ((⟨X.heap.size,0,none⟩ : Addr).add j)=some u:=by
 intro j u hu
 have hadd:(⟨X.heap.size,0,none⟩ : Addr).add j = ⟨X.heap.size,j,none⟩:=by unfold Addr.add;split <;> simp_all
 rw[hadd]
 exact at_cells (heap_alloc_new X _) j (by simpa using hu)
set_option maxHeartbeats 4000000 in
theorem texts_any (B:Nat) (L:List Nd) (w:World) (a:Option Addr) (len cap:Nat) (hlen:L.length=len) (hL:NAt B w a L) (hlm:len≤50000) {ka:Option Addr} {kn kc:Nat} {ks:List Int} (hk:KAt B w ka ks) (hkn:ks.length=kn) (hkm:kn≤50000) (hks:∀ k∈ks,0≤k∧k<len) :
 Calls Tryz.prog 68 #[.slice a len cap,.slice ka kn kc] w fun e w'=>∃ v,e = .returned v∧w'.ownsRow w.heap.size 9 1 v kn (stC (ks.map (fun k=>tbN L k.toNat)))∧Fr [] w w' := by
 obtain⟨i9,hi,hz,hz1,hby⟩:=info_parts info9
 have HLN:=hidC hlen
 have HKN:=hidC hkn
 have HL:=hidC hL
 have HK:=hidC hk
 have HKS:=hidC hks
 have hlI:(len:Int)≤50000:=by omega
 have hkI:(kn:Int)≤50000:=by omega
 clear hlen hkn hL hk hks
 go_enter Tryz.func68,Tryz.ntmps68
 go_wp2
 go_loopw [5,7,10] (fun v _ ix wr=>∃ p:Nat,p≤kn∧ix = .int .i64 p∧wr.ownsRow w.heap.size 9 1 v p (stC ((ks.map (fun k=>tbN L k.toNat)).take p))∧Fr [] w wr) (fun _ _ ix _=>kn-(intOf ix).toNat)
 case atStart=>exact⟨0,Nat.zero_le _,rfl,World.ownsRow_nil _ _ _ _,Fr.refl _ _⟩
 case round =>
  obtain⟨p,hp,rfl,ho,fw⟩:=hrel
  by_cases hlt:p<kn
  ·have hpI:(p:Int)<kn:=by omega
   have hpk:p<ks.length:=by rw[HKN.out];exact hlt
   have hx:ks[p]? = some ks[p]:=List.getElem?_eq_getElem hpk
   obtain⟨h0,hz'⟩:=HKS.out ks[p] (List.getElem_mem _)
   have HT:Hid ((ks.map (fun k=>tbN L k.toNat)).take (p+1)=(ks.map (fun k=>tbN L k.toNat)).take p++[tbN L (ks[p]).toNat]):=by
    unfold Hid
    rw[List.take_add_one,List.getElem?_map,hx]
    simp
   obtain⟨b,o,e,hb,hc⟩:=(HK.out.fr fw (by simp)) p _ hx
   subst e
   generalize ks[p]=z at *
   obtain⟨q,rfl⟩:=Int.eq_ofNat_of_zero_le h0
   rw[Int.toNat_natCast] at HT
   have hql:q<L.length:=by rw[HLN.out];omega
   have hy:L[q]? = some L[q]:=List.getElem?_eq_getElem hql
   obtain⟨b2,o2,e2,hb2,hc2⟩:=(HL.out.fr fw (by simp)) q _ hy
   subst e2
   have eT:tbN L q=(L[q]).text:=by unfold tbN;rw[hy]
   rw[eT] at HT
   have c1:=hc2.c1
   generalize (L[q]).text=tx at *
   obtain⟨av,cv,rfl,_⟩:=own_slice ho
   have f1:Fr [] wr (wr.alloc (.cells #[.string tx] 9)):=(Fr.refl _ _).alloc _
   have hsz:=fw.size
   have HO:=hidC ho
   have HFW:=hidC fw
   clear hx h0 hy hc2 eT ho fw
   go_wp2_with (at_builtin;refine wpList_append_own_at _ rfl _ _ 56 rfl w.heap.size 9 i9 (.string ⟨#[]⟩) 1 16 under56 hi hz hz1 hby rfl (by decide) (.slice av p cv) p _ rfl (HO.out.alloc _) ⟨wr.heap.size,0,none⟩ 1 1 [.string tx] rfl rfl (new_one wr _ _) (by simp[Value.oneCell']) (by unfold maxLen;omega) (by omega) (by simp;omega) ?_)
   intro v1 w1 hown1 hgrow hnil hloc
   have HF1:Hid (Fr [] w w1):=(HFW.out.trans f1).over ((Fr.ofGrown hgrow).sub (fun k hk=>.inl hk)) (fun k hk=>by simp only[Option.mem_toList] at hk;exact (HO.out.lt k hk).1)
   have HO1:Hid (w1.ownsRow w.heap.size 9 1 v1 (p+1) (stC ((ks.map (fun k=>tbN L k.toNat)).take (p+1)))):=by
    unfold Hid
    rw[HT.out,stC,List.map_append]
    exact hown1
   obtain⟨a1,c1,hv1,_⟩:=own_slice hown1
   subst hv1
   clear hown1 hgrow hnil hloc f1 HT
   go_wp2
   go_roundw
   case rel=>exact⟨p+1,hlt,by go_num,HO1.out,HF1.out⟩
   case measure=>simp[intOf];omega
  ·have hpI:¬ (p:Int)<kn:=by omega
   have hpe:p=kn:=by omega
   subst hpe
   rw[List.take_of_length_le (by rw[List.length_map,HKN.out];exact Nat.le_refl _)] at ho
   obtain⟨av,cv,rfl,_⟩:=own_slice ho
   have HO:=hidC ho
   clear ho
   go_wp2
   go_ret
   exact⟨_,rfl,HO.out,fw⟩
structure FnC where
 nm:ByteArray
 va:Option Addr
 vn:Nat
 vc:Nat
 nd:Nat
structure FCell (w:World) (b o:Nat) (pr:Nat) (x:FnC) : Prop where
 c0:w.cell? ⟨b,o,none⟩=some (.string x.nm)
 c1:w.cell? ⟨b,o+1,none⟩=some (.int .i64 pr)
 c2:w.cell? ⟨b,o+2,none⟩=some (.slice x.va x.vn x.vc)
 c3:w.cell? ⟨b,o+3,none⟩=some (.int .i64 x.nd)
def FsAt (L:List Nd) (B:Nat) (w:World) (a:Option Addr) (F:List FnC) : Prop:=∀ (i:Nat) (x:FnC),F[i]? = some x→∃ b o,a=some ⟨b,o,none⟩∧b<B∧FCell w b (o+i*4) ((kN L x.nd).length-1) x
theorem FsAt.fr {L:List Nd} {B:Nat} {S:List Nat} {w w' : World} {a:Option Addr} {F:List FnC} (h:FsAt L B w a F) (f:Fr S w w') (hS:∀ k,k∈S→B≤k) : FsAt L B w' a F:=fun i x hx=>by
 obtain⟨b,o,e,hb,hc⟩:=h i x hx
 have hn:b∉S:=fun hm=>by have:=hS _ hm;omega
 exact⟨b,o,e,hb,⟨f.cell1 hc.c0 hn,f.cell1 hc.c1 hn,f.cell1 hc.c2 hn,f.cell1 hc.c3 hn⟩⟩
def FsOk (L:List Nd) (F:List FnC) : Prop:=∀ x∈F,x.nd<L.length∧0<(kN L x.nd).length∧x.vn≤1000000
def funsP (L:List Nd) (E:Env) : List FnC→JE Unit
 | []=>.ok ()
 | f::r=>match fnE L E f.vn f.nd with | .error e=>.error e | .ok _=>funsP L E r
def mainP (L:List Nd) (rc fl fn:NM) (F:List FnC) : JE Unit:=match fn mainB with
 | none=>.error (0,83)
 | some k=>if 0<(kN L k).length-1 then .error (0,83) else funsP L ⟨fl,rc,fn⟩ F
def decP (L:List Nd) (rc fl:NM) (F:List FnC) : JE Unit:=match decsE L (F.map FnC.nd) NM.nil with
 | .error e=>.error e
 | .ok fn=>mainP L rc fl fn F
def judgeP (L:List Nd) (ns:Nat) (F:List FnC) : JE Unit :=
 if 100<ns∨200<F.length then .error (0,2)
 else match recsE L (kN L (L.length-1)) NM.nil NM.nil with
  | .error e=>.error e
  | .ok (rc,fl)=>decP L rc fl F
theorem recsE_cons (L:List Nd) (k:Nat) (r:List Nat) (rc fl:NM) : recsE L (k::r) rc fl=if kdN L k=2 then (match recE L k rc fl with | .error e=>.error e | .ok (rc',fl')=>recsE L r rc' fl') else recsE L r rc fl:=by
 unfold recE
 conv=>lhs;unfold recsE
 split
 ·cases decE L k rc with
  | error e=>rfl
  | ok rc' =>
    simp only
    split
    ·rfl
    ·cases decsE L (kN L k) fl with
     | error e=>rfl
     | ok fl'=>rfl
 ·rfl
theorem decs_from {L:List Nd} : ∀ {l:List Nat} {m m' : NM},decsE L l m = .ok m'→∀ {k f},m' k=some f→f∈l∨m k=some f
 | [],m,m',h,k,f,hf=>by
   unfold decsE at h
   cases h
   exact .inr hf
 | n::l,m,m',h,k,f,hf=>by
   unfold decsE at h
   cases hd:decE L n m with
   | error e=>rw[hd] at h;cases h
   | ok m1 =>
     rw[hd] at h
     rcases decs_from h hf with h1 | h1
     ·exact .inl (by simp[h1])
     ·unfold decE at hd
      split at hd
      ·cases hd
      ·cases hd
       unfold NM.put at h1
       split at h1
       ·cases h1;exact .inl (by simp)
       ·exact .inr h1
def PRes (G:JG) (w:World) (R:Ending→World→Prop) : JE Unit→Prop
 | .ok _=>∀ w',Fr [G.mr,G.mf,G.mn] w w'→R (.returned (.tuple #[])) w'
 | .error (p,e)=>∀ w',Fr [G.mr,G.mf,G.mn] w w'→R (thr p e) w'
theorem PRes.ok {G:JG} {w:World} {R:Ending→World→Prop} {u:Unit} (h:PRes G w R (.ok u)) : ∀ w',Fr [G.mr,G.mf,G.mn] w w'→R (.returned (.tuple #[])) w' := h
theorem PRes.err {G:JG} {w:World} {R:Ending→World→Prop} {p:Int} {e:Nat} (h:PRes G w R (.error (p,e))) : ∀ w',Fr [G.mr,G.mf,G.mn] w w'→R (thr p e) w' := h
structure JD (G:JG) : Prop where
 rf:G.mr≠G.mf
 rn:G.mr≠G.mn
 fn:G.mf≠G.mn
 rj:G.mr≠G.jb
 fj:G.mf≠G.jb
 nj:G.mn≠G.jb
set_option maxHeartbeats 8000000 in
theorem program_cps {G:JG} (hA:Ahead G.L) (hSh:ShOk G.L) {w:World} {R:Ending→World→Prop} (hJ:JI G w) (hD:JD G) (hr:MA w G.mr 0 NM.nil) (hf:MA w G.mf 0 NM.nil) (hn:MA w G.mn 0 NM.nil) (h0:0<G.len)
 {F:List FnC} {sa:Option Addr} {ns sc:Nat} (hns:ns≤50000) {fa:Option Addr} {fn fc:Nat} (hfn:F.length=fn) (hfm:fn≤50000) (hF:FsAt G.L G.B w fa F) (hOk:FsOk G.L F) (mn:Int) (mv:Value)
 (hR:PRes G w R (judgeP G.L ns F)) : Calls Tryz.prog 71 #[.pointer (some ⟨G.jb,0,none⟩),.agg #[.slice sa ns sc,.slice fa fn fc,.int .i64 mn,mv]] w R:=by
 have hlm:=hJ.lm
 have hlI:(G.len:Int)≤50000:=by omega
 have h0I:(0:Int)<G.len:=by omega
 have hnsI:(ns:Int)≤50000:=by omega
 have hfmI:(fn:Int)≤50000:=by omega
 have F1:Fr [] w (w.alloc (.cells #[.slice sa ns sc,.slice fa fn fc,.int .i64 mn,mv] 28)):=(Fr.refl _ _).alloc _
 have bx:=heap_alloc_new w (.cells #[.slice sa ns sc,.slice fa fn fc,.int .i64 mn,mv] 28)
 obtain⟨x,b,o,hx,ha,hb,hc⟩:=hJ.node (n:=G.len-1) (by omega)
 have eN:kN G.L (G.len-1)=x.ks.map Int.toNat:=by unfold kN;rw[hx]
 have hkm:x.ks.length≤50000:=hJ.kb _ x hx
 have HKS:Hid (∀ k∈x.ks,0≤k∧k.toNat<G.len):=fun k hk=>by
  obtain⟨q0,q1⟩:=hA _ x hx k hk
  exact⟨q0,by omega⟩
 unfold judgeP at hR
 rw[hJ.ln,eN,hfn] at hR
 have HLN:=hidC hfn
 have NW:Hid (w.heap.size≠G.mr∧w.heap.size≠G.mf∧w.heap.size≠G.mn):=by
  have h1:=hr.lt
  have h2:=hf.lt
  have h3:=hn.lt
  unfold Hid
  omega
 have HJ:=hidC hJ
 have HD:=hidC hD
 have HR:=hidC hR
 have HMR:=hidC hr
 have HMF:=hidC hf
 have HMN:=hidC hn
 have HFS:=hidC hF
 have HOK:=hidC hOk
 have HCC:=hidC hc
 have HA0:=hidC ha
 have HSH:=hidC hSh
 have HA:=hidC hA
 have HF1:=hidC F1
 clear hJ hD hR hr hf hn hF hOk hc hx eN hfn
 by_cases hbig:100<ns∨200<fn
 ·rw[if_pos hbig] at HR
  have C100:Calls Tryz.prog 100 #[.pointer (some ⟨G.jb,0,none⟩),.int .i64 2] (w.alloc (.cells #[.slice sa ns sc,.slice fa fn fc,.int .i64 mn,mv] 28)) (fun ex w'=>ex=thr 0 2∧w' = (w.alloc (.cells #[.slice sa ns sc,.slice fa fn fc,.int .i64 mn,mv] 28))):=whole_any G.jb _ 2
  have HT:=hidC (PRes.err HR.out _ (F1.sub (by simp)))
  clear HR HKS
  unfold thr at *
  have c0:=at_cells bx 0 rfl
  have c1:=at_cells bx 1 rfl
  by_cases h1:100<ns
  ·have h1I:(100:Int)<ns:=by omega
   go_enter Tryz.func71,Tryz.ntmps71
   go_wp2_with (go_at_call 100;with_reducible (refine C100.mono ?_);rintro ex wq ⟨rfl,rfl⟩)
   exact⟨rfl,HT.out⟩
  ·have h1I:¬ (100:Int)<ns:=by omega
   have h2I:(200:Int)<fn:=by omega
   go_enter Tryz.func71,Tryz.ntmps71
   go_wp2_with (go_at_call 100;with_reducible (refine C100.mono ?_);rintro ex wq ⟨rfl,rfl⟩)
   exact⟨rfl,HT.out⟩
 ·rw[if_neg hbig] at HR
  have h1I:¬ (100:Int)<ns:=by omega
  have h2I:¬ (200:Int)<fn:=by omega
  have hc1:=HCC.out.fr F1 hb (by simp)
  have k0:(w.alloc (.cells #[.slice sa ns sc,.slice fa fn fc,.int .i64 mn,mv] 28)).cell? ⟨G.jb,0,none⟩=some (.slice G.a G.len G.cap):=at_cells (HJ.out.fr F1 (by simp)).blk 0 rfl
  rw[HA0.out] at k0
  have c0:=at_cells bx 0 rfl
  have c1:=at_cells bx 1 rfl
  have HJ1:=hidC (HJ.out.fr F1 (by simp))
  have HMR1:=hidC (HMR.out.fr F1 (by simp))
  have HMF1:=hidC (HMF.out.fr F1 (by simp))
  have HMN1:=hidC (HMN.out.fr F1 (by simp))
  have HFS1:=hidC (HFS.out.fr F1 (by simp))
  have d1:Hid (∀ S w',Fr S (w.alloc (.cells #[.slice sa ns sc,.slice fa fn fc,.int .i64 mn,mv] 28)) w'→w.heap.size∉S→w'.cell? ⟨w.heap.size,1,none⟩=some (.slice fa fn fc)):=fun S w' f hS=>f.cell1 c1 hS
  clear HMR HMF HMN HFS HJ HCC
  have hlI' : ((G.len-1:Nat) : Int)=(G.len:Int)-1:=by omega
  have HCK:=hidC hc1.k
  obtain⟨q0,q1,q2,q3,ck,ct,ckl,ckc,ckn⟩:=hc1
  obtain⟨xk,xt,xa,xc,xks,xpl⟩:=x
  simp only at *
  clear ck ct ckl ckc ckn q0 q1 q3
  go_enter Tryz.func71,Tryz.ntmps71
  go_upto_region 3 with fail
  generalize w.alloc (.cells #[.slice sa ns sc,.slice fa fn fc,.int .i64 mn,mv] 28)=W1 at *
  have hkI:(xks.length:Int)≤50000:=by omega
  rw[hlI'] at *
  go_quiet (fail)
  have FD:Fr [] W1 (W1.drewN nq):=(Fr.refl _ _).drewN nq
  have HJ2:=hidC (HJ1.out.fr FD (by simp))
  have HMR2:=hidC (HMR1.out.fr FD (by simp))
  have HMF2:=hidC (HMF1.out.fr FD (by simp))
  have HMN2:=hidC (HMN1.out.fr FD (by simp))
  have HFS2:=hidC (HFS1.out.fr FD (by simp))
  have HCK2:=hidC (HCK.out.fr FD (by simp))
  have HD1:Hid (∀ S w',Fr S (W1.drewN nq) w'→w.heap.size∉S→w'.cell? ⟨w.heap.size,1,none⟩=some (.slice fa fn fc)):=fun S w' f hS=>d1.out S w' ((FD.sub (by simp)).trans f) hS
  have HF2:=hidC (HF1.out.trans FD)
  clear HJ1 HMR1 HMF1 HMN1 HFS1 HCK d1 k0 c0 c1 bx F1 HF1 FD q2
  generalize W1.drewN nq=W2 at *
  go_wp2
  go_loopw [5,38] (fun _ ix wr=>∃ p:Nat,p≤xks.length∧ix = .int .i64 p∧Fr [G.mr,G.mf] W2 wr∧∃ cr cf rc fl,cr≤p∧cf≤100*p∧MA wr G.mr cr rc∧MA wr G.mf cf fl∧Hid (PRes G w R (match recsE G.L ((xks.drop p).map Int.toNat) rc fl with | .error e=>.error e | .ok (rc,fl)=>decP G.L rc fl F))) (fun _ ix _=>xks.length-(intOf ix).toNat)
  case atStart=>exact⟨0,Nat.zero_le _,rfl,Fr.refl _ _,0,0,_,_,Nat.le_refl _,by omega,HMR2.out,HMF2.out,HR.out⟩
  case round =>
   clear HR HMR2 HMF2
   obtain⟨p,hp,rfl,fw,cr,cf,rc,fl,hcr,hcf,hmr,hmf,hr⟩:=hrel
   have LF:Hid (∀ w',Fr [G.mr,G.mf] W2 w'→Fr [G.mr,G.mf,G.mn] w w'):=fun w' f=>(HF2.out.sub (by simp)).trans (f.sub (by simp))
   have HJ3:=hidC (HJ2.out.fr fw (by have:=HJ2.out.lr;have:=HJ2.out.lf;have:=HD.out.rj;have:=HD.out.fj;simp;omega))
   by_cases hlt:p<xks.length
   ·have hpI:(p:Int)<xks.length:=by omega
    have hx:xks[p]? = some xks[p]:=List.getElem?_eq_getElem hlt
    obtain⟨h0,hxl⟩:=HKS.out xks[p] (List.getElem_mem _)
    have HRS:Hid (PRes G w R (match recsE G.L ((xks[p]).toNat::(xks.drop (p+1)).map Int.toNat) rc fl with | .error e=>.error e | .ok (rc,fl)=>decP G.L rc fl F)):=by
     have:=hr.out
     rw[List.drop_eq_getElem_cons hlt,List.map_cons] at this
     exact this
    rw[recsE_cons] at HRS
    obtain⟨b3,o3,e,hb3,hc3⟩:=(HCK2.out.fr fw (by have:=HJ2.out.lr;have:=HJ2.out.lf;simp;omega)) p _ hx
    subst e
    generalize xks[p]=z at *
    obtain⟨q,rfl⟩:=Int.eq_ofNat_of_zero_le h0
    rw[Int.toNat_natCast] at hxl HRS
    have hqI:(q:Int)<G.len:=by omega
    obtain⟨y,b4,o4,hy,ha4,hb4,hc4⟩:=HJ3.out.node hxl
    have j0:wr.cell? ⟨G.jb,0,none⟩=some (.slice G.a G.len G.cap):=at_cells HJ3.out.blk 0 rfl
    rw[ha4] at j0
    have eK:kdN G.L q=y.kind:=by unfold kdN;rw[hy]
    rw[eK] at HRS
    have y0:=hc4.c0
    generalize y.kind=yk at *
    have HFW:=hidC fw
    have HCR:=hidC hmr
    have HCF:=hidC hmf
    have HBN:=hidC (show cr≤100000∧cf≤10000000 by omega)
    clear hx h0 hr hy ha4 hc4 eK fw hmr hmf
    by_cases h2:yk=2
    ·subst h2
     rw[if_pos rfl] at HRS
     go_wp2_with fail
     refine record_cps HA.out HJ3.out HCR.out HCF.out HD.out.rf HD.out.rj HD.out.fj HBN.out.1 HBN.out.2 hxl ?_
     cases hq:recE G.L q rc fl with
     | error pe =>
       obtain⟨pp,ee⟩:=pe
       rw[hq] at HRS
       intro w' f'
       exact⟨rfl,HRS.out w' (LF.out w' (HFW.out.trans f'))⟩
     | ok m' =>
       obtain⟨rc',fl'⟩:=m'
       rw[hq] at HRS
       intro w' cr' cf' f' h1 h2' hm1 hm2
       have HB2:=hidC (show cr'≤p+1∧cf'≤100*(p+1) by omega)
       have HF3:=hidC (HFW.out.trans f')
       have HX1:=hidC hm1
       have HX2:=hidC hm2
       clear hq LF f' h1 h2' hm1 hm2 HFW HCR HCF HJ3
       go_wp2
       go_roundw
       case rel=>exact⟨p+1,hlt,by go_num,HF3.out,cr',cf',rc',fl',HB2.out.1,HB2.out.2,HX1.out,HX2.out,HRS.out⟩
       case measure=>simp[intOf];omega
    ·rw[if_neg h2] at HRS
     have h2b:(yk == 2)=false:=by simpa using h2
     clear LF HJ3
     go_wp2
     go_roundw
     case rel=>exact⟨p+1,hlt,by go_num,HFW.out,cr,cf,rc,fl,by omega,by omega,HCR.out,HCF.out,HRS.out⟩
     case measure=>simp[intOf];omega
   ·have hpI:¬ (p:Int)<xks.length:=by omega
    have hr2:=hr.out
    rw[List.drop_of_length_le (by omega)] at hr2
    have HR2:Hid (PRes G w R (decP G.L rc fl F)):=hr2
    obtain⟨wA,hwA⟩ : ∃ x:World,x=wr:=⟨_,rfl⟩
    subst hwA
    have HFS3:=hidC (HFS2.out.fr fw (by have:=HJ2.out.lr;have:=HJ2.out.lf;simp;omega))
    have HMN3:=hidC (HMN2.out.fr fw (by have:=HD.out.rn;have:=HD.out.fn;simp;omega))
    have nW:w.heap.size≠G.mr∧w.heap.size≠G.mf∧w.heap.size≠G.mn:=by
     have hh:=(Array.getElem?_eq_some_iff.1 HJ2.out.blk).1
     exact NW.out
    have HD2:Hid (∀ S w',Fr S wA w'→w.heap.size∉S→w'.cell? ⟨w.heap.size,1,none⟩=some (.slice fa fn fc)):=fun S w' f hS=>HD1.out ([G.mr,G.mf]++S) w' ((fw.sub (fun k hk=>.inl (List.mem_append_left _ hk))).trans (f.sub (fun k hk=>.inl (List.mem_append_right _ hk)))) (by simp;exact⟨nW.1,nW.2.1,hS⟩)
    have z1:=HD2.out [] wA (Fr.refl _ _) (by simp)
    have HMR3:=hidC hmr
    have HMF3:=hidC hmf
    have HF3:=hidC (LF.out _ fw)
    unfold decP at HR2
    clear hr hr2 hmr hmf LF fw HCK2 HJ2 HFS2 HMN2 HD1
    go_wp2
    go_loopw [7,58] (fun _ ix wr=>∃ p:Nat,p≤fn∧ix = .int .i64 p∧Fr [G.mn] wA wr∧∃ cn m,cn≤p∧MA wr G.mn cn m∧Hid (PRes G w R (match decsE G.L ((F.drop p).map FnC.nd) m with | .error e=>.error e | .ok fn=>mainP G.L rc fl fn F))∧Hid (∀ k f,m k=some f→f<G.len∧0<(kN G.L f).length)) (fun _ ix _=>fn-(intOf ix).toNat)
    case atStart=>exact⟨0,Nat.zero_le _,rfl,Fr.refl _ _,0,_,Nat.le_refl _,HMN3.out,HR2.out,fun k f h=>by cases h⟩
    case round =>
     clear HR2 HMN3 z1
     obtain⟨p2,hp2,rfl,fw2,cn,m,hcn,hmn,hr3,hfo⟩:=hrel
     have LF2:Hid (∀ w',Fr [G.mn] wA w'→Fr [G.mr,G.mf,G.mn] w w'):=fun w' f=>HF3.out.trans (f.sub (by simp))
     have HJ4:=hidC (HJ3.out.fr fw2 (by have:=HJ3.out.lfn;have:=HD.out.nj;simp;omega))
     by_cases hlt2:p2<fn
     ·have hpI:(p2:Int)<fn:=by omega
      have hpf:p2<F.length:=by rw[HLN.out];exact hlt2
      have hx:F[p2]? = some F[p2]:=List.getElem?_eq_getElem hpf
      obtain⟨hnd,hkp,hvn⟩:=HOK.out F[p2] (List.getElem_mem _)
      have HRS:Hid (PRes G w R (match ((match decE G.L (F[p2]).nd m with | .error e=>.error e | .ok m'=>decsE G.L ((F.drop (p2+1)).map FnC.nd) m') : JE NM) with | .error e=>.error e | .ok fn=>mainP G.L rc fl fn F)):=by
       have:=hr3.out
       rw[List.drop_eq_getElem_cons hpf,List.map_cons] at this
       exact this
      obtain⟨b3,o3,e,hb3,hc3⟩:=(HFS3.out.fr fw2 (by have:=HJ3.out.lfn;simp;omega)) p2 _ hx
      subst e
      rw[HJ4.out.ln] at hnd
      generalize F[p2]=y at *
      obtain⟨ynm,yva,yvn,yvc,nd⟩:=y
      obtain⟨g0,g1,g2,g3⟩:=hc3
      simp only at *
      have F5:Fr [] wr (wr.alloc (.cells #[.string ynm,.int .i64 (((kN G.L nd).length-1:Nat) : Int),.slice yva yvn yvc,.int .i64 nd] 61)):=(Fr.refl _ _).alloc _
      have bx:=heap_alloc_new wr (.cells #[.string ynm,.int .i64 (((kN G.L nd).length-1:Nat) : Int),.slice yva yvn yvc,.int .i64 nd] 61)
      have HJ5:=hidC (HJ4.out.fr F5 (by simp))
      have HM5:=hidC (hmn.fr F5 (by simp))
      have HFW:=hidC (fw2.trans (F5.sub (by simp)))
      have ng:b3≠wr.heap.size:=by have:=World.block_lt_of_cell? wr _ g0;simp only at this;omega
      have hmnlt:=hidC hmn.lt
      clear hx hr3 fw2 hmn HJ4
      go_upto_region 12 with fail
      generalize wr.alloc (.cells #[.string ynm,.int .i64 (((kN G.L nd).length-1:Nat) : Int),.slice yva yvn yvc,.int .i64 nd] 61)=W5 at *
      have CC:Calls Tryz.prog 102 #[.pointer (some ⟨G.jb,0,none⟩),.int .i64 nd,.map (some G.mn)] W5.drew (fun ex w'=>((m (txN G.L nd)).isSome=true∧ex=thr (plN G.L nd) 80∧Fr [G.mn] W5 w')∨(m (txN G.L nd)=none∧ex = .returned (.tuple #[])∧MA w' G.mn (cn+1) (m.put (txN G.L nd) nd)∧Fr [G.mn] W5 w')):=by
       have f5:Fr [] W5 W5.drew:=(Fr.refl _ _).drew
       cases hd:m (txN G.L nd) with
       | some d =>
         refine (declare_no (HJ5.out.fr f5 (by simp)) hnd (HM5.out.fr f5 (by simp)) hd).mono ?_
         rintro ex w' ⟨rfl,rfl⟩
         exact .inl ⟨rfl,rfl,f5.sub (by simp)⟩
       | none =>
         refine (declare_yes (HJ5.out.fr f5 (by simp)) hnd (HM5.out.fr f5 (by simp)) (by omega) hd).mono ?_
         rintro ex w' ⟨rfl,h1,h2⟩
         exact .inr ⟨rfl,rfl,h1,(f5.sub (by simp)).trans h2⟩
      have nj:G.jb∉[G.mn]:=by have:=HD.out.nj;simp;omega
      have nb2:wr.heap.size∉[G.mn]:=by
       have:=hmnlt.out
       simp;omega
      have J3:∀ w',Fr [G.mn] W5 w'→w'.cell? ⟨G.jb,3,none⟩=some (.map (some G.mn)):=fun w' f=>f.cell1 (at_cells HJ5.out.blk 3 rfl) nj
      have D3:∀ w',Fr [G.mn] W5 w'→w'.cell? ⟨wr.heap.size,3,none⟩=some (.int .i64 nd):=fun w' f=>f.cell1 (at_cells bx 3 rfl) nb2
      have HDR:∀ w' : World,Fr [G.mn] W5 w'→Fr [G.mn] W5 w'.drew:=fun w' h=>h.drew
      have RF:Fr [G.mn] W5 W5:=Fr.refl _ _
      have HT1:Hid ((m (txN G.L nd)).isSome=true→∀ w',Fr [G.mn] W5 w'→R (.panicked [{ v:=.iface 122 (.agg #[.int .i64 (plN G.L nd),.int .i64 80]),recovered:=false }]) w'):=fun h w' f=>by
       have h1:=HRS.out
       unfold decE at h1
       obtain⟨d,hd⟩:=Option.isSome_iff_exists.1 h
       rw[hd] at h1
       exact h1 w' (LF2.out _ (HFW.out.trans f))
      have HT2:Hid (m (txN G.L nd)=none→Hid (PRes G w R (match decsE G.L ((F.drop (p2+1)).map FnC.nd) (m.put (txN G.L nd) nd) with | .error e=>.error e | .ok fn=>mainP G.L rc fl fn F))):=fun h=>by
       have h1:=HRS.out
       unfold decE at h1
       rw[h] at h1
       exact h1
      have HT3:Hid (∀ k f,m.put (txN G.L nd) nd k=some f→f<G.len∧0<(kN G.L f).length):=fun k f h=>by
       unfold NM.put at h
       split at h
       ·cases h;exact⟨hnd,hkp⟩
       ·exact hfo.out k f h
      clear HRS F5 bx nj nb2 hfo g0 g1 g2 g3 ng
      generalize plN G.L nd=pl at *
      generalize hmm:m.put (txN G.L nd) nd=m2 at *
      clear hmm
      cases hmi:m (txN G.L nd) with
      | some d =>
        rw[hmi] at CC HT1
        have j3' := J3 _ (HDR _ RF)
        have d3' := D3 _ (HDR _ RF)
        have HT:=hidC (HT1.out rfl)
        clear HT1 HT2 HT3 J3 D3 hmi LF2
        unfold thr at CC
        go_region_dies
        all_goals
         with_reducible (refine CC.mono ?_)
         intro ex wz hL
         rcases hL with ⟨_,rfl,fz⟩ | ⟨hd,_⟩
         ·exact⟨rfl,HT.out _ fz⟩
         ·cases hd
      | none =>
        rw[hmi] at CC HT2
        have HR4:=HT2.out rfl
        have CD:=CC.mono (R' := fun ex w'=>ex = .returned (.tuple #[])∧MA w' G.mn (cn+1) m2∧Fr [G.mn] W5 w') (fun ex w' h=>by
         rcases h with ⟨hd,_⟩ | ⟨_,h⟩
         ·cases hd
         ·exact h)
        clear CC
        clear HT1 HT2 hmi LF2
        go_region_held_law (fun w' : World=>Fr [G.mn] W5 w')
         (with_reducible (first | assumption | exact HDR _ (by assumption)))
         (first | (go_at_call 102;with_reducible (refine CD.mono ?_);rintro ex wz ⟨rfl,hm3,fz⟩;have FZ:Fr [G.mn] W5 wz:=fz;have HM3:=hidC hm3;clear hm3))
        all_goals
         have HF6:=hidC (HFW.out.trans FZ)
         clear CD J3 D3 HDR RF FZ fz
         go_wp2
         go_roundw
         case rel=>exact⟨p2+1,hlt2,by go_num,HF6.out,cn+1,m2,by omega,HM3.out,HR4.out,HT3.out⟩
         case measure=>simp[intOf];omega
     ·have hpI:¬ (p2:Int)<fn:=by omega
      have hr4:=hr3.out
      rw[List.drop_of_length_le (by rw[HLN.out];omega)] at hr4
      have HR5:Hid (PRes G w R (mainP G.L rc fl m F)):=hr4
      obtain⟨wB,hwB⟩ : ∃ x:World,x=wr:=⟨_,rfl⟩
      subst hwB
      have lk:=hmn.look (s:=⟨#[109,97,105,110]⟩) (by decide)
      have hmb:m (⟨#[109,97,105,110]⟩ : ByteArray).data.toList=m mainB:=rfl
      rw[hmb] at lk
      have HME:Hid (MA wB G.mr cr rc∧MA wB G.mf cf fl∧MA wB G.mn cn m):=⟨HMR3.out.fr fw2 (by have:=HD.out.rn;simp;omega),HMF3.out.fr fw2 (by have:=HD.out.fn;simp;omega),hmn⟩
      have HF4:=hidC (LF2.out _ fw2)
      have j3:=at_cells HJ4.out.blk 3 rfl
      have HFS4:=hidC (HFS3.out.fr fw2 (by have:=HJ3.out.lfn;simp;omega))
      have HD3:Hid (∀ w',Fr [] wB w'→w'.cell? ⟨w.heap.size,1,none⟩=some (.slice fa fn fc)):=fun w' f=>HD2.out [G.mn] w' (fw2.trans (f.sub (by simp))) (by have:=NW.out;simp;omega)
      unfold mainP at HR5
      clear hr3 hr4 hmb hmn LF2 fw2 HFS3 HD2 HMR3 HMF3
      cases hmk:m mainB with
      | none =>
        rw[hmk] at HR5 lk
        have C100:Calls Tryz.prog 100 #[.pointer (some ⟨G.jb,0,none⟩),.int .i64 83] wB (fun ex w'=>ex=thr 0 83∧w' = wB):=whole_any G.jb _ 83
        have HT:=hidC (PRes.err HR5.out wB HF4.out)
        clear HR5 hmk
        unfold thr at *
        go_wp2_with (go_at_call 100;with_reducible (refine C100.mono ?_);rintro ex wq ⟨rfl,rfl⟩)
        exact⟨rfl,HT.out⟩
      | some k =>
        rw[hmk] at HR5 lk
        obtain⟨hkl,hkp⟩:=hfo.out _ _ hmk
        obtain⟨y,b4,o4,hy,ha4,hb4,hc4⟩:=HJ4.out.node hkl
        have j0:wB.cell? ⟨G.jb,0,none⟩=some (.slice G.a G.len G.cap):=at_cells HJ4.out.blk 0 rfl
        rw[ha4] at j0
        have eY:(kN G.L k).length=y.ks.length:=by unfold kN;rw[hy];simp
        have hykm:y.ks.length≤50000:=HJ4.out.kb _ _ hy
        have hkI2:(k:Int)<G.len:=by omega
        have HR6:Hid (PRes G w R (if 0<(kN G.L k).length-1 then .error (0,83) else funsP G.L ⟨fl,rc,m⟩ F)):=HR5.out
        rw[eY] at HR6 hkp
        clear HR5
        have HNN:y.ks.length≤y.c∧y.a≠none:=⟨hc4.kc,fun h0=>by have h1:=hc4.kc;have h2:=hc4.kn h0;omega⟩
        obtain⟨yad,hyad⟩:=Option.ne_none_iff_exists'.1 HNN.2
        have C69:=params_is wB y.kind y.text yad y.ks.length y.c y.pl hkp HNN.1 hykm
        obtain⟨y0,y1,y2,y3,_,_,_,_,_⟩:=hc4
        rw[hyad] at y2
        generalize hyl:y.ks.length=yl at *
        generalize hyk:y.kind=yk at *
        generalize hyt:y.text=yt at *
        generalize hyp:y.pl=yp at *
        generalize hyc:y.c=yc at *
        have HE:Hid (FnOk G ⟨fl,rc,m⟩):=fun q f h=>hfo.out q f h
        clear hyl hyk hyt hyp hyc hy hyad HNN eY ha4 hmk hfo
        by_cases hpar:0<yl-1
        ·rw[if_pos hpar] at HR6
         have hpl:(0:Int)<((yl-1:Nat) : Int):=by omega
         have HC100:Hid (∀ w',Calls Tryz.prog 100 #[.pointer (some ⟨G.jb,0,none⟩),.int .i64 83] w' (fun ex w''=>ex=thr 0 83∧w'' = w')):=fun w'=>whole_any G.jb _ 83
         have HT:Hid (∀ w',Fr [] wB w'→R (thr 0 83) w'):=fun w' f=>PRes.err HR6.out w' (HF4.out.trans (f.sub (by simp)))
         clear HR6
         unfold thr at *
         generalize hyn:yl-1=yn at *
         clear hyn
         go_wp2_with (first | (go_at_call 69;with_reducible (refine C69.mono ?_);rintro ex w3 ⟨rfl,f3⟩;have HF5:=hidC f3;clear f3) | (go_at_call 100;with_reducible (refine (HC100.out _).mono ?_);rintro ex wq ⟨rfl,rfl⟩))
         exact⟨rfl,HT.out _ HF5.out⟩
        ·rw[if_neg hpar] at HR6
         have hpl:¬ (0:Int)<((yl-1:Nat) : Int):=by omega
         have HZ:Hid (∀ w',Fr [] wB w'→Fr [G.mr,G.mf,G.mn] w w'):=fun w' f=>HF4.out.trans (f.sub (by simp))
         generalize hyn:yl-1=yn at *
         clear hyn
         have z2:=HD3.out wB (Fr.refl _ _)
         go_upto_region 17 with (go_at_call 69;with_reducible (refine C69.mono ?_);rintro ex w3 ⟨rfl,f3⟩;have HF5:=hidC f3;clear f3)
         have z3:=HD3.out w3 HF5.out
         clear z2 C69 lk j0 j3 y0 y1 y2 y3
         have HJ5:=hidC (HJ4.out.fr HF5.out (by simp))
         have HEM:Hid (EM G ⟨fl,rc,m⟩ w3):=⟨⟨_,HME.out.1.fr HF5.out (by simp)⟩,⟨_,HME.out.2.1.fr HF5.out (by simp)⟩,⟨_,HME.out.2.2.fr HF5.out (by simp)⟩⟩
         have HFS5:=hidC (HFS4.out.fr HF5.out (by simp))
         have HST:Hid (∀ n,n<G.len→StmtC G ⟨fl,rc,m⟩ n):=stmt_all HA.out HE.out HSH.out
         have HZ2:Hid (∀ w',Fr [] w3 w'→Fr [G.mr,G.mf,G.mn] w w'):=fun w' f=>HZ.out w' (HF5.out.trans f)
         clear HFS4 HJ4 HME HD3 HZ HF5 HF4
         go_wp2
         go_loopw [11,98] (fun _ ix wr=>∃ p:Nat,p≤fn∧ix = .int .i64 p∧Fr [] w3 wr∧Hid (PRes G w R (funsP G.L ⟨fl,rc,m⟩ (F.drop p)))) (fun _ ix _=>fn-(intOf ix).toNat)
         case atStart=>exact⟨0,Nat.zero_le _,rfl,Fr.refl _ _,HR6.out⟩
         case round =>
          clear HR6 z3
          obtain⟨p3,hp3,rfl,fw3,hr7⟩:=hrel
          by_cases hlt3:p3<fn
          ·have hpI3:(p3:Int)<fn:=by omega
           have hpf:p3<F.length:=by rw[HLN.out];exact hlt3
           have hx:F[p3]? = some F[p3]:=List.getElem?_eq_getElem hpf
           obtain⟨hnd,hkp2,hvn⟩:=HOK.out F[p3] (List.getElem_mem _)
           have HRS:Hid (PRes G w R (match fnE G.L ⟨fl,rc,m⟩ (F[p3]).vn (F[p3]).nd with | .error e=>.error e | .ok _=>funsP G.L ⟨fl,rc,m⟩ (F.drop (p3+1)))):=by
            have:=hr7.out
            rw[List.drop_eq_getElem_cons hpf] at this
            exact this
           obtain⟨b5,o5,e,hb5,hc5⟩:=(HFS5.out.fr fw3 (by simp)) p3 _ hx
           subst e
           rw[HJ5.out.ln] at hnd
           generalize F[p3]=y2 at *
           obtain⟨ynm,yva,yvn,yvc,nd⟩:=y2
           obtain⟨g0,g1,g2,g3⟩:=hc5
           simp only at *
           have F6:Fr [] wr (wr.alloc (.cells #[.string ynm,.int .i64 (((kN G.L nd).length-1:Nat) : Int),.slice yva yvn yvc,.int .i64 nd] 61)):=(Fr.refl _ _).alloc _
           have FW6:=hidC (fw3.trans F6)
           have ng:b5≠wr.heap.size:=by have:=World.block_lt_of_cell? wr _ g0;simp only at this;omega
           have HCP:Hid (∀ R' : Ending→World→Prop,ERes (wr.alloc (.cells #[.string ynm,.int .i64 (((kN G.L nd).length-1:Nat) : Int),.slice yva yvn yvc,.int .i64 nd] 61)) R' (fnE G.L ⟨fl,rc,m⟩ yvn nd)→Calls Tryz.prog 103 #[.pointer (some ⟨G.jb,0,none⟩),.agg #[.string ynm,.int .i64 (((kN G.L nd).length-1:Nat) : Int),.slice yva yvn yvc,.int .i64 nd]] (wr.alloc (.cells #[.string ynm,.int .i64 (((kN G.L nd).length-1:Nat) : Int),.slice yva yvn yvc,.int .i64 nd] 61)) R'):=fun R' h=>function_cps HA.out HST.out (HJ5.out.fr FW6.out (by simp)) (HEM.out.fr FW6.out (by simp)) hvn hnd hkp2 h
           clear hx hr7 fw3 F6
           go_wp2_with fail
           generalize wr.alloc (.cells #[.string ynm,.int .i64 (((kN G.L nd).length-1:Nat) : Int),.slice yva yvn yvc,.int .i64 nd] 61)=W6 at *
           refine HCP.out _ ?_
           cases hq:fnE G.L ⟨fl,rc,m⟩ yvn nd with
           | error pe =>
             obtain⟨pp,ee⟩:=pe
             rw[hq] at HRS
             intro w' f'
             exact⟨rfl,HRS.out w' (HZ2.out w' (FW6.out.trans f'))⟩
           | ok u =>
             rw[hq] at HRS
             intro w' f'
             have HF8:=hidC (FW6.out.trans f')
             clear hq HCP f' FW6 g0 g1 g2 g3 ng
             go_wp2
             go_roundw
             case rel=>exact⟨p3+1,hlt3,by go_num,HF8.out,HRS.out⟩
             case measure=>simp[intOf];omega
          ·have hpI3:¬ (p3:Int)<fn:=by omega
           have hr8:=hr7.out
           rw[List.drop_of_length_le (by rw[HLN.out];omega)] at hr8
           have HX:=hidC (PRes.ok (u:=()) hr8 wr (HZ2.out _ fw3))
           clear hr7 hr8
           go_wp2
           go_end0
           exact HX.out
theorem catch_idle (p q:Addr) (w:World) :
 CallsD Tryz.prog 70 #[.pointer (some p),.pointer (some q)] .returning w fun e u' w'=>e = .returned (.tuple #[])∧u' = .returning∧w' = w:=by
 refine callsD_of_wpS Tryz.func70 rfl fun c₀ cs hu=>?_
 apply wpS_seq
 apply wpS_region
 simp[wpOpsS,go_sem,recoverD,hu,Tryz.ntmps70,Exit.thenS]
 apply wpS_of_wp
 go_wp2
 cases c₀
 simp_all [bodyPostS,results,Tryz.results70]
theorem wp_tmps {c:Code} {Q:Exit→Act→World→Prop} {X Y:Array Value} {w:World} (h:X=Y) (k:c.wp Tryz.prog Q { tmps:=Y,defers:=[] } w) : c.wp Tryz.prog Q { tmps:=X,defers:=[] } w:=h ▸ k
theorem assert122 (v:Value) (w:World) : (Instr.typeAssert (.iface 122 v) 20 122 true).run Tryz.prog w = .ok (.tuple #[v,.bool true]) w:=by kernel_rfl
set_option maxHeartbeats 1000000 in
theorem catch_thrown (b0 b1:Nat) (n i:Int) (w:World) (vp vq:Value) (t0 t1:TypeId) (h01:b0≠b1) (e0:w.heap[b0]? = some (.cells #[vp] t0 (0,0))) (e1:w.heap[b1]? = some (.cells #[vq] t1 (0,0))) :
 CallsD Tryz.prog 70 #[.pointer (some ⟨b0,0,none⟩),.pointer (some ⟨b1,0,none⟩)] (.panicking [{ v:=.iface 122 (.agg #[.int .i64 n,.int .i64 i]),recovered:=false }]) w fun e u' w'=>e = .returned (.tuple #[])∧u' = .panicking [{ v:=.iface 122 (.agg #[.int .i64 n,.int .i64 i]),recovered:=true }]∧Fr [b0,b1] w w'∧w'.heap[b0]? = some (.cells #[.int .i64 n] t0 (0,0))∧w'.heap[b1]? = some (.cells #[.int .i64 i] t1 (0,0)):=by
 refine callsD_of_wpS Tryz.func70 rfl fun c₀ cs hu=>?_
 apply wpS_seq
 apply wpS_region
 simp[wpOpsS,go_sem,recoverD,hu,Tryz.ntmps70,Exit.thenS]
 apply wpS_of_wp
 refine wp_tmps (Y:=#[.pointer (some ⟨b0,0,none⟩),.pointer (some ⟨b1,0,none⟩),undef,undef,undef,.iface 122 (.agg #[.int .i64 n,.int .i64 i]),undef,undef,undef,undef,undef,undef,undef,undef,undef]) rfl ?_
 have ha:=assert122 (.agg #[.int .i64 n,.int .i64 i]) w
 go_wp2
 have gA:Fr [b0,b1] w (w.alloc (.cells #[.int .i64 n,.int .i64 i] 122)):=(Fr.refl _ _).alloc _
 have bA:(w.alloc (.cells #[.int .i64 n,.int .i64 i] 122)).heap[w.heap.size]? = some (.cells #[.int .i64 n,.int .i64 i] 122 (0,0)):=heap_alloc_new w _
 have kp:∀ {j:Nat} {o:Obj},w.heap[j]? = some o→(w.alloc (.cells #[.int .i64 n,.int .i64 i] 122)).heap[j]? = some o:=fun h=>(((Fr.refl [] w).alloc _).block _ (Array.getElem?_eq_some_iff.1 h).1 (by simp)).trans h
 have lt:∀ {j:Nat} {o:Obj},w.heap[j]? = some o→j≠w.heap.size:=fun h=>by have:=(Array.getElem?_eq_some_iff.1 h).1;omega
 have n0:=lt e0
 have n1:=lt e1
 have E0:=kp e0
 have E1:=kp e1
 generalize hN:w.heap.size=N at *
 generalize w.alloc (.cells #[.int .i64 n,.int .i64 i] 122)=Y at *
 have ca:Y.cell? ⟨N,0,none⟩=some (.int .i64 n):=at_cells bA 0 rfl
 have cb:Y.cell? ⟨N,1,none⟩=some (.int .i64 i):=at_cells bA 1 rfl
 have c0:=at_cells E0 0 rfl
 have c1:=at_cells E1 0 rfl
 have z0:Y.frozen? ⟨b0,0,none⟩=false:=by simp[World.frozen?,E0]
 have z1:Y.frozen? ⟨b1,0,none⟩=false:=by simp[World.frozen?,E1]
 go_region
 all_goals
  refine⟨rfl,_,rfl,.tuple #[],by simp[results,Tryz.results70],rfl,rfl,?_,?_,?_⟩
  ·exact ((gA.setCell (.inl (by simp)) _).setCell (.inl (by simp)) _).drew
  ·exact set_other h01 (set_same E0)
  ·exact set_same (set_other (Ne.symm h01) E1)
theorem keep_alloc {w:World} {k:Nat} {o u:Obj} (h:w.heap[k]? = some o) : (w.alloc u).heap[k]? = some o:=(((Fr.refl [] w).alloc u).block _ (Array.getElem?_eq_some_iff.1 h).1 (by simp)).trans h
theorem new_alloc {w:World} {k:Nat} (u:Obj) (h:k=w.heap.size) : (w.alloc u).heap[k]? = some u:=by subst h;exact heap_alloc_new w u
theorem MA.keep {w:World} {mb n:Nat} {m:NM} (h:MA w mb n m) (u:Obj) : MA (w.alloc u) mb n m:=h.fr ((Fr.refl [] w).alloc u) (by simp)
theorem MA.new {w:World} {k:Nat} (h:k=w.heap.size) : MA (w.alloc (.map #[] 0)) k 0 NM.nil:=by subst h;exact MA.made w
def begin8 (x0 x1 x2 x3:Value) (a:Option Addr) (len cap:Nat) (w:World) : World :=
 ((((((w.alloc (.cells #[x0,x1,x2,x3] 28)).alloc (.cells #[.int .i64 0] 3)).alloc (.cells #[.int .i64 0] 29)).alloc (.map #[] 0)).alloc (.map #[] 0)).alloc (.map #[] 0)).alloc (.cells #[.slice a len cap,.map (some (w.heap.size+1+1+1)),.map (some (w.heap.size+1+1+1+1)),.map (some (w.heap.size+1+1+1+1+1))] 125)
section
variable (x0 x1 x2 x3:Value) (a:Option Addr) (len cap:Nat) (w:World)
theorem begin8_fr:Fr [] w (begin8 x0 x1 x2 x3 a len cap w):=(((((((Fr.refl _ _).alloc _).alloc _).alloc _).alloc _).alloc _).alloc _).alloc _
theorem begin8_b:(begin8 x0 x1 x2 x3 a len cap w).heap[w.heap.size]? = some (.cells #[x0,x1,x2,x3] 28 (0,0))∧(begin8 x0 x1 x2 x3 a len cap w).heap[w.heap.size+1]? = some (.cells #[.int .i64 0] 3 (0,0))∧(begin8 x0 x1 x2 x3 a len cap w).heap[w.heap.size+1+1]? = some (.cells #[.int .i64 0] 29 (0,0))
 ∧ (begin8 x0 x1 x2 x3 a len cap w).heap[w.heap.size+1+1+1+1+1+1]? = some (.cells #[.slice a len cap,.map (some (w.heap.size+1+1+1)),.map (some (w.heap.size+1+1+1+1)),.map (some (w.heap.size+1+1+1+1+1))] 125 (0,0)):=by
 unfold begin8
 refine⟨?_,?_,?_,?_⟩
 ·exact keep_alloc (keep_alloc (keep_alloc (keep_alloc (keep_alloc (keep_alloc (new_alloc _ rfl))))))
 ·exact keep_alloc (keep_alloc (keep_alloc (keep_alloc (keep_alloc (new_alloc _ (by simp[World.size_alloc]))))))
 ·exact keep_alloc (keep_alloc (keep_alloc (keep_alloc (new_alloc _ (by simp[World.size_alloc])))))
 ·exact new_alloc _ (by simp[World.size_alloc])
theorem begin8_m:MA (begin8 x0 x1 x2 x3 a len cap w) (w.heap.size+1+1+1) 0 NM.nil∧MA (begin8 x0 x1 x2 x3 a len cap w) (w.heap.size+1+1+1+1) 0 NM.nil∧MA (begin8 x0 x1 x2 x3 a len cap w) (w.heap.size+1+1+1+1+1) 0 NM.nil:=by
 unfold begin8
 refine⟨?_,?_,?_⟩
 ·exact ((MA.new (by simp[World.size_alloc])).keep _).keep _ |>.keep _
 ·exact ((MA.new (by simp[World.size_alloc])).keep _).keep _
 ·exact (MA.new (by simp[World.size_alloc])).keep _
end
theorem KAt.mono {B B' : Nat} {w:World} {a:Option Addr} {ks:List Int} (h:KAt B w a ks) (hB:B≤B') : KAt B' w a ks:=fun j k hk=>by
 obtain⟨b,o,e,hb,hc⟩:=h j k hk
 exact⟨b,o,e,by omega,hc⟩
theorem NAt.mono {B B' : Nat} {w:World} {a:Option Addr} {L:List Nd} (h:NAt B w a L) (hB:B≤B') : NAt B' w a L:=fun i x hx=>by
 obtain⟨b,o,e,hb,hc⟩:=h i x hx
 exact⟨b,o,e,by omega,⟨hc.c0,hc.c1,hc.c2,hc.c3,hc.k.mono hB,hc.t,hc.kl,hc.kc,hc.kn⟩⟩
def jEnd:JE Unit→Ending
 | .ok _=>.returned (.tuple #[.int .i64 0,.int .i64 0])
 | .error (p,e)=>.returned (.tuple #[.int .i64 p,.int .i64 (e:Nat)])
set_option maxHeartbeats 2000000 in
theorem judged_any {L:List Nd} {w:World} {a:Option Addr} {len cap:Nat} (hA:Ahead L) (hSh:ShOk L) (hL:NAt w.heap.size w a L) (hlen:L.length=len) (hlm:len≤50000) (hkb:∀ (n:Nat) (x:Nd),L[n]? = some x→x.ks.length≤50000) (h0:0<len)
 {F:List FnC} {sa:Option Addr} {ns sc:Nat} (hns:ns≤50000) {fa:Option Addr} {fn fc:Nat} (hfn:F.length=fn) (hfm:fn≤50000) (hF:FsAt L w.heap.size w fa F) (hOk:FsOk L F) (mn:Int) (mv:Value) (hmv:mv.oneCell' = true) :
 Calls Tryz.prog 39 #[.slice a len cap,.agg #[.slice sa ns sc,.slice fa fn fc,.int .i64 mn,mv]] w fun e w'=>e=jEnd (judgeP L ns F)∧Fr [] w w' := by
 have hmf:∀ (fn:Fn) (first cap:Array Value) (w:World),(Instr.makeFunc fn first cap).run Tryz.prog w = .ok (.func fn first cap) w:=fun _ _ _ _=>rfl
 have hmk:∀ w,(Instr.makeMap 123 none).run Tryz.prog w = .ok (.map (some w.heap.size)) (w.alloc (.map #[] 0)):=fun w=>rfl
 obtain⟨e0,e1,e2,e4⟩:=begin8_b (.slice sa ns sc) (.slice fa fn fc) (.int .i64 mn) mv a len cap w
 obtain⟨m1,m2,m3⟩:=begin8_m (.slice sa ns sc) (.slice fa fn fc) (.int .i64 mn) mv a len cap w
 have f6:=begin8_fr (.slice sa ns sc) (.slice fa fn fc) (.int .i64 mn) mv a len cap w
 have C:=fun R hR=>program_cps (G:=⟨w.heap.size,L,a,len,cap,w.heap.size+1+1+1+1+1+1,w.heap.size+1+1+1,w.heap.size+1+1+1+1,w.heap.size+1+1+1+1+1⟩) hA hSh (w:=begin8 (.slice sa ns sc) (.slice fa fn fc) (.int .i64 mn) mv a len cap w) (R:=R) ⟨e4,hL.fr f6 (by simp),hlen,hlm,hkb,by simp only;omega,by simp only;omega,by simp only;omega,by simp only;omega⟩ ⟨by simp only;omega,by simp only;omega,by simp only;omega,by simp only;omega,by simp only;omega,by simp only;omega⟩ m1 m2 m3 h0 (sa:=sa) (sc:=sc) (fc:=fc) hns hfn hfm (hF.fr f6 (by simp)) hOk mn mv hR
 simp only at C
 have HO:Hid (∀ r,judgeP L ns F=r→jEnd (judgeP L ns F)=jEnd r):=fun r h=>by rw[h]
 have d0:=at_cells e0 0 rfl
 have d1:=at_cells e0 1 rfl
 have d2:=at_cells e0 2 rfl
 have d3:=at_cells e0 3 rfl
 clear m1 m2 m3 hA hSh hL hkb hF hOk e4
 go_enter_defers Tryz.func39,Tryz.ntmps39
 go_wp2_with fail
 refine C _ ?_
 cases hw:judgeP L ns F with
 | error ab =>
   obtain⟨p,er⟩:=ab
   intro W fW
   have E1:=(fW.block _ (Array.getElem?_eq_some_iff.1 e1).1 (by simp)).trans e1
   have E2:=(fW.block _ (Array.getElem?_eq_some_iff.1 e2).1 (by simp)).trans e2
   refine leaves_cons (f:=70) (args:=#[.pointer (some ⟨w.heap.size+1,0,none⟩),.pointer (some ⟨w.heap.size+1+1,0,none⟩)]) (by simp) (by simp[go_sem]) ?_
   refine (catch_thrown _ _ p (er:Nat) W _ _ _ _ (by omega) E1 E2).mono ?_
   rintro e u' w'' ⟨rfl,rfl,fz,g0,g1⟩
   have c0:=at_cells g0 0 rfl
   have c1:=at_cells g1 0 rfl
   simp[Leaves,settle,results,Tryz.results39,go_sem,c0,c1]
   refine⟨by rw[hw];rfl,?_⟩
   have g7:Fr ([w.heap.size+1,w.heap.size+1+1]++[w.heap.size+1+1+1,w.heap.size+1+1+1+1,w.heap.size+1+1+1+1+1]) w w'' := ((f6.sub (by simp)).trans (fW.sub (fun k hk=>.inl (List.mem_append_right _ hk)))).trans (fz.sub (fun k hk=>.inl (List.mem_append_left _ hk)))
   exact g7.sub (fun k hk=>.inr (by simp at hk;omega))
 | ok u =>
   intro W fW
   have E1:=(fW.block _ (Array.getElem?_eq_some_iff.1 e1).1 (by simp)).trans e1
   have E2:=(fW.block _ (Array.getElem?_eq_some_iff.1 e2).1 (by simp)).trans e2
   have c1:=at_cells E1 0 rfl
   have c2:=at_cells E2 0 rfl
   have z1:W.frozen? ⟨w.heap.size+1,0,none⟩=false:=by simp[World.frozen?,E1]
   have z2:W.frozen? ⟨w.heap.size+1+1,0,none⟩=false:=by simp[World.frozen?,E2]
   clear C hmf hmk d0 d1 d2 d3 e0
   go_wp2
   have f9:Fr [w.heap.size+1,w.heap.size+1+1] W ((W.setCell ⟨w.heap.size+1,0,none⟩ (.int .i64 0)).setCell ⟨w.heap.size+1+1,0,none⟩ (.int .i64 0)):=((Fr.refl _ _).setCell (.inl (by simp)) _).setCell (.inl (by simp)) _
   have g0:=set_other (v:=.int .i64 0) (show w.heap.size+1≠w.heap.size+1+1 by omega) (set_same (v:=.int .i64 0) E1)
   have g1:=set_same (v:=.int .i64 0) (set_other (v:=.int .i64 0) (show w.heap.size+1+1≠w.heap.size+1 by omega) E2)
   generalize (W.setCell ⟨w.heap.size+1,0,none⟩ (.int .i64 0)).setCell ⟨w.heap.size+1+1,0,none⟩ (.int .i64 0)=W9 at *
   refine leaves_cons (f:=70) (args:=#[.pointer (some ⟨w.heap.size+1,0,none⟩),.pointer (some ⟨w.heap.size+1+1,0,none⟩)]) (by simp) (by simp[go_sem]) ?_
   refine (catch_idle _ _ _).mono ?_
   rintro e u' w'' ⟨rfl,rfl,rfl⟩
   have d0:=at_cells g0 0 rfl
   have d1:=at_cells g1 0 rfl
   simp[Leaves,settle,results,Tryz.results39,go_sem,d0,d1]
   refine⟨by rw[hw];rfl,?_⟩
   have g7:Fr ([w.heap.size+1,w.heap.size+1+1]++[w.heap.size+1+1+1,w.heap.size+1+1+1+1,w.heap.size+1+1+1+1+1]) w w'' := ((f6.sub (by simp)).trans (fW.sub (fun k hk=>.inl (List.mem_append_right _ hk)))).trans (f9.sub (fun k hk=>.inl (List.mem_append_left _ hk)))
   exact g7.sub (fun k hk=>.inr (by simp at hk;omega))
end Go.Proofs.YtnmfcaahdeddnaaGreatDoor.T5
namespace Go.Proofs.YtnmfcaahdeddnaaGreatDoor.T5
open Go.RowKit
set_option linter.unusedVariables false
set_option linter.unusedSimpArgs false
def JOk {α:Type} (r:JE α) : Prop:=∀ p e,r = .error (p,e)→e≠0
theorem JOk.ok {α:Type} (x:α) : JOk (.ok x:JE α):=fun p e h=>by cases h
theorem JOk.err {α:Type} (p:Int) {e:Nat} (h:e≠0) : JOk (.error (p,e) : JE α):=fun p' e' h'=>by cases h';exact h
theorem JOk.of {α β:Type} {r:JE α} {res:JE β} (h:JOk r) (he:∀ e,r = .error e→res = .error e) (ho:∀ x,r = .ok x→JOk res) : JOk res:=by
 cases hr:r with
 | error e =>
   rw[he e hr]
   intro p e' h'
   cases h'
   exact h p e' hr
 | ok x=>exact ho x hr
theorem decE_ok (L:List Nd) (n:Nat) (m:NM) : JOk (decE L n m):=by
 unfold decE
 split
 ·exact JOk.err _ (by decide)
 ·exact JOk.ok _
theorem selfE_ok (L:List Nd) (E:Env) (C:List NM) (n:Nat) : JOk (selfE L E C n):=by
 unfold selfE
 repeat' split
 all_goals first | exact JOk.ok _ | exact JOk.err _ (by decide)
theorem eachE_ok {g:Nat→JE Unit} (h:∀ k,JOk (g k)) : ∀ l,JOk (eachE g l)
 | []=>JOk.ok _
 | k::r=>by unfold eachE;exact JOk.of (h k) (fun e he=>by rw[he]) (fun x hv=>by rw[hv];exact eachE_ok h r)
theorem exprF_ok (L:List Nd) (E:Env) (C:List NM) : ∀ f n,JOk (exprF L E C f n)
 | 0,n=>by unfold exprF;exact JOk.ok _
 | f+1,n=>by unfold exprF;exact JOk.of (selfE_ok L E C n) (fun e he=>by rw[he]) (fun x hv=>by rw[hv];exact eachE_ok (exprF_ok L E C f) _)
theorem exprE_ok (L:List Nd) (E:Env) (C:List NM) (n:Nat) : JOk (exprE L E C n):=exprF_ok L E C _ n
theorem greensE_ok (L:List Nd) (E:Env) (C:List NM) : ∀ l m,JOk (greensE L E C l m)
 | [],m=>by unfold greensE;exact JOk.ok _
 | k::r,m=>by unfold greensE;exact JOk.of (exprE_ok L E C k) (fun e he=>by rw[he]) (fun x hv=>by rw[hv];exact JOk.of (decE_ok L k m) (fun e he=>by rw[he]) (fun m' hv=>by rw[hv];exact greensE_ok L E C r m'))
theorem mergeE_ok (L:List Nd) (E:Env) (C:List NM) (n:Nat) : JOk (mergeE L E C n):=by
 unfold mergeE
 split
 ·exact JOk.err _ (by decide)
 ·exact greensE_ok L E C _ _
theorem seqE_ok {g:Nat→NM→JE NM} (h:∀ k m,JOk (g k m)) : ∀ l m,JOk (seqE g l m)
 | [],m=>by unfold seqE;exact JOk.ok _
 | k::r,m=>by unfold seqE;exact JOk.of (h k m) (fun e he=>by rw[he]) (fun m' hv=>by rw[hv];exact seqE_ok h r m')
theorem stmtF_ok (L:List Nd) (E:Env) : ∀ f C n m,JOk (stmtF L E f C n m)
 | 0,C,n,m=>by unfold stmtF;exact JOk.ok _
 | f+1,C,n,m=>by
   have ih:=stmtF_ok L E f
   have hX:=fun C n=>exprE_ok L E C n
   have hB:∀ C l m,JOk (seqE (stmtF L E f C) l m):=fun C l m=>seqE_ok (fun k m=>ih C k m) l m
   unfold stmtF
   split
   ·split
    ·exact JOk.err _ (by decide)
    ·exact JOk.of (eachE_ok (hX _) _) (fun e he=>by rw[he]) (fun x hv=>by rw[hv];exact JOk.ok _)
   ·split
    ·exact JOk.of (hX _ _) (fun e he=>by rw[he]) (fun x hv=>by rw[hv];exact JOk.of (hB _ _ _) (fun e he=>by rw[he]) (fun x hv=>by rw[hv];exact JOk.of (hB _ _ _) (fun e he=>by rw[he]) (fun x hv=>by rw[hv];exact JOk.ok _)))
    ·split
     ·refine JOk.of (hX _ _) (fun e he=>by rw[he]) (fun x hv=>?_)
      rw[hv]
      simp only
      split
      ·exact JOk.ok _
      ·split
       ·exact JOk.of (mergeE_ok L E _ _) (fun e he=>by rw[he]) (fun x hv=>by rw[hv];exact JOk.of (hB _ _ _) (fun e he=>by rw[he]) (fun x hv=>by rw[hv];exact JOk.ok _))
       ·exact JOk.of (hB _ _ _) (fun e he=>by rw[he]) (fun x hv=>by rw[hv];exact JOk.ok _)
     ·split
      ·exact JOk.err _ (by decide)
      ·exact JOk.of (eachE_ok (hX _) _) (fun e he=>by rw[he]) (fun x hv=>by rw[hv];exact JOk.ok _)
theorem decsE_ok (L:List Nd) : ∀ l m,JOk (decsE L l m)
 | [],m=>by unfold decsE;exact JOk.ok _
 | k::r,m=>by unfold decsE;exact JOk.of (decE_ok L k m) (fun e he=>by rw[he]) (fun m' hv=>by rw[hv];exact decsE_ok L r m')
theorem recsE_ok (L:List Nd) : ∀ l rc fl,JOk (recsE L l rc fl)
 | [],rc,fl=>by unfold recsE;exact JOk.ok _
 | k::r,rc,fl=>by
   unfold recsE
   split
   ·refine JOk.of (decE_ok L k rc) (fun e he=>by rw[he]) (fun rc' hv=>?_)
    rw[hv]
    simp only
    split
    ·exact JOk.err _ (by decide)
    ·exact JOk.of (decsE_ok L _ _) (fun e he=>by rw[he]) (fun fl' hv=>by rw[hv];exact recsE_ok L r _ _)
   ·exact recsE_ok L r rc fl
theorem funE_ok (L:List Nd) (E:Env) (f:FnD) : JOk (funE L E f):=by
 unfold funE
 split
 ·exact JOk.err _ (by decide)
 ·exact JOk.of (decsE_ok L _ _) (fun e he=>by rw[he]) (fun m hv=>by rw[hv];exact seqE_ok (fun k m=>stmtF_ok L E _ _ k m) _ _)
theorem funsE_ok (L:List Nd) (E:Env) : ∀ l,JOk (funsE L E l)
 | []=>by unfold funsE;exact JOk.ok _
 | f::r=>by unfold funsE;exact JOk.of (funE_ok L E f) (fun e he=>by rw[he]) (fun x hv=>by rw[hv];exact funsE_ok L E r)
theorem judgeE_ok (L:List Nd) (d:Ds) : JOk (judgeE L d):=by
 unfold judgeE
 split
 ·exact JOk.err _ (by decide)
 ·refine JOk.of (recsE_ok L _ _ _) (fun e he=>by rw[he]) (fun m hv=>?_)
  rw[hv]
  obtain⟨rc,fl⟩:=m
  simp only
  refine JOk.of (decsE_ok L _ _) (fun e he=>by rw[he]) (fun fn hv=>?_)
  rw[hv]
  simp only
  split
  ·exact JOk.err _ (by decide)
  ·split
   ·exact JOk.err _ (by decide)
   ·exact funsE_ok L _ _
end Go.Proofs.YtnmfcaahdeddnaaGreatDoor.T5
