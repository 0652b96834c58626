/-
  Parts of the proof; conditions: as each says.
-/
import Derived.Deep.RegionHeld
import Derived.OrdersIn
import Derived.RangeFuncCalls
import Derived.Test.YtnmfcaahdeddnaaGreatDoorMgJPHG
namespace Go.Proofs.YtnmfcaahdeddnaaGreatDoor.T5
open Go Go.RowKit
set_option linter.unusedVariables false
def Plain (N:Act→World→Prop) : Exit→Act→World→Prop:=fun e a w=>e = .normal∧N a w
theorem rows_wide {n:Nat} {l:Nat} {P:Program} {row:String} {args:Array Value} {w:World} {R:Value→World→Prop} (h:Rows P row args w R) : RowsIn (Fence.wide.inRound l) n P row args w R :=
 fun c cs _=>let ⟨v,w',r,s⟩:=h c cs;⟨v,w',r,stepsIn_wide.2 s⟩
theorem oper_round {l:Nat} {P:Program} {o:Oper} {a:Act} {w:World} {K:Act→World→Prop} {N:Act→World→Prop} {Q:Exit→Act→World→Prop} (hd:∀ c,o.op≠.defer c)
 (h:Oper.wp P o a w K (Plain N)) : Oper.wpIn (Fence.wide.inRound l) 0 P o a w K Q:=by
 refine⟨fun _ _=>trivial,?_⟩
 rw[Oper.semAt_eq _ _ _ hd]
 unfold Oper.wp at h
 generalize (execOp a.eval o).run P w=r at *
 cases r with
 | ok x w' =>
   cases x with
   | enter f args =>
     simp only[Oper.upon,Oper.uponIn] at h ⊢
     refine⟨fun e=>by simp[Fence.wide,Fence.inRound] at e,?_⟩
     refine CallsIn.inRound l (callsIn_wide.2 (Calls.mono h (fun e w'' he=>?_)))
     cases e with
     | returned v=>exact he
     | panicked c=>exact absurd (show Exit.panic c=Exit.normal∧N a w'' from he).1 (by simp)
     | outgrown =>
       obtain⟨a0,w0,h0⟩:=(show LetsOut (Plain N) from he)
       exact absurd (show Exit.outgrown=Exit.normal∧N a0 w0 from h0).1 (by simp)
   | row r args =>
     simp only[Oper.upon,Oper.uponIn] at h ⊢
     exact⟨fun e=>by simp[Fence.wide,Fence.inRound] at e,rows_wide h⟩
   | _ =>
     first | (simp only[Oper.upon] at h;done) | (simp only[Oper.upon,Oper.uponIn] at h ⊢;exact h)
 | halt x w' =>
   cases x <;> simp only[Oper.upon,Oper.uponIn] at h ⊢
   exact absurd (show Exit.panic _=Exit.normal∧N a w' from h).1 (by simp)
theorem wpOp_round {l:Nat} {P:Program} {ops:Array Oper} {i:Nat} {a:Act} {w:World} {K:Act→World→Prop} {N:Act→World→Prop} {Q:Exit→Act→World→Prop} (hd:∀ o,ops[i]? = some o→∀ c,o.op≠.defer c)
 (h:wpOp P ops (Plain N) i K a w) : wpOpIn (Fence.wide.inRound l) 0 P ops Q i K a w:=by
 unfold wpOp at h
 unfold wpOpIn
 split
 ·rename_i hn;rw[hn] at h;exact h
 ·rename_i o ho
  simp only[ho] at h
  split
  ·rename_i hw
   simp only[hw,if_true] at h
   rcases h with h | ⟨_,h⟩
   ·exact oper_round (hd o ho) h
   ·obtain⟨a0,w0,h0⟩:=h
    exact absurd (show Exit.outgrown=Exit.normal∧N a0 w0 from h0).1 (by simp)
  ·rename_i hw
   simp only[hw] at h
   exact⟨fun _ _=>trivial,h⟩
theorem wpAny_round {l:Nat} {P:Program} {md:Region.Mode} {ops:Array Oper} {N:Act→World→Prop} {Q:Exit→Act→World→Prop} (hd:∀ (i:Nat) (o:Oper),ops[i]? = some o→∀ c,o.op≠.defer c) (hQ:∀ a w,N a w→Q .normal a w) :
 ∀ (fuel:Nat) (listed:Array Bool) (a:Act) (w:World),wpAny P md ops (Plain N) fuel listed a w→wpAnyIn (Fence.wide.inRound l) 0 P md ops Q fuel listed a w
 | 0,listed,a,w,h=>⟨h.1,hQ _ _ h.2.2⟩
 | fuel+1,listed,a,w,h=>⟨fun e=>hQ _ _ (h.1 e).2,fun i hi=>wpOp_round (hd i) (wpOp_mono (fun a' w' h'=>wpAny_round hd hQ fuel _ a' w' h') (h.2 i hi))⟩
def isDefer:Op→Bool
 | .defer _=>true
 | _=>false
def noDefer (ops:Array Oper) : Bool:=ops.toList.all (fun o=>!isDefer o.op)
theorem noDefer_at {ops:Array Oper} (h:noDefer ops=true) (i:Nat) (o:Oper) (ho:ops[i]? = some o) (c:Call) : o.op≠.defer c:=by
 intro e
 unfold noDefer at h
 rw[List.all_eq_true] at h
 have:=h o (by rw[Array.mem_toList_iff];exact Array.mem_of_getElem? ho)
 rw[e] at this
 simp[isDefer] at this
theorem region_round {l:Nat} {P:Program} {id:Nat} {ops:Array Oper} {a:Act} {w:World} {N:Act→World→Prop} {S:World→Prop} {Q:Exit→Act→World→Prop} (hm:P.follows .mixedOrders=true) (hd:noDefer ops=true) (hQ:∀ a w,N a w→Q .normal a w)
 (h:wpAnyH P .any ops (Plain N) S ops.size (Array.replicate ops.size false) a w.drew) : (Code.region id ops true).wpIn (Fence.wide.inRound l) 0 P Q a w :=
 wpIn_region_any hm (wpAny_round (noDefer_at hd) hQ _ _ _ _ (wpAny_of_held _ _ _ _ h))
end Go.Proofs.YtnmfcaahdeddnaaGreatDoor.T5
