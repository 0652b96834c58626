/-
  Parts of the proof; conditions: as each says.
-/
import Derived.Lib.BufferWrite
import Derived.Test.YtnmfcaahdeddnaaGreatDoorMgLOJE
set_option maxRecDepth 100000
namespace Go.Proofs.YtnmfcaahdeddnaaGreatDoor
open Go.RowKit
set_option maxRecDepth 100000
theorem info5:(Tryz.prog.info? 5).map (fun i=>(i.zero,i.size,i.bytes))=some (some (.int .u8 0),1,1):=by kernel_rfl
theorem under106:Tryz.prog.underlying 154=some (.slice 5):=by kernel_rfl
theorem under144:Tryz.prog.underlying 227=some (.pointer 5):=by kernel_rfl
set_option maxHeartbeats 1000000 in
theorem clone_any (s:ByteArray) (w:World) (hlim:s.size≤281474976710656) :
 Calls Tryz.prog 204 #[.string s] w fun e w'=>e = .returned (.string s)∧Fr [] w w' := by
 by_cases h0:s.size=0
 ·have hs:s = ⟨#[]⟩:=by
   apply ByteArray.ext
   exact Array.eq_empty_of_size_eq_zero h0
  subst hs
  go_enter Tryz.func204,Tryz.ntmps204
  go_wp2
  go_ret
  exact⟨rfl,Fr.refl _ _⟩
 ·obtain⟨i0,hi,hz0,hz1,hz2⟩:=info_parts info5
  have hinfo:(Tryz.prog.info? 5).map (·.size)=some 1:=by rw[hi];simp[hz1]
  have hco:Tryz.prog.cellsOf 5=1:=by simp[Program.cellsOf,hi,hz1]
  obtain⟨M,hM⟩ : ∃ M,M=madeCells (Value.int .u8 0).cells (((s.size:Nat) : Int).toNat*i0.size):=⟨_,rfl⟩
  have hMs:M.size=s.size:=by rw[hM,size_madeCells,hz1];simp
  have hmk:∀ W:World,(Instr.makeSlice 154 (.int .i64 (s.size:Int)) (.int .i64 (s.size:Int))).run Tryz.prog W = .ok (.slice (some ⟨W.heap.size,0,none⟩) s.size s.size) (W.alloc (.cells M 5)):=fun W=>by
   have h:=run_make (P:=Tryz.prog) W 154 5 i0 (.int .u8 0) under106 hi hz0 .i64 .i64 (s.size:Int) (s.size:Int) (by omega) (by omega) (by rw[hz2];omega) (by omega)
   rw[← hM] at h
   simpa using h
  clear hM
  have hcp:=Lib.run_copy_row_string (P:=Tryz.prog) (w.alloc (.cells M 5)) 154 9 3 5 w.heap.size 0 s.size s.size s M 5 under106 hinfo (heap_alloc_new w _) (Nat.le_refl _) (by omega)
  obtain⟨Y,hY⟩ : ∃ Y,Y=(M.toList.take 0++Lib.byteCells s.data.toList++M.toList.drop (0+s.size)).toArray:=⟨_,rfl⟩
  rw[← hY] at hcp
  have hYl:Y.toList=Lib.byteCells s.data.toList:=by
   rw[hY,List.toList_toArray,List.take_zero,List.nil_append,List.drop_of_length_le (by rw[Array.length_toList];omega),List.append_nil]
  have hYs:Y.size=s.size:=by rw[← Array.length_toList,hYl,Lib.byteCells_length,← Lib.size_eq]
  have hgY:((w.alloc (.cells M 5)).setRow w.heap.size Y).heap[w.heap.size]? = some (.cells Y 5 (0,0)):=setRow_heap _ _ M _ 5 (0,0) (heap_alloc_new w _)
  have hne:s.data.toList≠[]:=fun e=>h0 (by rw[Lib.size_eq,e];rfl)
  have hUS:=Lib.run_unsafeString_row (P:=Tryz.prog) ((w.alloc (.cells M 5)).setRow w.heap.size Y) 227 3 9 5 under144 hco w.heap.size Y.size (by unfold World.shape?;rw[hgY]) s.data.toList hne (by rw[← Lib.size_eq];omega) (by rw[← Lib.size_eq];omega)
   (fun j x hx=>Lib.cells_of_row hgY Y.size j _ (by rw[List.take_of_length_le (by rw[Array.length_toList];exact Nat.le_refl _),hYl];simp[Lib.byteCells,hx]))
  rw[← Lib.size_eq] at hUS
  clear hY
  go_enter Tryz.func204,Tryz.ntmps204
  go_wp2
  go_ret
  have hb1:Below w.heap.size w (w.alloc (.cells M 5)):=(Below.refl _ w).alloc (Nat.le_refl _) _
  have hb2:Below w.heap.size (w.alloc (.cells M 5)) ((w.alloc (.cells M 5)).setRow w.heap.size Y):=⟨rfl,rfl,rfl,by simp,fun k hk=>setRow_other _ _ _ _ (by omega)⟩
  exact⟨rfl,Fr.ofBelow (Lib.below_freeze (hb1.trans hb2) (p:=⟨w.heap.size,0,none⟩) (Nat.le_refl _) _)⟩
theorem cloneS_any (s:ByteArray) (w:World) (hlim:s.size≤281474976710656) :
 Calls Tryz.prog 183 #[.string s] w fun e w'=>e = .returned (.string s)∧Fr [] w w' := by
 go_enter Tryz.func183,Tryz.ntmps183
 go_wp2_with (go_at_call 204;refine (clone_any _ _ hlim).mono ?_;rintro e w' ⟨rfl,hF⟩)
 go_ret
 exact⟨rfl,hF⟩
def TB (w:World) (B:Nat) (v0 v1 v2 v3 v4:Value) : Prop:=w.heap[B]? = some (.cells #[v0,v1,v2,v3,v4] 82 (0,0))
section
variable {w w' : World} {B:Nat} {v0 v1 v2 v3 v4:Value}
theorem TB.c0 (h:TB w B v0 v1 v2 v3 v4) : w.cell? ⟨B,0,none⟩=some v0:=by simp[TB] at h;simp[World.cell?,h]
theorem TB.c1 (h:TB w B v0 v1 v2 v3 v4) : w.cell? ⟨B,1,none⟩=some v1:=by simp[TB] at h;simp[World.cell?,h]
theorem TB.c2 (h:TB w B v0 v1 v2 v3 v4) : w.cell? ⟨B,2,none⟩=some v2:=by simp[TB] at h;simp[World.cell?,h]
theorem TB.c3 (h:TB w B v0 v1 v2 v3 v4) : w.cell? ⟨B,3,none⟩=some v3:=by simp[TB] at h;simp[World.cell?,h]
theorem TB.c4 (h:TB w B v0 v1 v2 v3 v4) : w.cell? ⟨B,4,none⟩=some v4:=by simp[TB] at h;simp[World.cell?,h]
theorem TB.fz (h:TB w B v0 v1 v2 v3 v4) (i:Nat) : w.frozen? ⟨B,i,none⟩=false:=by simp[TB] at h;simp[World.frozen?,h]
theorem TB.lt (h:TB w B v0 v1 v2 v3 v4) : B<w.heap.size:=(Array.getElem?_eq_some_iff.1 h).1
theorem TB.new (w:World) (v0 v1 v2 v3 v4:Value) : TB (w.alloc (.cells #[v0,v1,v2,v3,v4] 82)) w.heap.size v0 v1 v2 v3 v4:=heap_alloc_new w _
theorem TB.fr {S:List Nat} (h:TB w B v0 v1 v2 v3 v4) (f:Fr S w w') (hS:B∉S) : TB w' B v0 v1 v2 v3 v4:=(f.block _ h.lt hS).trans h
theorem TB.set (h:TB w B v0 v1 v2 v3 v4) (u0 u1 u2 u3 u4:Value) : TB (((((w.setCell ⟨B,0,none⟩ u0).setCell ⟨B,1,none⟩ u1).setCell ⟨B,2,none⟩ u2).setCell ⟨B,3,none⟩ u3).setCell ⟨B,4,none⟩ u4) B u0 u1 u2 u3 u4:=by
 unfold TB at *
 simp[World.setCell,Array.getElem?_modify,h]
theorem TB.fset {S:List Nat} {a:World} (f:Fr S a w) (hB:B∈S∨a.heap.size≤B) (u0 u1 u2 u3 u4:Value) : Fr S a (((((w.setCell ⟨B,0,none⟩ u0).setCell ⟨B,1,none⟩ u1).setCell ⟨B,2,none⟩ u2).setCell ⟨B,3,none⟩ u3).setCell ⟨B,4,none⟩ u4) :=
 ((((f.setCell hB _).setCell hB _).setCell hB _).setCell hB _).setCell hB _
end
set_option maxHeartbeats 1000000 in
theorem made_any (kd a b:Nat) (s:ByteArray) (w:World) (hs:s.size≤2 ^ 40) (hab:a≤b) (hb:b≤s.size) :
 Calls Tryz.prog 156 #[.int .i64 kd,.string s,.int .i64 a,.int .i64 b] w fun e w'=>e = .returned (.agg #[.int .i64 kd,.string (s.extract a b),.int .i64 a,.int .i64 b,.int .i64 0])∧Fr [] w w' := by
 have hx:(s.extract a b).size≤281474976710656:=by rw[ByteArray.size_extract];omega
 have hc:=fun w=>cloneS_any (s.extract a b) w hx
 clear hx
 have F0:Fr [] w (w.alloc (.cells #[.int .i64 0,.string ⟨#[]⟩,.int .i64 0,.int .i64 0,.int .i64 0] 82)):=(Fr.refl _ _).alloc _
 have t0:=TB.new w (.int .i64 0) (.string ⟨#[]⟩) (.int .i64 0) (.int .i64 0) (.int .i64 0)
 go_enter Tryz.func156,Tryz.ntmps156
 go_wp2_with fail
 generalize hw1:w.alloc _=w1
 have F1:Fr [] w w1:=by rw[← hw1];exact F0
 have t1:TB w1 w.heap.size (.int .i64 0) (.string ⟨#[]⟩) (.int .i64 0) (.int .i64 0) (.int .i64 0):=by rw[← hw1];exact t0
 clear hw1 F0 t0
 have HG:Hid (w.heap.size≤w.heap.size):=Nat.le_refl _
 generalize hB:w.heap.size=B at t1 HG ⊢
 refine (hc _).mono ?_
 rintro e w2 ⟨rfl,hF⟩
 have t2:=t1.fr hF (by simp)
 have c0:=t2.c0
 have c1:=t2.c1
 have c2:=t2.c2
 have c3:=t2.c3
 have c4:=t2.c4
 have fz:=t2.fz
 go_wp2
 have t3:=t2.set (.int .i64 kd) (.string (s.extract a b)) (.int .i64 a) (.int .i64 b) (.int .i64 0)
 have F3:=TB.fset (F1.trans hF) (B:=B) (.inr (by omega)) (.int .i64 kd) (.string (s.extract a b)) (.int .i64 a) (.int .i64 b) (.int .i64 0)
 refine bodyPost_ret (v:=.agg #[.int .i64 kd,.string (s.extract a b),.int .i64 a,.int .i64 b,.int .i64 0]) ?_ rfl ⟨rfl,F3⟩
 have d0:=t3.c0
 have d1:=t3.c1
 have d2:=t3.c2
 have d3:=t3.c3
 have d4:=t3.c4
 clear c0 c1 c2 c3 c4 fz t2 t3
 generalize ((((w2.setCell _ _).setCell _ _).setCell _ _).setCell _ _).setCell _ _=w3 at *
 simp[results,Tryz.results156,go_sem,d0,d1,d2,d3,d4]
def tokA (t:Tok) : Array Value:=#[.int .i64 t.kind,.string ⟨t.text.toArray⟩,.int .i64 t.frm,.int .i64 t.to,.int .i64 t.n]
set_option maxHeartbeats 2000000 in
theorem readName_raw (s:ByteArray) (k:Nat) (w:World) (hs:s.size≤2 ^ 40) (hk:k≤s.size) (T:Tabs w) (kd:Nat) (hkd:kd=if wrd (s.extract k (rnE s k)) then 2 else 1) :
 Calls Tryz.prog 152 #[.string s,.int .i64 k] w fun e w'=>e = .returned (.agg #[.int .i64 kd,.string (s.extract k (rnE s k)),.int .i64 k,.int .i64 (rnE s k),.int .i64 0])∧Fr [] w w' := by
 have hrl:=rnE_le s k hk
 have hR:=fun w T=>runEnd_any s k w (by unfold maxLen;omega) hk T
 have hM:=fun w=>made_any 1 k (rnE s k) s w hs hrl.1 hrl.2
 have hW:=fun w=>isWord_any (s.extract k (rnE s k)) w
 generalize wrd (s.extract k (rnE s k))=wd at *
 generalize s.extract k (rnE s k)=X at *
 generalize rnE s k=E at *
 have F0:Fr [] w (w.alloc (.cells #[.int .i64 0,.string ⟨#[]⟩,.int .i64 0,.int .i64 0,.int .i64 0] 82)):=(Fr.refl _ _).alloc _
 have t0:=TB.new w (.int .i64 0) (.string ⟨#[]⟩) (.int .i64 0) (.int .i64 0) (.int .i64 0)
 go_enter Tryz.func152,Tryz.ntmps152
 go_wp2_with fail
 generalize hw1:w.alloc _=w1
 have F1:Fr [] w w1:=by rw[← hw1];exact F0
 have t1:TB w1 w.heap.size (.int .i64 0) (.string ⟨#[]⟩) (.int .i64 0) (.int .i64 0) (.int .i64 0):=by rw[← hw1];exact t0
 clear hw1 F0 t0
 have T1:=T.fr F1 (by simp)
 generalize hB:w.heap.size=B at t1 ⊢
 refine (hR w1 T1).mono ?_
 rintro e w1' ⟨rfl,e1⟩
 subst e1
 go_wp2_with fail
 refine (hM _).mono ?_
 rintro e w2 ⟨rfl,hF⟩
 have t2:=t1.fr hF (by simp)
 go_wp2_with fail
 have F3:Fr [] w2 (w2.alloc (.cells #[.int .i64 1,.string X,.int .i64 k,.int .i64 E,.int .i64 0] 82)):=(Fr.refl _ _).alloc _
 have u3:=TB.new w2 (.int .i64 1) (.string X) (.int .i64 k) (.int .i64 E) (.int .i64 0)
 have t3:=t2.fr F3 (by simp)
 have hCB:B<w2.heap.size:=t2.lt
 have hsz:=(F1.trans hF).size
 have F4:=(F1.trans hF).trans F3
 generalize w2.alloc (.cells #[.int .i64 1,.string X,.int .i64 k,.int .i64 E,.int .i64 0] 82)=w3 at *
 generalize w2.heap.size=C at *
 refine (hW w3).mono ?_
 rintro e w3 ⟨rfl,rfl⟩
 have hne:C≠B:=by omega
 have hne' : B≠C:=by omega
 clear hCB hrl
 have HH:Hid (w.heap.size=B∧w.heap.size≤C):=⟨hB,hsz⟩
 clear hB hsz t2 t1 T1 F1
 have a0:=t3.c0
 have a1:=t3.c1
 have a2:=t3.c2
 have a3:=t3.c3
 have a4:=t3.c4
 have b0:=u3.c0
 have b1:=u3.c1
 have b2:=u3.c2
 have b3:=u3.c3
 have b4:=u3.c4
 have fz:=t3.fz
 have gz:=u3.fz
 cases wd
 ·simp only[Bool.false_eq_true,if_false] at hkd
  subst hkd
  go_wp2
  have t4:=t3.set (.int .i64 1) (.string X) (.int .i64 k) (.int .i64 E) (.int .i64 0)
  have F5:=TB.fset F4 (B:=B) (.inr (by have:=HH.out;omega)) (.int .i64 1) (.string X) (.int .i64 k) (.int .i64 E) (.int .i64 0)
  refine bodyPost_ret (v:=.agg #[.int .i64 1,.string X,.int .i64 k,.int .i64 E,.int .i64 0]) ?_ rfl ⟨rfl,F5⟩
  have d0:=t4.c0
  have d1:=t4.c1
  have d2:=t4.c2
  have d3:=t4.c3
  have d4:=t4.c4
  clear a0 a1 a2 a3 a4 fz b0 b1 b2 b3 b4 gz t3 u3 t4 F5
  generalize ((((w3.setCell _ _).setCell _ _).setCell _ _).setCell _ _).setCell _ _=w4 at *
  simp[results,Tryz.results152,go_sem,d0,d1,d2,d3,d4]
 ·simp only[if_true] at hkd
  subst hkd
  go_wp2
  have F4' := F4.setCell (p:=⟨C,0,none⟩) (.inr (by have:=HH.out;simp;omega)) (.int .i64 2)
  have t3' := t3.fr (Fr.setCell (S:=[C]) (p:=⟨C,0,none⟩) (Fr.refl _ w3) (.inl (by simp)) (.int .i64 2)) (by simpa using hne')
  have t4:=t3'.set (.int .i64 2) (.string X) (.int .i64 k) (.int .i64 E) (.int .i64 0)
  have F5:=TB.fset F4' (B:=B) (.inr (by have:=HH.out;omega)) (.int .i64 2) (.string X) (.int .i64 k) (.int .i64 E) (.int .i64 0)
  refine bodyPost_ret (v:=.agg #[.int .i64 2,.string X,.int .i64 k,.int .i64 E,.int .i64 0]) ?_ rfl ⟨rfl,F5⟩
  have d0:=t4.c0
  have d1:=t4.c1
  have d2:=t4.c2
  have d3:=t4.c3
  have d4:=t4.c4
  clear a0 a1 a2 a3 a4 fz b0 b1 b2 b3 b4 gz t3 u3 t4 F5 t3' F4'
  generalize (((((w3.setCell _ _).setCell _ _).setCell _ _).setCell _ _).setCell _ _).setCell _ _=w4 at *
  simp[results,Tryz.results152,go_sem,d0,d1,d2,d3,d4]
theorem extract_tok (s:ByteArray) (k m:Nat) : s.extract k (k+m) = ⟨((s.data.toList.drop k).take m).toArray⟩:=by
 rw[Lib.extract_eq]
 simp
theorem wrd_mk (l:List UInt8) : wrd ⟨l.toArray⟩=wordL l:=by simp[wrd]
theorem num_mk (l:List UInt8) : num ⟨l.toArray⟩=numL l:=by simp[num]
theorem readName_any (s:ByteArray) (k:Nat) (w:World) (hs:s.size≤2 ^ 40) (hk:k≤s.size) (T:Tabs w) :
 Calls Tryz.prog 152 #[.string s,.int .i64 k] w fun e w'=>e = .returned (.agg (tokA ⟨if wordL ((s.data.toList.drop k).take (runL (s.data.toList.drop k))) then 2 else 1,(s.data.toList.drop k).take (runL (s.data.toList.drop k)),k,k+runL (s.data.toList.drop k),0⟩))∧Fr [] w w' := by
 refine (readName_raw s k w hs hk T _ rfl).mono ?_
 rintro e w' ⟨rfl,hF⟩
 refine⟨?_,hF⟩
 unfold rnE
 rw[extract_tok,wrd_mk]
 rfl
set_option maxHeartbeats 400000 in
theorem readNumber_none (s:ByteArray) (a b:Nat) (w:World) (hs:s.size≤2 ^ 40) (hab:a≤b) (hb:b≤s.size) (hn:num (s.extract a b)=none) :
 Calls Tryz.prog 153 #[.string s,.int .i64 a,.int .i64 b] w fun e w'=>e = .returned (.tuple #[.agg #[.int .i64 0,.string ⟨#[]⟩,.int .i64 a,.int .i64 0,.int .i64 0],.int .i64 41])∧Fr [] w w' := by
 have hN:=fun w=>number_any (s.extract a b) w (by rw[ByteArray.size_extract];unfold maxLen;omega)
 rw[hn,nOut] at hN
 simp only[Option.getD_none,Option.isSome_none] at hN
 go_enter Tryz.func153,Tryz.ntmps153
 go_wp2_with (go_at_call 172;refine (hN _).mono ?_;rintro e w' ⟨rfl,rfl⟩)
 exact bodyPost_ret (v:=.tuple #[.agg #[.int .i64 0,.string ⟨#[]⟩,.int .i64 a,.int .i64 0,.int .i64 0],.int .i64 41]) (by simp[results,Tryz.results153,go_sem]) rfl ⟨rfl,(Fr.refl _ _).alloc _⟩
set_option maxHeartbeats 400000 in
theorem readNumber_some (s:ByteArray) (a b:Nat) (w:World) (hs:s.size≤2 ^ 40) (hab:a≤b) (hb:b≤s.size) (n:Nat) (hn:num (s.extract a b)=some n) :
 Calls Tryz.prog 153 #[.string s,.int .i64 a,.int .i64 b] w fun e w'=>e = .returned (.tuple #[.agg #[.int .i64 4,.string (s.extract a b),.int .i64 a,.int .i64 b,.int .i64 n],.int .i64 0])∧Fr [] w w' := by
 have hN:=fun w=>number_any (s.extract a b) w (by rw[ByteArray.size_extract];unfold maxLen;omega)
 rw[hn,nOut] at hN
 simp only[Option.getD_some,Option.isSome_some] at hN
 have hM:=fun w=>made_any 4 a b s w hs hab hb
 have F0:Fr [] w (w.alloc (.cells #[.int .i64 0,.string ⟨#[]⟩,.int .i64 0,.int .i64 0,.int .i64 0] 82)):=(Fr.refl _ _).alloc _
 have t0:=TB.new w (.int .i64 0) (.string ⟨#[]⟩) (.int .i64 0) (.int .i64 0) (.int .i64 0)
 clear hn
 go_enter Tryz.func153,Tryz.ntmps153
 go_wp2_with fail
 generalize hw1:w.alloc _=w1
 have F1:Fr [] w w1:=by rw[← hw1];exact F0
 have t1:TB w1 w.heap.size (.int .i64 0) (.string ⟨#[]⟩) (.int .i64 0) (.int .i64 0) (.int .i64 0):=by rw[← hw1];exact t0
 clear hw1 F0 t0
 generalize hB:w.heap.size=B at t1 ⊢
 refine (hN w1).mono ?_
 rintro e w1 ⟨rfl,rfl⟩
 go_wp2_with fail
 refine (hM _).mono ?_
 rintro e w2 ⟨rfl,hF⟩
 have t2:=t1.fr hF (by simp)
 have hCB:=t2.lt
 have F2:=F1.trans hF
 have a0:=t2.c0
 have a1:=t2.c1
 have a2:=t2.c2
 have a3:=t2.c3
 have a4:=t2.c4
 have fz:=t2.fz
 have HB:Hid (w.heap.size=B):=hB
 clear hB t1 F1 hF
 go_wp2
 have t4:=(t2.set (.int .i64 4) (.string (s.extract a b)) (.int .i64 a) (.int .i64 b) (.int .i64 n)).fr (Fr.alloc (S:=[]) (Fr.refl _ _) (.cells #[.int .i64 4,.string (s.extract a b),.int .i64 a,.int .i64 b,.int .i64 n] 82)) (by simp)
 have F5:=(TB.fset F2 (B:=B) (.inr (by have:=HB.out;omega)) (.int .i64 4) (.string (s.extract a b)) (.int .i64 a) (.int .i64 b) (.int .i64 n)).alloc (.cells #[.int .i64 4,.string (s.extract a b),.int .i64 a,.int .i64 b,.int .i64 n] 82)
 refine bodyPost_ret (v:=.tuple #[.agg #[.int .i64 4,.string (s.extract a b),.int .i64 a,.int .i64 b,.int .i64 n],.int .i64 0]) ?_ rfl ⟨rfl,F5⟩
 have d0:=t4.c0
 have d1:=t4.c1
 have d2:=t4.c2
 have d3:=t4.c3
 have d4:=t4.c4
 clear a0 a1 a2 a3 a4 fz t4 F5 t2 hN hM
 generalize (((((w2.setCell _ _).setCell _ _).setCell _ _).setCell _ _).setCell _ _).alloc _=w4 at *
 simp[results,Tryz.results153,go_sem,d0,d1,d2,d3,d4]
def rdA (p:Nat) : Except Nat Tok→Array Value
 | .ok t=>tokA t
 | .error _=>#[.int .i64 0,.string ⟨#[]⟩,.int .i64 p,.int .i64 0,.int .i64 0]
def rdE:Except Nat Tok→Nat
 | .ok _=>0
 | .error e=>e
def rd (s:ByteArray) (k:Nat) : Except Nat Tok:=readL k (s.data.toList.drop k)
theorem drop_getD (s:ByteArray) (k:Nat) (h:k<s.size) : (s.data.toList.drop k).getD 0 0=s[k]:=by rw[drop_cons s k h];rfl
def nmR (s:ByteArray) (a b:Nat) : Except Nat Tok:=match num (s.extract a b) with | none=>.error 41 | some n=>.ok ⟨4,(s.data.toList.drop a).take (b-a),a,b,n⟩
theorem nmR_any (s:ByteArray) (a b:Nat) (w:World) (hs:s.size≤2 ^ 40) (hab:a≤b) (hb:b≤s.size) :
 Calls Tryz.prog 153 #[.string s,.int .i64 a,.int .i64 b] w fun e w'=>∃ x0 X x2 x3 x4,rdA a (nmR s a b) = #[.int .i64 x0,.string X,.int .i64 x2,.int .i64 x3,.int .i64 x4]∧e = .returned (.tuple #[.agg #[.int .i64 x0,.string X,.int .i64 x2,.int .i64 x3,.int .i64 x4],.int .i64 (rdE (nmR s a b))])∧Fr [] w w' := by
 cases hn:num (s.extract a b) with
 | none =>
   have e1:nmR s a b = .error 41:=by unfold nmR;rw[hn]
   refine (readNumber_none s a b w hs hab hb hn).mono ?_
   rintro e w' ⟨rfl,hF⟩
   rw[e1]
   exact⟨_,_,_,_,_,rfl,rfl,hF⟩
 | some n =>
   have e1:nmR s a b = .ok ⟨4,(s.data.toList.drop a).take (b-a),a,b,n⟩:=by unfold nmR;rw[hn]
   refine (readNumber_some s a b w hs hab hb n hn).mono ?_
   rintro e w' ⟨rfl,hF⟩
   rw[e1]
   refine⟨_,_,_,_,_,rfl,?_,hF⟩
   rw[Lib.extract_eq]
   rfl
def rdOut (s:ByteArray) (k:Nat) : Ending:=.returned (.tuple #[.agg (rdA k (rd s k)),.int .i64 (rdE (rd s k))])
set_option maxHeartbeats 400000 in
theorem read_name (s:ByteArray) (k:Nat) (w:World) (hs:s.size≤2 ^ 40) (hk:k<s.size) (T:Tabs w) (h2:kindN s[k].toNat=2) :
 Calls Tryz.prog 106 #[.string s,.int .i64 k] w fun e w'=>e=rdOut s k∧Fr [] w w' := by
 have hb:=byte_lt s[k]
 have hK:=fun w T=>kindOf_any s[k].toNat w hb T
 rw[h2] at hK
 have hN:=fun w T=>readName_any s k w hs (Nat.le_of_lt hk) T
 have er:rd s k = .ok ⟨if wordL ((s.data.toList.drop k).take (runL (s.data.toList.drop k))) then 2 else 1,(s.data.toList.drop k).take (runL (s.data.toList.drop k)),k,k+runL (s.data.toList.drop k),0⟩:=by
  unfold rd readL
  rw[drop_getD s k hk,if_pos h2]
 have hE:Hid (rdOut s k = .returned (.tuple #[.agg (tokA ⟨if wordL ((s.data.toList.drop k).take (runL (s.data.toList.drop k))) then 2 else 1,(s.data.toList.drop k).take (runL (s.data.toList.drop k)),k,k+runL (s.data.toList.drop k),0⟩),.int .i64 0])):=by
  show _=_
  unfold rdOut
  rw[er]
  rfl
 generalize (⟨if wordL ((s.data.toList.drop k).take (runL (s.data.toList.drop k))) then 2 else 1,(s.data.toList.drop k).take (runL (s.data.toList.drop k)),k,k+runL (s.data.toList.drop k),0⟩ : Tok)=t at hN hE
 unfold tokA at hN hE
 generalize rdOut s k=R at *
 generalize (t.kind:Int)=x0 at hN hE
 generalize (⟨t.text.toArray⟩ : ByteArray)=X at hN hE
 generalize (t.frm:Int)=x2 at hN hE
 generalize (t.to:Int)=x3 at hN hE
 generalize (t.n:Int)=x4 at hN hE
 clear h2 er
 have F0:Fr [] w (w.alloc (.cells #[.int .i64 0,.string ⟨#[]⟩,.int .i64 0,.int .i64 0,.int .i64 0] 82)):=(Fr.refl _ _).alloc _
 have t0:=TB.new w (.int .i64 0) (.string ⟨#[]⟩) (.int .i64 0) (.int .i64 0) (.int .i64 0)
 go_enter Tryz.func106,Tryz.ntmps106
 go_wp2_with fail
 generalize hw1:w.alloc _=w1
 have F1:Fr [] w w1:=by rw[← hw1];exact F0
 have t1:TB w1 w.heap.size (.int .i64 0) (.string ⟨#[]⟩) (.int .i64 0) (.int .i64 0) (.int .i64 0):=by rw[← hw1];exact t0
 clear hw1 F0 t0
 have T1:=T.fr F1 (by simp)
 generalize hB:w.heap.size=B at t1 ⊢
 refine (hK w1 T1).mono ?_
 rintro e w1 ⟨rfl,rfl⟩
 go_wp2_with fail
 refine (hN _ T1).mono ?_
 rintro e w2 ⟨rfl,hF⟩
 have t2:=t1.fr hF (by simp)
 have F2:=F1.trans hF
 have a0:=t2.c0
 have a1:=t2.c1
 have a2:=t2.c2
 have a3:=t2.c3
 have a4:=t2.c4
 have fz:=t2.fz
 have HB:Hid (w.heap.size=B):=hB
 clear hB t1 F1 hF T1 hK
 go_wp2
 have t4:=t2.set (.int .i64 x0) (.string X) (.int .i64 x2) (.int .i64 x3) (.int .i64 x4)
 have F5:=TB.fset F2 (B:=B) (.inr (by have:=HB.out;omega)) (.int .i64 x0) (.string X) (.int .i64 x2) (.int .i64 x3) (.int .i64 x4)
 refine bodyPost_ret (v:=.tuple #[.agg #[.int .i64 x0,.string X,.int .i64 x2,.int .i64 x3,.int .i64 x4],.int .i64 0]) ?_ rfl ⟨by rw[hE.out],F5⟩
 have d0:=t4.c0
 have d1:=t4.c1
 have d2:=t4.c2
 have d3:=t4.c3
 have d4:=t4.c4
 clear a0 a1 a2 a3 a4 fz t4 F5 t2
 generalize ((((w2.setCell _ _).setCell _ _).setCell _ _).setCell _ _).setCell _ _=w4 at *
 simp[results,Tryz.results106,go_sem,d0,d1,d2,d3,d4]
set_option maxHeartbeats 400000 in
theorem read_digit (s:ByteArray) (k:Nat) (w:World) (hs:s.size≤2 ^ 40) (hk:k<s.size) (T:Tabs w) (h3:kindN s[k].toNat=3) :
 Calls Tryz.prog 106 #[.string s,.int .i64 k] w fun e w'=>e=rdOut s k∧Fr [] w w' := by
 have hb:=byte_lt s[k]
 have hK:=fun w T=>kindOf_any s[k].toNat w hb T
 rw[h3] at hK
 have hrl:=rnE_le s k (Nat.le_of_lt hk)
 have hR:=fun w T=>runEnd_any s k w (by unfold maxLen;omega) (Nat.le_of_lt hk) T
 have hN:=fun w=>nmR_any s k (rnE s k) w hs hrl.1 hrl.2
 have er:rd s k=nmR s k (rnE s k):=by
  unfold rd readL nmR rnE
  rw[drop_getD s k hk,if_neg (by omega),if_pos h3,extract_tok,num_mk,Nat.add_sub_cancel_left]
  rfl
 have hE:Hid (rdOut s k = .returned (.tuple #[.agg (rdA k (nmR s k (rnE s k))),.int .i64 (rdE (nmR s k (rnE s k)))])):=by
  show _=_
  unfold rdOut
  rw[er]
 generalize rdOut s k=R at *
 generalize rdA k (nmR s k (rnE s k))=A at hN hE
 generalize (rdE (nmR s k (rnE s k)) : Int)=c at hN hE
 generalize rnE s k=E at *
 clear h3 er hrl
 have F0:Fr [] w (w.alloc (.cells #[.int .i64 0,.string ⟨#[]⟩,.int .i64 0,.int .i64 0,.int .i64 0] 82)):=(Fr.refl _ _).alloc _
 have t0:=TB.new w (.int .i64 0) (.string ⟨#[]⟩) (.int .i64 0) (.int .i64 0) (.int .i64 0)
 go_enter Tryz.func106,Tryz.ntmps106
 go_wp2_with fail
 generalize hw1:w.alloc _=w1
 have F1:Fr [] w w1:=by rw[← hw1];exact F0
 have t1:TB w1 w.heap.size (.int .i64 0) (.string ⟨#[]⟩) (.int .i64 0) (.int .i64 0) (.int .i64 0):=by rw[← hw1];exact t0
 clear hw1 F0 t0
 have T1:=T.fr F1 (by simp)
 generalize hB:w.heap.size=B at t1 ⊢
 refine (hK w1 T1).mono ?_
 rintro e w1 ⟨rfl,rfl⟩
 go_wp2_with fail
 refine (hR _ T1).mono ?_
 rintro e w1 ⟨rfl,rfl⟩
 go_wp2_with fail
 refine (hN _).mono ?_
 rintro e w2 ⟨x0,X,x2,x3,x4,hA,rfl,hF⟩
 have HA:Hid _:=hA
 clear hA hR
 have t2:=t1.fr hF (by simp)
 have F2:=F1.trans hF
 have a0:=t2.c0
 have a1:=t2.c1
 have a2:=t2.c2
 have a3:=t2.c3
 have a4:=t2.c4
 have fz:=t2.fz
 have HB:Hid (w.heap.size=B):=hB
 clear hB t1 F1 hF T1 hK
 go_wp2
 have t4:=t2.set (.int .i64 x0) (.string X) (.int .i64 x2) (.int .i64 x3) (.int .i64 x4)
 have F5:=TB.fset F2 (B:=B) (.inr (by have:=HB.out;omega)) (.int .i64 x0) (.string X) (.int .i64 x2) (.int .i64 x3) (.int .i64 x4)
 refine bodyPost_ret (v:=.tuple #[.agg #[.int .i64 x0,.string X,.int .i64 x2,.int .i64 x3,.int .i64 x4],.int .i64 c]) ?_ rfl ⟨by rw[hE.out,HA.out],F5⟩
 have d0:=t4.c0
 have d1:=t4.c1
 have d2:=t4.c2
 have d3:=t4.c3
 have d4:=t4.c4
 clear a0 a1 a2 a3 a4 fz t4 F5 t2
 generalize ((((w2.setCell _ _).setCell _ _).setCell _ _).setCell _ _).setCell _ _=w4 at *
 simp[results,Tryz.results106,go_sem,d0,d1,d2,d3,d4]
set_option maxHeartbeats 400000 in
theorem read_quote (s:ByteArray) (k:Nat) (w:World) (hs:s.size≤2 ^ 40) (hk:k<s.size) (T:Tabs w) (h4:kindN s[k].toNat=4) :
 Calls Tryz.prog 106 #[.string s,.int .i64 k] w fun e w'=>e=rdOut s k∧Fr [] w w' := by
 have hb:=byte_lt s[k]
 have hK:=fun w T=>kindOf_any s[k].toNat w hb T
 rw[h4] at hK
 have hN:=fun w=>nmR_any s k (min (k+3) s.size) w hs (by omega) (by omega)
 have hl:(s.data.toList.drop k).length=s.size-k:=by rw[List.length_drop,← Lib.size_eq]
 have e3:(s.data.toList.drop k).take 3=(s.data.toList.drop k).take (min (k+3) s.size-k):=by
  by_cases h:k+3≤s.size
  ·rw[show min (k+3) s.size-k=3 from by omega]
  ·rw[show min (k+3) s.size-k=s.size-k from by omega,List.take_of_length_le (by omega),List.take_of_length_le (by omega)]
 have er:rd s k=nmR s k (min (k+3) s.size):=by
  unfold rd readL nmR
  rw[drop_getD s k hk,if_neg (by omega),if_neg (by omega),if_pos h4,Lib.extract_eq,num_mk,e3,hl]
  rw[show k+min 3 (s.size-k)=min (k+3) s.size from by omega]
  rfl
 have hE:Hid (rdOut s k = .returned (.tuple #[.agg (rdA k (nmR s k (min (k+3) s.size))),.int .i64 (rdE (nmR s k (min (k+3) s.size)))])):=by
  show _=_
  unfold rdOut
  rw[er]
 generalize rdOut s k=R at *
 generalize rdA k (nmR s k (min (k+3) s.size))=A at hN hE
 generalize (rdE (nmR s k (min (k+3) s.size)) : Int)=c at hN hE
 have hN' : ∀ m:Int,m=((min (k+3) s.size:Nat) : Int)→∀ w,Calls Tryz.prog 153 #[.string s,.int .i64 k,.int .i64 m] w fun e w'=>∃ x0 X x2 x3 x4,A = #[.int .i64 x0,.string X,.int .i64 x2,.int .i64 x3,.int .i64 x4]∧e = .returned (.tuple #[.agg #[.int .i64 x0,.string X,.int .i64 x2,.int .i64 x3,.int .i64 x4],.int .i64 c])∧Fr [] w w' := fun m hm w=>by rw[hm];exact hN w
 clear h4 er e3 hl hN
 have F0:Fr [] w (w.alloc (.cells #[.int .i64 0,.string ⟨#[]⟩,.int .i64 0,.int .i64 0,.int .i64 0] 82)):=(Fr.refl _ _).alloc _
 have t0:=TB.new w (.int .i64 0) (.string ⟨#[]⟩) (.int .i64 0) (.int .i64 0) (.int .i64 0)
 go_enter Tryz.func106,Tryz.ntmps106
 go_wp2_with fail
 generalize hw1:w.alloc _=w1
 have F1:Fr [] w w1:=by rw[← hw1];exact F0
 have t1:TB w1 w.heap.size (.int .i64 0) (.string ⟨#[]⟩) (.int .i64 0) (.int .i64 0) (.int .i64 0):=by rw[← hw1];exact t0
 clear hw1 F0 t0
 have T1:=T.fr F1 (by simp)
 generalize hB:w.heap.size=B at t1 ⊢
 refine (hK w1 T1).mono ?_
 rintro e w1 ⟨rfl,rfl⟩
 go_wp2_with fail
 all_goals
  refine (hN' _ (by omega) _).mono ?_
  rintro e w2 ⟨x0,X,x2,x3,x4,hA,rfl,hF⟩
  have HA:Hid _:=hA
  clear hA hN'
  have t2:=t1.fr hF (by simp)
  have F2:=F1.trans hF
  have a0:=t2.c0
  have a1:=t2.c1
  have a2:=t2.c2
  have a3:=t2.c3
  have a4:=t2.c4
  have fz:=t2.fz
  have HB:Hid (w.heap.size=B):=hB
  clear hB t1 F1 hF T1 hK
  go_wp2
  have t4:=t2.set (.int .i64 x0) (.string X) (.int .i64 x2) (.int .i64 x3) (.int .i64 x4)
  have F5:=TB.fset F2 (B:=B) (.inr (by have:=HB.out;omega)) (.int .i64 x0) (.string X) (.int .i64 x2) (.int .i64 x3) (.int .i64 x4)
  refine bodyPost_ret (v:=.tuple #[.agg #[.int .i64 x0,.string X,.int .i64 x2,.int .i64 x3,.int .i64 x4],.int .i64 c]) ?_ rfl ⟨by rw[hE.out,HA.out],F5⟩
  have d0:=t4.c0
  have d1:=t4.c1
  have d2:=t4.c2
  have d3:=t4.c3
  have d4:=t4.c4
  clear a0 a1 a2 a3 a4 fz t4 F5 t2
  generalize ((((w2.setCell _ _).setCell _ _).setCell _ _).setCell _ _).setCell _ _=w4 at *
  simp[results,Tryz.results106,go_sem,d0,d1,d2,d3,d4]
set_option maxHeartbeats 400000 in
theorem read_bad (s:ByteArray) (k:Nat) (w:World) (hs:s.size≤2 ^ 40) (hk:k<s.size) (T:Tabs w) (h2:¬ kindN s[k].toNat=2) (h3:¬ kindN s[k].toNat=3) (h4:¬ kindN s[k].toNat=4) (hz:signL (s.data.toList.drop k)=0) :
 Calls Tryz.prog 106 #[.string s,.int .i64 k] w fun e w'=>e=rdOut s k∧Fr [] w w' := by
 have hb:=byte_lt s[k]
 have hK:=fun w T=>kindOf_any s[k].toNat w hb T
 have h2' : ((kindN s[k].toNat:Int) == 2)=false:=beq_int_false (by omega)
 have h3' : ((kindN s[k].toNat:Int) == 3)=false:=beq_int_false (by omega)
 have h4' : ((kindN s[k].toNat:Int) == 4)=false:=beq_int_false (by omega)
 have hx:(s.extract k s.size).size≤maxLen:=by rw[ByteArray.size_extract];unfold maxLen;omega
 have hS:=fun w T=>signLength_any (s.extract k s.size) w hx T
 have es:sgn (s.extract k s.size)=signL (s.data.toList.drop k):=by unfold sgn;rw[extract_rest]
 rw[es] at hS
 clear hx es
 have er:rd s k = .error 40:=by
  unfold rd readL
  rw[drop_getD s k hk,if_neg h2,if_neg h3,if_neg h4,if_pos hz]
 have hE:Hid (rdOut s k = .returned (.tuple #[.agg #[.int .i64 0,.string ⟨#[]⟩,.int .i64 k,.int .i64 0,.int .i64 0],.int .i64 40])):=by
  show _=_
  unfold rdOut
  rw[er]
  rfl
 rw[hz] at hS
 generalize rdOut s k=R at *
 generalize kindN s[k].toNat=K at *
 clear h2 h3 h4 er hz
 have F0:Fr [] w (w.alloc (.cells #[.int .i64 0,.string ⟨#[]⟩,.int .i64 0,.int .i64 0,.int .i64 0] 82)):=(Fr.refl _ _).alloc _
 have t0:=TB.new w (.int .i64 0) (.string ⟨#[]⟩) (.int .i64 0) (.int .i64 0) (.int .i64 0)
 go_enter Tryz.func106,Tryz.ntmps106
 go_wp2_with fail
 generalize hw1:w.alloc _=w1
 have F1:Fr [] w w1:=by rw[← hw1];exact F0
 have t1:TB w1 w.heap.size (.int .i64 0) (.string ⟨#[]⟩) (.int .i64 0) (.int .i64 0) (.int .i64 0):=by rw[← hw1];exact t0
 clear hw1 F0 t0
 have T1:=T.fr F1 (by simp)
 generalize hB:w.heap.size=B at t1 ⊢
 refine (hK w1 T1).mono ?_
 rintro e w1 ⟨rfl,rfl⟩
 go_wp2_with fail
 refine (hS _ T1).mono ?_
 rintro e w2 ⟨rfl,nn,rfl⟩
 have hF:Fr [] w1 (w1.drewN nn):=(Fr.refl _ _).drewN nn
 have t2:=t1.fr hF (by simp)
 have F2:=F1.trans hF
 have a0:=t2.c0
 have a1:=t2.c1
 have a2:=t2.c2
 have a3:=t2.c3
 have a4:=t2.c4
 have fz:=t2.fz
 have HB:Hid (w.heap.size=B):=hB
 clear hB t1 F1 hF T1 hK
 go_wp2
 have t4:=t2.set (.int .i64 0) (.string ⟨#[]⟩) (.int .i64 k) (.int .i64 0) (.int .i64 0)
 have F5:=TB.fset F2 (B:=B) (.inr (by have:=HB.out;omega)) (.int .i64 0) (.string ⟨#[]⟩) (.int .i64 k) (.int .i64 0) (.int .i64 0)
 refine bodyPost_ret (v:=.tuple #[.agg #[.int .i64 0,.string ⟨#[]⟩,.int .i64 k,.int .i64 0,.int .i64 0],.int .i64 40]) ?_ rfl ⟨by rw[hE.out],F5⟩
 have d0:=t4.c0
 have d1:=t4.c1
 have d2:=t4.c2
 have d3:=t4.c3
 have d4:=t4.c4
 clear a0 a1 a2 a3 a4 fz t4 F5 t2
 generalize (((((w1.drewN nn).setCell _ _).setCell _ _).setCell _ _).setCell _ _).setCell _ _=w4 at *
 simp[results,Tryz.results106,go_sem,d0,d1,d2,d3,d4]
set_option maxHeartbeats 400000 in
theorem read_sign (s:ByteArray) (k:Nat) (w:World) (hs:s.size≤2 ^ 40) (hk:k<s.size) (T:Tabs w) (h2:¬ kindN s[k].toNat=2) (h3:¬ kindN s[k].toNat=3) (h4:¬ kindN s[k].toNat=4) (hz:¬ signL (s.data.toList.drop k)=0) (hle:k+signL (s.data.toList.drop k)≤s.size) :
 Calls Tryz.prog 106 #[.string s,.int .i64 k] w fun e w'=>e=rdOut s k∧Fr [] w w' := by
 have hb:=byte_lt s[k]
 have hK:=fun w T=>kindOf_any s[k].toNat w hb T
 have h2' : ((kindN s[k].toNat:Int) == 2)=false:=beq_int_false (by omega)
 have h3' : ((kindN s[k].toNat:Int) == 3)=false:=beq_int_false (by omega)
 have h4' : ((kindN s[k].toNat:Int) == 4)=false:=beq_int_false (by omega)
 have hx:(s.extract k s.size).size≤maxLen:=by rw[ByteArray.size_extract];unfold maxLen;omega
 have hS:=fun w T=>signLength_any (s.extract k s.size) w hx T
 have es:sgn (s.extract k s.size)=signL (s.data.toList.drop k):=by unfold sgn;rw[extract_rest]
 rw[es] at hS
 clear hx es
 have hM:=fun w=>made_any 3 k (k+signL (s.data.toList.drop k)) s w hs (by omega) hle
 have er:rd s k = .ok ⟨3,(s.data.toList.drop k).take (signL (s.data.toList.drop k)),k,k+signL (s.data.toList.drop k),0⟩:=by
  unfold rd readL
  rw[drop_getD s k hk,if_neg h2,if_neg h3,if_neg h4,if_neg hz]
 have hE:Hid (rdOut s k = .returned (.tuple #[.agg #[.int .i64 3,.string (s.extract k (k+signL (s.data.toList.drop k))),.int .i64 k,.int .i64 (k+signL (s.data.toList.drop k) : Nat),.int .i64 0],.int .i64 0])):=by
  show _=_
  unfold rdOut
  rw[er,extract_tok]
  rfl
 have hz' : ((signL (s.data.toList.drop k) : Int) == 0)=false:=beq_int_false (by omega)
 generalize rdOut s k=R at *
 generalize kindN s[k].toNat=K at *
 generalize hX:s.extract k (k+signL (s.data.toList.drop k))=X at *
 generalize signL (s.data.toList.drop k)=L at *
 have hM' : ∀ w,Calls Tryz.prog 156 #[.int .i64 3,.string s,.int .i64 k,.int .i64 (k+L)] w fun e w'=>e = .returned (.agg #[.int .i64 3,.string X,.int .i64 k,.int .i64 (k+L),.int .i64 0])∧Fr [] w w' := fun w=>by simpa using hM w
 have hE' : Hid (R = .returned (.tuple #[.agg #[.int .i64 3,.string X,.int .i64 k,.int .i64 (k+L),.int .i64 0],.int .i64 0])):=by
  show _=_
  simpa using hE.out
 clear h2 h3 h4 er hz hM hE hX
 have F0:Fr [] w (w.alloc (.cells #[.int .i64 0,.string ⟨#[]⟩,.int .i64 0,.int .i64 0,.int .i64 0] 82)):=(Fr.refl _ _).alloc _
 have t0:=TB.new w (.int .i64 0) (.string ⟨#[]⟩) (.int .i64 0) (.int .i64 0) (.int .i64 0)
 go_enter Tryz.func106,Tryz.ntmps106
 go_wp2_with fail
 generalize hw1:w.alloc _=w1
 have F1:Fr [] w w1:=by rw[← hw1];exact F0
 have t1:TB w1 w.heap.size (.int .i64 0) (.string ⟨#[]⟩) (.int .i64 0) (.int .i64 0) (.int .i64 0):=by rw[← hw1];exact t0
 clear hw1 F0 t0
 have T1:=T.fr F1 (by simp)
 generalize hB:w.heap.size=B at t1 ⊢
 refine (hK w1 T1).mono ?_
 rintro e w1 ⟨rfl,rfl⟩
 go_wp2_with fail
 refine (hS _ T1).mono ?_
 rintro e w1' ⟨rfl,nn,rfl⟩
 go_wp2_with fail
 refine (hM' _).mono ?_
 rintro e w2 ⟨rfl,hF'⟩
 have hF:Fr [] w1 w2:=((Fr.refl _ _).drewN nn).trans hF'
 have t2:=t1.fr hF (by simp)
 have F2:=F1.trans hF
 have a0:=t2.c0
 have a1:=t2.c1
 have a2:=t2.c2
 have a3:=t2.c3
 have a4:=t2.c4
 have fz:=t2.fz
 have HB:Hid (w.heap.size=B):=hB
 clear hB t1 F1 hF T1 hK
 go_wp2
 have t4:=t2.set (.int .i64 3) (.string X) (.int .i64 k) (.int .i64 (k+L)) (.int .i64 0)
 have F5:=TB.fset F2 (B:=B) (.inr (by have:=HB.out;omega)) (.int .i64 3) (.string X) (.int .i64 k) (.int .i64 (k+L)) (.int .i64 0)
 refine bodyPost_ret (v:=.tuple #[.agg #[.int .i64 3,.string X,.int .i64 k,.int .i64 (k+L),.int .i64 0],.int .i64 0]) ?_ rfl ⟨by rw[hE'.out],F5⟩
 have d0:=t4.c0
 have d1:=t4.c1
 have d2:=t4.c2
 have d3:=t4.c3
 have d4:=t4.c4
 clear a0 a1 a2 a3 a4 fz t4 F5 t2
 generalize ((((w2.setCell _ _).setCell _ _).setCell _ _).setCell _ _).setCell _ _=w4 at *
 simp[results,Tryz.results106,go_sem,d0,d1,d2,d3,d4]
theorem signL_le (l:List UInt8) : signL l≤l.length:=by
 unfold signL
 split
 ·rename_i g hg
  have:=List.find?_some hg
  rw[List.isPrefixOf_iff_prefix] at this
  exact this.length_le
 ·omega
theorem read_any (s:ByteArray) (k:Nat) (w:World) (hs:s.size≤2 ^ 40) (hk:k<s.size) (T:Tabs w) :
 Calls Tryz.prog 106 #[.string s,.int .i64 k] w fun e w'=>e=rdOut s k∧Fr [] w w' := by
 by_cases h2:kindN s[k].toNat=2
 ·exact read_name s k w hs hk T h2
 ·by_cases h3:kindN s[k].toNat=3
  ·exact read_digit s k w hs hk T h3
  ·by_cases h4:kindN s[k].toNat=4
   ·exact read_quote s k w hs hk T h4
   ·by_cases hz:signL (s.data.toList.drop k)=0
    ·exact read_bad s k w hs hk T h2 h3 h4 hz
    ·have:=signL_le (s.data.toList.drop k)
     rw[List.length_drop,← Lib.size_eq] at this
     exact read_sign s k w hs hk T h2 h3 h4 hz (by omega)
end Go.Proofs.YtnmfcaahdeddnaaGreatDoor
