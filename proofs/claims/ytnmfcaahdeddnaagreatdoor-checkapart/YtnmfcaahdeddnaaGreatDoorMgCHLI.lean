/-
  Parts of the proof; conditions: as each says.
-/
import Derived.Lib.LaidTab
import Derived.Lib.ItoaMem
import Derived.Test.YtnmfcaahdeddnaaGreatDoorMgBFHH
set_option maxRecDepth 100000
namespace Go.Proofs.YtnmfcaahdeddnaaGreatDoor
open Go.RowKit
def pw10 : String := "internal/strconv.uint64pow10"
theorem gPow:Tryz.prog.globalNamed pw10=some 3:=by kernel_rfl
structure Tabs (w:World) : Prop where
 kinds:∀ n,n<128→w.cell? ⟨0,n,none⟩=some (.int .u8 (kindN n))
 signs:∀ n,n<26→w.cell? ⟨1,n,none⟩=some (.string ⟨(signs.getD n []).toArray⟩)
 pow:Lib.TabIs Tryz.prog w pw10 .u64 Lib.pow10Tab
 len:7≤w.heap.size
theorem Tabs.fr {S:List Nat} {w w' : World} (h:Tabs w) (f:Fr S w w') (hS:∀ k,k∈S→7≤k) : Tabs w' :=
 ⟨fun n hn=>f.cell1 (h.kinds n hn) (fun hm=>by have:=hS _ hm;simp at this),fun n hn=>f.cell1 (h.signs n hn) (fun hm=>by have:=hS _ hm;simp at this),by
  have hp:=h.pow
  have hb:=f.block 3 (Nat.lt_of_lt_of_le (by decide) h.len) (fun hm=>by have:=hS _ hm;omega)
  unfold Lib.TabIs World.var? at *
  rw[gPow] at hp ⊢
  simp only[Option.bind_some] at hp ⊢
  rw[hb]
  exact hp,Nat.le_trans h.len f.size⟩
theorem kindOf_any (c:Nat) (w:World) (hc:c<256) (T:Tabs w) :
 Calls Tryz.prog 149 #[.int .u8 c] w fun e w'=>e = .returned (.int .u8 (kindN c))∧w' = w:=by
 by_cases h:c<128
 ·have hk:=T.kinds c h
  go_enter Tryz.func149,Tryz.ntmps149
  go_wp2
  go_ret
  exact⟨rfl,rfl⟩
 ·have hk:=kind_big (n:=c) (by omega)
  rw[hk]
  go_enter Tryz.func149,Tryz.ntmps149
  go_wp2
  go_ret
  exact⟨rfl,rfl⟩
theorem drop_cons (s:ByteArray) (k:Nat) (h:k<s.size) : s.data.toList.drop k=s[k]::s.data.toList.drop (k+1):=by
 rw[List.drop_eq_getElem_cons (by simpa using h)];rfl
theorem drop_end (s:ByteArray) (k:Nat) (h:s.size≤k) : s.data.toList.drop k = []:=by
 rw[List.drop_eq_nil_iff];simpa using h
theorem byte_lt (b:UInt8) : b.toNat<256:=b.toNat_lt
theorem beq_int_false {a b:Int} (h:a≠b) : (a == b)=false:=by simp[h]
def rnE (s:ByteArray) (k:Nat) : Nat:=k+runL (s.data.toList.drop k)
theorem rnE_le (s:ByteArray) (k:Nat) (h:k≤s.size) : k≤rnE s k∧rnE s k≤s.size:=by
 have:=runL_le (s.data.toList.drop k)
 simp at this
 unfold rnE
 constructor
 ·omega
 ·have:s.data.size=s.size:=rfl
  omega
theorem rnE_end (s:ByteArray) (k:Nat) (h:s.size≤k) : rnE s k=k:=by simp[rnE,drop_end s k h,runL]
theorem rnE_in (s:ByteArray) (k:Nat) (h:k<s.size) (hw:isWd s[k].toNat=true) : rnE s k=rnE s (k+1):=by
 simp[rnE,drop_cons s k h,runL,hw];omega
theorem rnE_out (s:ByteArray) (k:Nat) (h:k<s.size) (hw:isWd s[k].toNat=false) : rnE s k=k:=by
 simp[rnE,drop_cons s k h,runL,hw]
theorem runEnd_any (s:ByteArray) (k0:Nat) (w:World) (hs:s.size≤maxLen) (hk0:k0≤s.size) (T:Tabs w) :
 Calls Tryz.prog 154 #[.string s,.int .i64 k0] w fun e w'=>e = .returned (.int .i64 (rnE s k0))∧w' = w:=by
 unfold maxLen at hs
 go_enter Tryz.func154,Tryz.ntmps154
 go_wp2
 go_loop [1] (fun i=>∃ k:Nat,k≤s.size∧i = .int .i64 k∧Hid (rnE s k=rnE s k0)) (fun i=>s.size-(intOf i).toNat)
 case atStart=>exact⟨k0,hk0,rfl,rfl⟩
 case round =>
  obtain⟨k,hk,rfl,he⟩:=hrel
  by_cases hlt:k<s.size
  ·have hb:=byte_lt s[k]
   by_cases h2:kindN s[k].toNat=2
   ·have hw:isWd s[k].toNat=true:=(kind_wd _).1 (.inl h2)
    have hr:=rnE_in s k hlt hw
    go_wp2_with (go_at_call 149;refine (kindOf_any s[k].toNat _ hb T).mono ?_;rintro e w' ⟨rfl,rfl⟩;rw[h2])
    go_round
    case rel=>exact⟨k+1,hlt,by go_num,hr ▸ he⟩
    case measure=>simp[intOf];omega
   ·by_cases h3:kindN s[k].toNat=3
    ·have hw:isWd s[k].toNat=true:=(kind_wd _).1 (.inr h3)
     have hr:=rnE_in s k hlt hw
     go_wp2_with (go_at_call 149;refine (kindOf_any s[k].toNat _ hb T).mono ?_;rintro e w' ⟨rfl,rfl⟩;rw[h3])
     go_round
     case rel=>exact⟨k+1,hlt,by go_num,hr ▸ he⟩
     case measure=>simp[intOf];omega
    ·have hw:isWd s[k].toNat=false:=by
      rw[Bool.eq_false_iff];intro h;rcases (kind_wd _).2 h with h | h;exact h2 h;exact h3 h
     have hr:=rnE_out s k hlt hw
     generalize hK:kindN s[k].toNat=K at *
     have h2' : ((K:Int) == 2)=false:=beq_int_false (by omega)
     have h3' : ((K:Int) == 3)=false:=beq_int_false (by omega)
     clear h2 h3
     go_wp2_with (go_at_call 149;refine (kindOf_any s[k].toNat _ hb T).mono ?_;rintro e w' ⟨rfl,rfl⟩;rw[hK])
     go_ret
     refine⟨?_,rfl⟩;rw[← he.out,hr];rfl
  ·have hr:=rnE_end s k (by omega)
   go_wp2
   go_ret
   refine⟨?_,rfl⟩;rw[← he.out,hr];rfl
def wrd (s:ByteArray) : Bool:=wordL s.data.toList
theorem wrd_toList (s:ByteArray) : wordL s.toList=wrd s:=by rw[Lib.toList_data];rfl
theorem isWord_any (s:ByteArray) (w:World) :
 Calls Tryz.prog 171 #[.string s] w fun e w'=>e = .returned (.bool (wrd s))∧w' = w:=by
 go_enter Tryz.func171,Tryz.ntmps171
 go_wp2
 all_goals go_ret
 all_goals refine⟨congrArg (fun b=>Ending.returned (Value.bool b)) ?_,rfl⟩
 all_goals (rw[← wrd_toList];simp_all [wordL,words])
theorem fig_le (n:Nat) : fig n≤16:=by
 unfold fig isDig
 simp only[decide_eq_true_eq]
 repeat (first | omega | split)
theorem ret_int {k:IntKind} {a b:Int} (h:a=b) : Ending.returned (.int k a) = .returned (.int k b):=by rw[h]
theorem digitOf_any (c:Nat) (w:World) (hc:c<256) :
 Calls Tryz.prog 208 #[.int .u8 c] w fun e w'=>e = .returned (.int .i64 (fig c))∧w' = w:=by
 unfold fig isDig
 simp only[decide_eq_true_eq]
 by_cases h1:48≤c∧c≤57
 ·rw[if_pos h1]
  obtain⟨a,b⟩:=h1
  go_enter Tryz.func208,Tryz.ntmps208
  go_wp2
  go_ret
  exact⟨ret_int (by omega),rfl⟩
 ·rw[if_neg h1]
  by_cases h2:97≤c∧c≤102
  ·rw[if_pos h2]
   obtain⟨a,b⟩:=h2
   clear h1
   go_enter Tryz.func208,Tryz.ntmps208
   go_wp2
   go_ret
   exact⟨ret_int (by omega),rfl⟩
  ·rw[if_neg h2]
   by_cases h3:65≤c∧c≤70
   ·rw[if_pos h3]
    obtain⟨a,b⟩:=h3
    clear h1 h2
    go_enter Tryz.func208,Tryz.ntmps208
    go_wp2
    go_ret
    exact⟨ret_int (by omega),rfl⟩
   ·rw[if_neg h3]
    go_enter Tryz.func208,Tryz.ntmps208
    go_wp2
    all_goals first | (exfalso;omega) | (go_ret;exact⟨rfl,rfl⟩)
def nOut (o:Option Nat) : Ending:=.returned (.tuple #[.int .i64 (o.getD 0:Nat),.bool o.isSome])
theorem nOut_none {o:Option Nat} (h:o=none) : Ending.returned (.tuple #[.int .i64 0,.bool false])=nOut o:=by subst h;rfl
theorem nOut_some {o:Option Nat} {n:Nat} (h:o=some n) : Ending.returned (.tuple #[.int .i64 n,.bool true])=nOut o:=by subst h;rfl
theorem byteNumber_any (c:Nat) (w:World) (hc:c<256) :
 Calls Tryz.prog 188 #[.int .u8 c] w fun e w'=>e=nOut (if 32≤c∧c≤126 then some c else none)∧w' = w:=by
 by_cases h:32≤c∧c≤126
 ·rw[if_pos h]
  obtain⟨a,b⟩:=h
  go_enter Tryz.func188,Tryz.ntmps188
  go_wp2
  go_ret2
  exact⟨rfl,rfl⟩
 ·rw[if_neg h]
  go_enter Tryz.func188,Tryz.ntmps188
  go_wp2
  all_goals first | (exfalso;omega) | (go_ret2;exact⟨rfl,rfl⟩)
theorem valL_stop {b:Nat} {c:UInt8} {l:List UInt8} {n:Nat} (h:b≤fig c.toNat∨(9223372036854775807-fig c.toNat) / b<n) : valL b (c::l) n=none:=by
 simp only[valL];rw[if_pos h]
theorem valL_go {b:Nat} {c:UInt8} {l:List UInt8} {n:Nat} (h1:¬ b≤fig c.toNat) (h2:¬ (9223372036854775807-fig c.toNat) / b<n) : valL b (c::l) n=valL b l (n*b+fig c.toNat):=by
 simp only[valL];rw[if_neg (by omega)]
theorem value_end (b:Nat) (s:ByteArray) (m:Nat) (h:some m=valL b s.data.toList 0) : Ending.returned (.tuple #[.int .i64 m,.bool (!s.toList.isEmpty)])=nOut (valueL b s.data.toList):=by
 rw[Lib.toList_data]
 by_cases he:s.data.toList = []
 ·rw[he] at h ⊢
  simp[valL] at h
  subst h
  rfl
 ·simp only[valueL]
  rw[if_neg he,← h]
  cases hl:s.data.toList with
  | nil=>exact absurd hl he
  | cons c l=>rfl
set_option maxHeartbeats 1000000 in
theorem value10 (s:ByteArray) (w:World) (hs:s.size≤maxLen) :
 Calls Tryz.prog 190 #[.string s,.int .i64 10] w fun e w'=>e=nOut (valueL 10 s.data.toList)∧w' = w:=by
 unfold maxLen at hs
 go_enter Tryz.func190,Tryz.ntmps190
 go_wp2
 go_loop [6,11] (fun n i=>∃ k m:Nat,k≤s.size∧i = .int .i64 k∧n = .int .i64 m∧m≤9223372036854775807∧Hid (valL 10 (s.data.toList.drop k) m=valL 10 s.data.toList 0)) (fun _ i=>s.size-(intOf i).toNat)
 case atStart=>exact⟨0,0,Nat.zero_le _,rfl,rfl,by omega,rfl⟩
 case round =>
  obtain⟨k,m,hk,rfl,rfl,hm,he⟩:=hrel
  by_cases hlt:k<s.size
  ·have hb:=byte_lt s[k]
   have hd:=fig_le s[k].toNat
   have he' := he.out
   rw[drop_cons s k hlt] at he'
   have hne:s.data.toList≠[]:=by intro e;have:=drop_cons s k hlt;rw[e] at this;simp at this
   have hv:valueL 10 s.data.toList=valL 10 s.data.toList 0:=by simp only[valueL];rw[if_neg hne]
   have HV:Hid (valueL 10 s.data.toList=valL 10 s.data.toList 0):=hv
   have HE:Hid (valL 10 (s[k]::s.data.toList.drop (k+1)) m=valL 10 s.data.toList 0):=he'
   clear he' hv he hne
   have hstop:Hid (10≤fig s[k].toNat∨(9223372036854775807-fig s[k].toNat) / 10<m→valueL 10 s.data.toList=none):=fun h=>by rw[HV.out,← HE.out,valL_stop h]
   have hgo:Hid (¬ 10≤fig s[k].toNat→¬ (9223372036854775807-fig s[k].toNat) / 10<m→valL 10 (s.data.toList.drop (k+1)) (m*10+fig s[k].toNat)=valL 10 s.data.toList 0):=fun h1 h2=>by rw[← HE.out,valL_go h1 h2]
   clear HE HV
   generalize hD:fig s[k].toNat=D at *
   by_cases h1:10≤D
   ·have e1:=nOut_none (hstop.out (.inl h1))
    have E1:Hid _:=e1
    clear e1
    go_wp2_with (go_at_call 208;refine (digitOf_any s[k].toNat _ hb).mono ?_;rintro e w' ⟨rfl,rfl⟩;rw[hD])
    go_ret2
    exact⟨E1.out,rfl⟩
   ·by_cases h2:(9223372036854775807-D) / 10<m
    ·have e1:=nOut_none (hstop.out (.inr h2))
     have E1:Hid _:=e1
     clear e1
     go_wp2_with (go_at_call 208;refine (digitOf_any s[k].toNat _ hb).mono ?_;rintro e w' ⟨rfl,rfl⟩;rw[hD])
     all_goals first | (exfalso;omega) | skip
     go_ret2
     exact⟨E1.out,rfl⟩
    ·have hg:=hgo.out h1 h2
     have HG:Hid _:=hg
     clear hg hgo hstop
     have hle:m*10+D≤9223372036854775807:=by omega
     go_wp2_with (go_at_call 208;refine (digitOf_any s[k].toNat _ hb).mono ?_;rintro e w' ⟨rfl,rfl⟩;rw[hD])
     all_goals first | (exfalso;omega) | skip
     go_round
     case rel=>exact⟨k+1,m*10+D,hlt,by go_num,by go_num,hle,HG⟩
     case measure=>simp[intOf];omega
  ·have:k=s.size:=by omega
   subst this
   have he' := he.out
   rw[drop_end s s.size (Nat.le_refl _)] at he'
   simp only[valL] at he'
   have HE:Hid (some m=valL 10 s.data.toList 0):=he'
   clear he he'
   go_wp2
   go_ret2
   exact⟨value_end 10 s m HE.out,rfl⟩
set_option maxHeartbeats 1000000 in
theorem value16 (s:ByteArray) (w:World) (hs:s.size≤maxLen) :
 Calls Tryz.prog 190 #[.string s,.int .i64 16] w fun e w'=>e=nOut (valueL 16 s.data.toList)∧w' = w:=by
 unfold maxLen at hs
 go_enter Tryz.func190,Tryz.ntmps190
 go_wp2
 go_loop [6,11] (fun n i=>∃ k m:Nat,k≤s.size∧i = .int .i64 k∧n = .int .i64 m∧m≤9223372036854775807∧Hid (valL 16 (s.data.toList.drop k) m=valL 16 s.data.toList 0)) (fun _ i=>s.size-(intOf i).toNat)
 case atStart=>exact⟨0,0,Nat.zero_le _,rfl,rfl,by omega,rfl⟩
 case round =>
  obtain⟨k,m,hk,rfl,rfl,hm,he⟩:=hrel
  by_cases hlt:k<s.size
  ·have hb:=byte_lt s[k]
   have hd:=fig_le s[k].toNat
   have he' := he.out
   rw[drop_cons s k hlt] at he'
   have hne:s.data.toList≠[]:=by intro e;have:=drop_cons s k hlt;rw[e] at this;simp at this
   have hv:valueL 16 s.data.toList=valL 16 s.data.toList 0:=by simp only[valueL];rw[if_neg hne]
   have HV:Hid (valueL 16 s.data.toList=valL 16 s.data.toList 0):=hv
   have HE:Hid (valL 16 (s[k]::s.data.toList.drop (k+1)) m=valL 16 s.data.toList 0):=he'
   clear he' hv he hne
   have hstop:Hid (16≤fig s[k].toNat∨(9223372036854775807-fig s[k].toNat) / 16<m→valueL 16 s.data.toList=none):=fun h=>by rw[HV.out,← HE.out,valL_stop h]
   have hgo:Hid (¬ 16≤fig s[k].toNat→¬ (9223372036854775807-fig s[k].toNat) / 16<m→valL 16 (s.data.toList.drop (k+1)) (m*16+fig s[k].toNat)=valL 16 s.data.toList 0):=fun h1 h2=>by rw[← HE.out,valL_go h1 h2]
   clear HE HV
   generalize hD:fig s[k].toNat=D at *
   by_cases h1:16≤D
   ·have e1:=nOut_none (hstop.out (.inl h1))
    have E1:Hid _:=e1
    clear e1
    go_wp2_with (go_at_call 208;refine (digitOf_any s[k].toNat _ hb).mono ?_;rintro e w' ⟨rfl,rfl⟩;rw[hD])
    go_ret2
    exact⟨E1.out,rfl⟩
   ·by_cases h2:(9223372036854775807-D) / 16<m
    ·have e1:=nOut_none (hstop.out (.inr h2))
     have E1:Hid _:=e1
     clear e1
     go_wp2_with (go_at_call 208;refine (digitOf_any s[k].toNat _ hb).mono ?_;rintro e w' ⟨rfl,rfl⟩;rw[hD])
     all_goals first | (exfalso;omega) | skip
     go_ret2
     exact⟨E1.out,rfl⟩
    ·have hg:=hgo.out h1 h2
     have HG:Hid _:=hg
     clear hg hgo hstop
     have hle:m*16+D≤9223372036854775807:=by omega
     go_wp2_with (go_at_call 208;refine (digitOf_any s[k].toNat _ hb).mono ?_;rintro e w' ⟨rfl,rfl⟩;rw[hD])
     all_goals first | (exfalso;omega) | skip
     go_round
     case rel=>exact⟨k+1,m*16+D,hlt,by go_num,by go_num,hle,HG⟩
     case measure=>simp[intOf];omega
  ·have:k=s.size:=by omega
   subst this
   have he' := he.out
   rw[drop_end s s.size (Nat.le_refl _)] at he'
   simp only[valL] at he'
   have HE:Hid (some m=valL 16 s.data.toList 0):=he'
   clear he he'
   go_wp2
   go_ret2
   exact⟨value_end 16 s m HE.out,rfl⟩
def num (s:ByteArray) : Option Nat:=numL s.data.toList
set_option linter.unusedVariables false in
theorem hasPrefix_any (s p:ByteArray) (w:World) (hs:s.size≤maxLen) (hp:p.size≤maxLen) :
 Calls Tryz.prog 181 #[.string s,.string p] w fun e w'=>e = .returned (.bool (Lib.hasPrefix s.data.toList p.data.toList))∧w' = w:=by
 unfold maxLen at hs hp
 rw[← Lib.hasPrefix_raw]
 by_cases h:p.size≤s.size
 ·go_enter Tryz.func181,Tryz.ntmps181
  go_wp2
  go_ret
  exact⟨by simp[h],rfl⟩
 ·go_enter Tryz.func181,Tryz.ntmps181
  go_wp2
  go_ret
  exact⟨by simp[h],rfl⟩
theorem cutPrefix_any (s p:ByteArray) (w:World) (hs:s.size≤maxLen) (hp:p.size≤maxLen) :
 Calls Tryz.prog 207 #[.string s,.string p] w fun e w'=>e = .returned (.tuple #[.string (if Lib.hasPrefix s.data.toList p.data.toList then s.extract p.size s.size else s),.bool (Lib.hasPrefix s.data.toList p.data.toList)])∧w' = w:=by
 cases h:Lib.hasPrefix s.data.toList p.data.toList with
 | false =>
   unfold maxLen at hs hp
   go_enter Tryz.func207,Tryz.ntmps207
   go_wp2_with (go_at_call 181;refine (hasPrefix_any s p _ hs hp).mono ?_;rintro e w' ⟨rfl,rfl⟩;rw[h])
   go_ret2
   exact⟨rfl,rfl⟩
 | true =>
   have hl:p.size≤s.size:=by
    rw[← Lib.hasPrefix_raw] at h
    simp at h
    exact h.1
   unfold maxLen at hs hp
   go_enter Tryz.func207,Tryz.ntmps207
   go_wp2_with (go_at_call 181;refine (hasPrefix_any s p _ hs hp).mono ?_;rintro e w' ⟨rfl,rfl⟩;rw[h])
   go_ret2
   exact⟨rfl,rfl⟩
theorem cutP_any (s p:ByteArray) (w:World) (hs:s.size≤maxLen) (hp:p.size≤maxLen) :
 Calls Tryz.prog 189 #[.string s,.string p] w fun e w'=>e = .returned (.tuple #[.string (if Lib.hasPrefix s.data.toList p.data.toList then s.extract p.size s.size else s),.bool (Lib.hasPrefix s.data.toList p.data.toList)])∧w' = w:=by
 go_enter Tryz.func189,Tryz.ntmps189
 go_wp2_with (go_at_call 207;refine (cutPrefix_any s p _ hs hp).mono ?_;rintro e w' ⟨rfl,rfl⟩)
 all_goals go_ret2
 all_goals exact⟨rfl,rfl⟩
theorem quoted_facts {s:ByteArray} (hl:2<s.size) (h:s.size=3) : quotedL s.data.toList=(decide ((s[0]'(Nat.lt_trans (by decide) hl)).toNat=39)&&decide ((s[2]'hl).toNat=39))∧s.data.toList.getD 1 0=s[1]'(Nat.lt_trans (by decide) hl):=by
 obtain⟨⟨l⟩⟩:=s
 have hl:l.length=3:=h
 match l,hl with
 | [a,b,c],_ =>
   refine⟨?_,rfl⟩
   show quotedL [a,b,c]=(decide (a.toNat=39)&&decide (c.toNat=39))
   have k:∀ x:UInt8,(x=39)=(x.toNat=39):=fun x=>by
    rw[UInt8.toNat_inj.symm];rfl
   simp[quotedL,k]
theorem quoted_len {s:ByteArray} (h:s.size≠3) : quotedL s.data.toList=false:=by
 have:s.data.toList.length≠3:=by rw[← Lib.size_eq];exact h
 unfold quotedL
 rw[decide_eq_false_iff_not]
 exact fun hh=>this hh.1
theorem prefix_two (l:List UInt8) : Lib.hasPrefix l [48,120]=decide (l.take 2 = [48,120]):=by
 rw[← Lib.hasPrefix_of_take]
 match l with
 | []=>rfl
 | [a]=>simp
 | a::b::r =>
   have k:∀ x y:UInt8,(x == y)=decide (x=y):=fun _ _=>rfl
   simp[k]
set_option maxHeartbeats 1000000 in
theorem number_any (s:ByteArray) (w:World) (hs:s.size≤maxLen) :
 Calls Tryz.prog 172 #[.string s] w fun e w'=>e=nOut (num s)∧w' = w:=by
 have rest:quotedL s.data.toList=false→Hid (nOut (num s)=if Lib.hasPrefix s.data.toList [48,120] then nOut (valueL 16 (s.extract 2 s.size).data.toList) else nOut (valueL 10 s.data.toList)):=fun h=>by
  show _=_
  rw[num,numL,h,prefix_two,Lib.extract_data]
  simp only[Bool.false_eq_true,if_false,decide_eq_true_eq]
  rw[List.take_of_length_le (l:=s.data.toList.drop 2) (by rw[List.length_drop,← Lib.size_eq];omega)]
  split <;> rfl
 have hx:(s.extract 2 s.size).size≤maxLen:=by rw[ByteArray.size_extract];omega
 have hp2:((⟨#[48,120]⟩ : ByteArray)).size≤maxLen:=by decide
 have hv16:=fun w=>value16 (s.extract 2 s.size) w hx
 have hv10:=fun w=>value10 s w hs
 have hcut:=fun w=>cutP_any s ⟨#[48,120]⟩ w hs hp2
 have hsz:(⟨#[48,120]⟩ : ByteArray).size=2:=rfl
 have hdl:(⟨#[48,120]⟩ : ByteArray).data.toList = [48,120]:=rfl
 rw[hsz,hdl] at hcut
 unfold maxLen at hs
 have tail:quotedL s.data.toList=false→Calls Tryz.prog 172 #[.string s] w fun e w'=>e=nOut (num s)∧w' = w:=fun hq=>by
  have hr:=rest hq
  clear rest
  generalize num s=R at hr ⊢
  generalize valueL 10 s.data.toList=V10 at *
  generalize valueL 16 (s.extract 2 s.size).data.toList=V16 at *
  cases hpre:Lib.hasPrefix s.data.toList [48,120] with
  | true =>
    rw[hpre] at hr hcut
    simp only[if_true] at hr hcut
    by_cases h3:s.size=3
    ·have hl:2<s.size:=by omega
     have l0:0<s.size:=Nat.lt_trans (by decide) hl
     obtain⟨q1,q2⟩:=quoted_facts hl h3
     rw[hq] at q1
     have h3' : ((s.size:Int) == 3)=true:=by simp;omega
     clear h3
     by_cases h0:s[0].toNat=39
     ·have h2:¬ s[2].toNat=39:=fun h=>by rw[h0,h] at q1;simp at q1
      have h2' : ((s[2].toNat:Int) == 39)=false:=beq_int_false (by omega)
      have h0' : ((s[0].toNat:Int) == 39)=true:=by simp;omega
      clear h0 h2 q1 q2 hq
      go_enter Tryz.func172,Tryz.ntmps172
      go_wp2_with (first | (go_at_call 189;refine (hcut _).mono ?_;rintro e w' ⟨rfl,rfl⟩) | (go_at_call 190;refine (hv16 _).mono ?_;rintro e w' ⟨he,rfl⟩;rw[nOut] at he;subst he))
      go_ret2
      exact⟨by rw[hr.out];rfl,rfl⟩
     ·have h0' : ((s[0].toNat:Int) == 39)=false:=beq_int_false (by omega)
      clear h0 q1 q2 hq
      go_enter Tryz.func172,Tryz.ntmps172
      go_wp2_with (first | (go_at_call 189;refine (hcut _).mono ?_;rintro e w' ⟨rfl,rfl⟩) | (go_at_call 190;refine (hv16 _).mono ?_;rintro e w' ⟨he,rfl⟩;rw[nOut] at he;subst he))
      go_ret2
      exact⟨by rw[hr.out];rfl,rfl⟩
    ·have h3' : ((s.size:Int) == 3)=false:=beq_int_false (by omega)
     go_enter Tryz.func172,Tryz.ntmps172
     go_wp2_with (first | (go_at_call 189;refine (hcut _).mono ?_;rintro e w' ⟨rfl,rfl⟩) | (go_at_call 190;refine (hv16 _).mono ?_;rintro e w' ⟨he,rfl⟩;rw[nOut] at he;subst he))
     go_ret2
     exact⟨by rw[hr.out];rfl,rfl⟩
  | false =>
    rw[hpre] at hr hcut
    simp only[Bool.false_eq_true,if_false] at hr hcut
    by_cases h3:s.size=3
    ·have hl:2<s.size:=by omega
     have l0:0<s.size:=Nat.lt_trans (by decide) hl
     obtain⟨q1,q2⟩:=quoted_facts hl h3
     rw[hq] at q1
     have h3' : ((s.size:Int) == 3)=true:=by simp;omega
     clear h3
     by_cases h0:s[0].toNat=39
     ·have h2:¬ s[2].toNat=39:=fun h=>by rw[h0,h] at q1;simp at q1
      have h2' : ((s[2].toNat:Int) == 39)=false:=beq_int_false (by omega)
      have h0' : ((s[0].toNat:Int) == 39)=true:=by simp;omega
      clear h0 h2 q1 q2 hq
      go_enter Tryz.func172,Tryz.ntmps172
      go_wp2_with (first | (go_at_call 189;refine (hcut _).mono ?_;rintro e w' ⟨rfl,rfl⟩) | (go_at_call 190;refine (hv10 _).mono ?_;rintro e w' ⟨he,rfl⟩;rw[nOut] at he;subst he))
      go_ret2
      exact⟨by rw[hr.out];rfl,rfl⟩
     ·have h0' : ((s[0].toNat:Int) == 39)=false:=beq_int_false (by omega)
      clear h0 q1 q2 hq
      go_enter Tryz.func172,Tryz.ntmps172
      go_wp2_with (first | (go_at_call 189;refine (hcut _).mono ?_;rintro e w' ⟨rfl,rfl⟩) | (go_at_call 190;refine (hv10 _).mono ?_;rintro e w' ⟨he,rfl⟩;rw[nOut] at he;subst he))
      go_ret2
      exact⟨by rw[hr.out];rfl,rfl⟩
    ·have h3' : ((s.size:Int) == 3)=false:=beq_int_false (by omega)
     go_enter Tryz.func172,Tryz.ntmps172
     go_wp2_with (first | (go_at_call 189;refine (hcut _).mono ?_;rintro e w' ⟨rfl,rfl⟩) | (go_at_call 190;refine (hv10 _).mono ?_;rintro e w' ⟨he,rfl⟩;rw[nOut] at he;subst he))
     go_ret2
     exact⟨by rw[hr.out];rfl,rfl⟩
 by_cases h3:s.size=3
 ·have hl:2<s.size:=by omega
  have l0:0<s.size:=Nat.lt_trans (by decide) hl
  have l1:1<s.size:=Nat.lt_trans (by decide) hl
  obtain⟨q1,q2⟩:=quoted_facts hl h3
  have h3' : ((s.size:Int) == 3)=true:=by simp;omega
  clear h3
  by_cases hb:s[0].toNat=39∧s[2].toNat=39
  ·have h0' : ((s[0].toNat:Int) == 39)=true:=by simp;omega
   have h2' : ((s[2].toNat:Int) == 39)=true:=by simp;omega
   rw[hb.1,hb.2] at q1
   have hn:num s=if 32≤s[1].toNat∧s[1].toNat≤126 then some s[1].toNat else none:=by
    rw[num,numL,q1,q2];rfl
   have b1:=byte_lt s[1]
   have hbn:=fun w=>byteNumber_any s[1].toNat w b1
   rw[← hn] at hbn
   generalize num s=R at hbn ⊢
   clear hb q1 q2 rest tail hn
   go_enter Tryz.func172,Tryz.ntmps172
   go_wp2_with (go_at_call 188;refine (hbn _).mono ?_;rintro e w' ⟨he,rfl⟩;rw[nOut] at he;subst he)
   go_ret2
   exact⟨rfl,rfl⟩
  ·refine tail ?_
   rw[q1]
   simp
   omega
 ·exact tail (quoted_len h3)
theorem ret_bool {a b:Bool} (h:a=b) : Ending.returned (.bool a) = .returned (.bool b):=by rw[h]
theorem letter_any (c:Nat) (w:World) (hc:c<256) :
 Calls Tryz.prog 55 #[.int .u8 c] w fun e w'=>e = .returned (.bool (isLet c))∧w' = w:=by
 unfold isLet
 go_enter Tryz.func55,Tryz.ntmps55
 go_wp2
 all_goals go_ret
 all_goals refine⟨ret_bool ?_,rfl⟩
 all_goals (rw[Bool.eq_iff_iff];simp;omega)
theorem digit_any (c:Nat) (w:World) (hc:c<256) :
 Calls Tryz.prog 58 #[.int .u8 c] w fun e w'=>e = .returned (.bool (isDig c))∧w' = w:=by
 unfold isDig
 go_enter Tryz.func58,Tryz.ntmps58
 go_wp2
 all_goals go_ret
 all_goals refine⟨ret_bool ?_,rfl⟩
 all_goals (rw[Bool.eq_iff_iff];simp;omega)
def figR (n:Nat) : Nat:=if fig n=16 then 99 else fig n
theorem figure_any (c:Nat) (w:World) (hc:c<256) :
 Calls Tryz.prog 140 #[.int .u8 c] w fun e w'=>e = .returned (.int .u64 (figR c))∧w' = w:=by
 have hd:=fun w=>digit_any c w hc
 unfold figR fig
 unfold isDig at *
 simp only[decide_eq_true_eq]
 by_cases h1:48≤c∧c≤57
 ·rw[if_pos h1,if_neg (by omega)]
  rw[decide_eq_true h1] at hd
  obtain⟨a,b⟩:=h1
  go_enter Tryz.func140,Tryz.ntmps140
  go_wp2_with (go_at_call 58;refine (hd _).mono ?_;rintro e w' ⟨rfl,rfl⟩)
  go_ret
  exact⟨ret_int (by omega),rfl⟩
 ·rw[decide_eq_false h1] at hd
  rw[if_neg h1]
  by_cases h2:97≤c∧c≤102
  ·rw[if_pos h2,if_neg (by omega)]
   obtain⟨a,b⟩:=h2
   clear h1
   go_enter Tryz.func140,Tryz.ntmps140
   go_wp2_with (go_at_call 58;refine (hd _).mono ?_;rintro e w' ⟨rfl,rfl⟩)
   go_ret
   exact⟨ret_int (by omega),rfl⟩
  ·rw[if_neg h2]
   by_cases h3:65≤c∧c≤70
   ·rw[if_pos h3,if_neg (by omega)]
    obtain⟨a,b⟩:=h3
    clear h1 h2
    go_enter Tryz.func140,Tryz.ntmps140
    go_wp2_with (go_at_call 58;refine (hd _).mono ?_;rintro e w' ⟨rfl,rfl⟩)
    go_ret
    exact⟨ret_int (by omega),rfl⟩
   ·rw[if_neg h3,if_pos rfl]
    go_enter Tryz.func140,Tryz.ntmps140
    go_wp2_with (go_at_call 58;refine (hd _).mono ?_;rintro e w' ⟨rfl,rfl⟩)
    all_goals first | (exfalso;omega) | (go_ret;exact⟨rfl,rfl⟩)
theorem run_any (s:ByteArray) (k0:Nat) (w:World) (hs:s.size≤maxLen) (hk0:k0≤s.size) :
 Calls Tryz.prog 56 #[.string s,.int .i64 k0] w fun e w'=>e = .returned (.int .i64 (rnE s k0))∧w' = w:=by
 unfold maxLen at hs
 go_enter Tryz.func56,Tryz.ntmps56
 go_wp2
 go_loop [1] (fun i=>∃ k:Nat,k≤s.size∧i = .int .i64 k∧Hid (rnE s k=rnE s k0)) (fun i=>s.size-(intOf i).toNat)
 case atStart=>exact⟨k0,hk0,rfl,rfl⟩
 case round =>
  obtain⟨k,hk,rfl,he⟩:=hrel
  by_cases hlt:k<s.size
  ·have hb:=byte_lt s[k]
   have hL:=fun w=>letter_any s[k].toNat w hb
   have hD:=fun w=>digit_any s[k].toNat w hb
   have hin:=rnE_in s k hlt
   have hout:=rnE_out s k hlt
   unfold isWd at hin hout
   cases h1:isLet s[k].toNat
   ·rw[h1] at hL hin hout
    cases h2:isDig s[k].toNat
    ·rw[h2] at hD hin hout
     have hr:=hout rfl
     clear hin hout h1 h2
     go_wp2_with (first | (go_at_call 55;refine (hL _).mono ?_;rintro e w' ⟨rfl,rfl⟩) | (go_at_call 58;refine (hD _).mono ?_;rintro e w' ⟨rfl,rfl⟩))
     go_ret
     refine⟨?_,rfl⟩;rw[← he.out,hr];rfl
    ·rw[h2] at hD hin hout
     have hr:=hin rfl
     clear hin hout h1 h2
     go_wp2_with (first | (go_at_call 55;refine (hL _).mono ?_;rintro e w' ⟨rfl,rfl⟩) | (go_at_call 58;refine (hD _).mono ?_;rintro e w' ⟨rfl,rfl⟩))
     go_round
     case rel=>exact⟨k+1,hlt,by go_num,hr ▸ he⟩
     case measure=>simp[intOf];omega
   ·rw[h1] at hL hin hout
    have hr:=hin rfl
    clear hin hout h1
    go_wp2_with (first | (go_at_call 55;refine (hL _).mono ?_;rintro e w' ⟨rfl,rfl⟩) | (go_at_call 58;refine (hD _).mono ?_;rintro e w' ⟨rfl,rfl⟩))
    go_round
    case rel=>exact⟨k+1,hlt,by go_num,hr ▸ he⟩
    case measure=>simp[intOf];omega
  ·have hr:=rnE_end s k (by omega)
   go_wp2
   go_ret
   refine⟨?_,rfl⟩;rw[← he.out,hr];rfl
theorem wordsAt (k:Nat) (h:k<19) : (words.map fun l=>Value.string ⟨l.toArray⟩)[k]? = some (.string ⟨(words.getD k []).toArray⟩):=by
 have hl:words.length=19:=rfl
 rw[List.getElem?_map,List.getElem?_eq_getElem (by omega)]
 simp[List.getD,List.getElem?_eq_getElem (l:=words) (i:=k) (by omega)]
theorem Word_any (s:ByteArray) (w:World) :
 Calls Tryz.prog 57 #[.string s] w fun e w'=>e = .returned (.bool (wrd s))∧Fr [] w w' := by
 go_enter Tryz.func57,Tryz.ntmps57
 go_wp2
 generalize hw1:w.alloc _=w1
 have hF:Fr [] w w1:=by rw[← hw1];exact (Fr.refl _ _).alloc _
 have hB:w1.heap[w.heap.size]? = some (.cells (words.map fun l=>Value.string ⟨l.toArray⟩).toArray 9):=by rw[← hw1];exact heap_alloc_new w _
 have hC:∀ k,k<19→w1.cell? ⟨w.heap.size,k,none⟩=some (.string ⟨(words.getD k []).toArray⟩):=fun k hk=>by
  unfold World.cell?
  rw[hB]
  simpa using wordsAt k hk
 clear hw1 hB
 generalize w.heap.size=g at hC ⊢
 go_loop [7] (fun i=>∃ k:Nat,k≤19∧i = .int .i64 k∧∀ j,j<k→s.toList≠words.getD j []) (fun i=>19-(intOf i).toNat)
 case atStart=>exact⟨0,by omega,rfl,fun j hj=>by omega⟩
 case round =>
  obtain⟨k,hk,rfl,hno⟩:=hrel
  have hno' : Hid (∀ j,j<k→s.toList≠words.getD j []):=hno
  clear hno
  by_cases hlt:k<19
  ·have hlt' : (k:Int)<19:=by omega
   have hc:=hC k hlt
   clear hC
   have hq:(s.toList == (⟨(words.getD k []).toArray⟩ : ByteArray).toList)=decide (s.toList=words.getD k []):=by
    rw[Lib.toList_data (⟨(words.getD k []).toArray⟩ : ByteArray),Bool.eq_iff_iff]
    simp
   by_cases he:s.toList=words.getD k []
   ·have hq' : (s.toList == (⟨(words.getD k []).toArray⟩ : ByteArray).toList)=true:=by rw[hq];exact decide_eq_true he
    have hw:wrd s=true:=by
     rw[← wrd_toList,he,wordL]
     simp only[List.contains_iff_mem]
     have:k<words.length:=hlt
     simp[List.getD,List.getElem?_eq_getElem this]
    have HW:Hid (wrd s=true):=hw
    clear hw hq he
    generalize (⟨(words.getD k []).toArray⟩ : ByteArray)=x at *
    go_wp2
    go_ret
    refine⟨?_,hF⟩;rw[HW.out];rfl
   ·have hq' : (s.toList == (⟨(words.getD k []).toArray⟩ : ByteArray).toList)=false:=by rw[hq];exact decide_eq_false he
    have HE:Hid (¬ s.toList=words.getD k []):=he
    clear hq he
    generalize (⟨(words.getD k []).toArray⟩ : ByteArray)=x at *
    go_wp2
    go_round
    case rel=>exact⟨k+1,hlt,by go_num,fun j hj=>by
     by_cases hjk:j=k
     ·rw[hjk];exact HE.out
     ·exact hno'.out j (by omega)⟩
    case measure=>simp[intOf];omega
  ·have hlt' : ¬ (k:Int)<19:=by omega
   have hw:wrd s=false:=by
    have hk' : k=19:=by omega
    subst hk'
    rw[← wrd_toList,wordL,Bool.eq_false_iff]
    intro h
    obtain⟨j,hj,e⟩:=List.getElem_of_mem (List.contains_iff_mem.1 h)
    refine hno'.out j hj ?_
    rw[← e]
    simp[List.getD,List.getElem?_eq_getElem hj]
   have HW:Hid (wrd s=false):=hw
   clear hw
   go_wp2
   go_ret
   refine⟨?_,hF⟩;rw[HW.out];rfl
set_option maxHeartbeats 1000000 in
theorem whole10 (s:ByteArray) (w:World) (hs:s.size≤maxLen) :
 Calls Tryz.prog 95 #[.string s,.int .u64 10] w fun e w'=>e=nOut (valueL 10 s.data.toList)∧w' = w:=by
 unfold maxLen at hs
 go_enter Tryz.func95,Tryz.ntmps95
 go_wp2
 go_loop [6,7] (fun n i=>∃ k m:Nat,k≤s.size∧i = .int .i64 k∧n = .int .u64 m∧m≤9223372036854775807∧Hid (valL 10 (s.data.toList.drop k) m=valL 10 s.data.toList 0)) (fun _ i=>s.size-(intOf i).toNat)
 case atStart=>exact⟨0,0,Nat.zero_le _,rfl,rfl,by omega,rfl⟩
 case round =>
  obtain⟨k,m,hk,rfl,rfl,hm,he⟩:=hrel
  by_cases hlt:k<s.size
  ·have hb:=byte_lt s[k]
   have hd:=fig_le s[k].toNat
   have he' := he.out
   rw[drop_cons s k hlt] at he'
   have hne:s.data.toList≠[]:=by intro e;have:=drop_cons s k hlt;rw[e] at this;simp at this
   have hv:valueL 10 s.data.toList=valL 10 s.data.toList 0:=by simp only[valueL];rw[if_neg hne]
   have HV:Hid (valueL 10 s.data.toList=valL 10 s.data.toList 0):=hv
   have HE:Hid (valL 10 (s[k]::s.data.toList.drop (k+1)) m=valL 10 s.data.toList 0):=he'
   clear he' hv he hne
   have hstop:Hid (10≤fig s[k].toNat∨(9223372036854775807-fig s[k].toNat) / 10<m→valueL 10 s.data.toList=none):=fun h=>by rw[HV.out,← HE.out,valL_stop h]
   have hgo:Hid (¬ 10≤fig s[k].toNat→¬ (9223372036854775807-fig s[k].toNat) / 10<m→valL 10 (s.data.toList.drop (k+1)) (m*10+fig s[k].toNat)=valL 10 s.data.toList 0):=fun h1 h2=>by rw[← HE.out,valL_go h1 h2]
   clear HE HV
   have hfg:=fun w=>figure_any s[k].toNat w hb
   unfold figR at hfg
   generalize fig s[k].toNat=D at *
   by_cases h1:10≤D
   ·have e1:=nOut_none (hstop.out (.inl h1))
    have E1:Hid _:=e1
    clear e1
    have hdd:10≤(if D=16 then 99 else D)∧(if D=16 then 99 else D)≤99:=by split <;> omega
    generalize (if D=16 then 99 else D)=D' at *
    obtain⟨d1,d2⟩:=hdd
    go_wp2_with (go_at_call 140;refine (hfg _).mono ?_;rintro e w' ⟨rfl,rfl⟩)
    go_ret2
    exact⟨E1.out,rfl⟩
   ·rw[if_neg (by omega)] at hfg
    by_cases h2:(9223372036854775807-D) / 10<m
    ·have e1:=nOut_none (hstop.out (.inr h2))
     have E1:Hid _:=e1
     clear e1
     go_wp2_with (go_at_call 140;refine (hfg _).mono ?_;rintro e w' ⟨rfl,rfl⟩)
     all_goals first | (exfalso;omega) | skip
     go_ret2
     exact⟨E1.out,rfl⟩
    ·have hg:=hgo.out h1 h2
     have HG:Hid _:=hg
     clear hg hgo hstop
     have hle:m*10+D≤9223372036854775807:=by omega
     go_wp2_with (go_at_call 140;refine (hfg _).mono ?_;rintro e w' ⟨rfl,rfl⟩)
     all_goals first | (exfalso;omega) | skip
     go_round
     case rel=>exact⟨k+1,m*10+D,hlt,by go_num,by first | go_num | (congr 1;omega),hle,HG⟩
     case measure=>simp[intOf];omega
  ·have:k=s.size:=by omega
   subst this
   have he' := he.out
   rw[drop_end s s.size (Nat.le_refl _)] at he'
   simp only[valL] at he'
   have HE:Hid (some m=valL 10 s.data.toList 0):=he'
   clear he he'
   go_wp2
   go_ret2
   exact⟨value_end 10 s m HE.out,rfl⟩
set_option maxHeartbeats 1000000 in
theorem whole16 (s:ByteArray) (w:World) (hs:s.size≤maxLen) :
 Calls Tryz.prog 95 #[.string s,.int .u64 16] w fun e w'=>e=nOut (valueL 16 s.data.toList)∧w' = w:=by
 unfold maxLen at hs
 go_enter Tryz.func95,Tryz.ntmps95
 go_wp2
 go_loop [6,7] (fun n i=>∃ k m:Nat,k≤s.size∧i = .int .i64 k∧n = .int .u64 m∧m≤9223372036854775807∧Hid (valL 16 (s.data.toList.drop k) m=valL 16 s.data.toList 0)) (fun _ i=>s.size-(intOf i).toNat)
 case atStart=>exact⟨0,0,Nat.zero_le _,rfl,rfl,by omega,rfl⟩
 case round =>
  obtain⟨k,m,hk,rfl,rfl,hm,he⟩:=hrel
  by_cases hlt:k<s.size
  ·have hb:=byte_lt s[k]
   have hd:=fig_le s[k].toNat
   have he' := he.out
   rw[drop_cons s k hlt] at he'
   have hne:s.data.toList≠[]:=by intro e;have:=drop_cons s k hlt;rw[e] at this;simp at this
   have hv:valueL 16 s.data.toList=valL 16 s.data.toList 0:=by simp only[valueL];rw[if_neg hne]
   have HV:Hid (valueL 16 s.data.toList=valL 16 s.data.toList 0):=hv
   have HE:Hid (valL 16 (s[k]::s.data.toList.drop (k+1)) m=valL 16 s.data.toList 0):=he'
   clear he' hv he hne
   have hstop:Hid (16≤fig s[k].toNat∨(9223372036854775807-fig s[k].toNat) / 16<m→valueL 16 s.data.toList=none):=fun h=>by rw[HV.out,← HE.out,valL_stop h]
   have hgo:Hid (¬ 16≤fig s[k].toNat→¬ (9223372036854775807-fig s[k].toNat) / 16<m→valL 16 (s.data.toList.drop (k+1)) (m*16+fig s[k].toNat)=valL 16 s.data.toList 0):=fun h1 h2=>by rw[← HE.out,valL_go h1 h2]
   clear HE HV
   have hfg:=fun w=>figure_any s[k].toNat w hb
   unfold figR at hfg
   generalize fig s[k].toNat=D at *
   by_cases h1:16≤D
   ·have e1:=nOut_none (hstop.out (.inl h1))
    have E1:Hid _:=e1
    clear e1
    have hdd:16≤(if D=16 then 99 else D)∧(if D=16 then 99 else D)≤99:=by split <;> omega
    generalize (if D=16 then 99 else D)=D' at *
    obtain⟨d1,d2⟩:=hdd
    go_wp2_with (go_at_call 140;refine (hfg _).mono ?_;rintro e w' ⟨rfl,rfl⟩)
    go_ret2
    exact⟨E1.out,rfl⟩
   ·rw[if_neg (by omega)] at hfg
    by_cases h2:(9223372036854775807-D) / 16<m
    ·have e1:=nOut_none (hstop.out (.inr h2))
     have E1:Hid _:=e1
     clear e1
     go_wp2_with (go_at_call 140;refine (hfg _).mono ?_;rintro e w' ⟨rfl,rfl⟩)
     all_goals first | (exfalso;omega) | skip
     go_ret2
     exact⟨E1.out,rfl⟩
    ·have hg:=hgo.out h1 h2
     have HG:Hid _:=hg
     clear hg hgo hstop
     have hle:m*16+D≤9223372036854775807:=by omega
     go_wp2_with (go_at_call 140;refine (hfg _).mono ?_;rintro e w' ⟨rfl,rfl⟩)
     all_goals first | (exfalso;omega) | skip
     go_round
     case rel=>exact⟨k+1,m*16+D,hlt,by go_num,by first | go_num | (congr 1;omega),hle,HG⟩
     case measure=>simp[intOf];omega
  ·have:k=s.size:=by omega
   subst this
   have he' := he.out
   rw[drop_end s s.size (Nat.le_refl _)] at he'
   simp only[valL] at he'
   have HE:Hid (some m=valL 16 s.data.toList 0):=he'
   clear he he'
   go_wp2
   go_ret2
   exact⟨value_end 16 s m HE.out,rfl⟩
theorem u8eq (x:UInt8) (n:Nat) (h:n<256) : (x=UInt8.ofNat n)=(x.toNat=n):=by
 rw[UInt8.toNat_inj.symm]
 simp
 omega
theorem head_of {s:ByteArray} (h:0<s.size) : ∃ l,s.data.toList=s[0]::l:=⟨_,by have:=drop_cons s 0 h;simpa using this⟩
theorem empty_of (s:ByteArray) : s.toList.isEmpty=decide (s.size=0):=by
 rw[Lib.toList_data,Lib.size_eq]
 cases s.data.toList <;> simp
theorem num_bad {s:ByteArray} (h:0<s.size) (h0:s[0].toNat=39) (hq:quotedL s.data.toList=false) : num s=none:=by
 obtain⟨l,hl⟩:=head_of h
 rw[num,numL,hq]
 simp only[Bool.false_eq_true,if_false]
 rw[hl]
 have h48:¬ ((s[0]::l).take 2 = [48,120]):=by
  intro e
  have:s[0]=48:=by
   cases l <;> simp at e
   exact e.1
  rw[this] at h0
  exact absurd h0 (by decide)
 rw[if_neg h48]
 simp only[valueL]
 rw[if_neg (by simp)]
 exact valL_stop (.inl (by rw[h0];decide))
theorem num_ten {s:ByteArray} (hq:quotedL s.data.toList=false) (hx:Lib.hasPrefix s.data.toList [48,120]=false) : num s=valueL 10 s.data.toList:=by
 rw[prefix_two,decide_eq_false_iff_not] at hx
 rw[num,numL,hq,if_neg hx];simp
theorem num_hex {s:ByteArray} (hq:quotedL s.data.toList=false) (hx:Lib.hasPrefix s.data.toList [48,120]=true) : num s=valueL 16 (s.extract 2 s.size).data.toList:=by
 rw[prefix_two,decide_eq_true_eq] at hx
 rw[num,numL,hq,if_pos hx,Lib.extract_data,List.take_of_length_le (l:=s.data.toList.drop 2) (by rw[List.length_drop,← Lib.size_eq];omega)];simp
theorem quoted_head {s:ByteArray} (h:0<s.size) (h0:¬ s[0].toNat=39) : quotedL s.data.toList=false:=by
 obtain⟨l,hl⟩:=head_of h
 rw[hl]
 unfold quotedL
 rw[decide_eq_false_iff_not]
 rintro ⟨_,h1,_⟩
 simp at h1
 rw[h1] at h0
 exact h0 (by decide)
theorem prefix_at {s:ByteArray} (h:1<s.size) : Lib.hasPrefix s.data.toList [48,120]=(decide ((s[0]'(Nat.lt_trans (by decide) h)).toNat=48)&&decide ((s[1]'h).toNat=120)):=by
 rw[prefix_two]
 obtain⟨⟨l⟩⟩:=s
 have hl:1<l.length:=h
 match l,hl with
 | a::b::r,_ =>
   show decide ((a::b::r).take 2 = [48,120])=(decide (a.toNat=48)&&decide (b.toNat=120))
   have k1:=u8eq a 48 (by decide)
   have k2:=u8eq b 120 (by decide)
   rw[Bool.eq_iff_iff]
   simp only[List.take_succ_cons,List.take_zero,List.cons.injEq,and_true,decide_eq_true_eq,Bool.and_eq_true]
   rw[← k1,← k2]
   rfl
theorem prefix_short {s:ByteArray} (h:¬ 1<s.size) : Lib.hasPrefix s.data.toList [48,120]=false:=by
 rw[prefix_two,decide_eq_false_iff_not]
 intro e
 have:=congrArg List.length e
 rw[List.length_take,← Lib.size_eq] at this
 simp at this
 omega
set_option maxHeartbeats 1000000 in
theorem numberR_any (s:ByteArray) (w:World) (hs:s.size≤maxLen) :
 Calls Tryz.prog 59 #[.string s] w fun e w'=>e=nOut (num s)∧w' = w:=by
 have hx:(s.extract 2 s.size).size≤maxLen:=by rw[ByteArray.size_extract];omega
 have hv16:=fun w=>whole16 (s.extract 2 s.size) w hx
 have hv10:=fun w=>whole10 s w hs
 clear hx
 have hE:=empty_of s
 unfold maxLen at hs
 by_cases hz:s.size=0
 ·have hn:=num_ten (s:=s) (quoted_len (by omega)) (prefix_short (by omega))
  rw[hn]
  have hz' : s.toList.isEmpty=true:=by rw[hE];simp[hz]
  have hz2:¬ 1<(s.size:Int):=by omega
  generalize valueL 10 s.data.toList=V10 at *
  clear hn hE hz
  go_enter Tryz.func59,Tryz.ntmps59
  go_wp2_with (go_at_call 95;refine (hv10 _).mono ?_;rintro e w' ⟨he,rfl⟩;rw[nOut] at he;subst he)
  go_ret2
  exact⟨rfl,rfl⟩
 ·have l0:0<s.size:=by omega
  have hz' : s.toList.isEmpty=false:=by rw[hE];simp[hz]
  clear hE hz
  by_cases h0:s[0].toNat=39
  ·have h0' : ((s[0].toNat:Int) == 39)=true:=by simp;omega
   by_cases h3:s.size=3
   ·have hl:2<s.size:=by omega
    have l1:1<s.size:=by omega
    obtain⟨q1,q2⟩:=quoted_facts hl h3
    have h3' : ((s.size:Int) != 3)=false:=by simp;omega
    clear h3
    by_cases h2:s[2].toNat=39
    ·have h2' : ((s[2].toNat:Int) != 39)=false:=by simp;omega
     rw[h0,h2] at q1
     have b1:=byte_lt s[1]
     have hn:num s=if 32≤s[1].toNat∧s[1].toNat≤126 then some s[1].toNat else none:=by
      rw[num,numL,q1,q2];rfl
     clear h0 h2 q1 q2
     by_cases hr:32≤s[1].toNat∧s[1].toNat≤126
     ·rw[if_pos hr] at hn
      have e1:=nOut_some hn
      have E1:Hid _:=e1
      obtain⟨r1,r2⟩:=hr
      clear e1 hn
      go_enter Tryz.func59,Tryz.ntmps59
      go_wp2
      all_goals first | (exfalso;omega) | skip
      go_ret2
      exact⟨E1.out,rfl⟩
     ·rw[if_neg hr] at hn
      have e1:=nOut_none hn
      have E1:Hid _:=e1
      clear e1 hn
      go_enter Tryz.func59,Tryz.ntmps59
      go_wp2
      all_goals first | (exfalso;omega) | (go_ret2;exact⟨E1.out,rfl⟩)
    ·have h2' : ((s[2].toNat:Int) != 39)=true:=by simp;omega
     have hn:=num_bad l0 h0 (by rw[q1];simp;intro _;exact h2)
     have e1:=nOut_none hn
     have E1:Hid _:=e1
     clear e1 hn h0 h2 q1 q2
     go_enter Tryz.func59,Tryz.ntmps59
     go_wp2
     all_goals first | (exfalso;omega) | (go_ret2;exact⟨E1.out,rfl⟩)
   ·have h3' : ((s.size:Int) != 3)=true:=by simp;omega
    have hn:=num_bad l0 h0 (quoted_len h3)
    have e1:=nOut_none hn
    have E1:Hid _:=e1
    clear e1 hn h0 h3
    go_enter Tryz.func59,Tryz.ntmps59
    go_wp2
    all_goals first | (exfalso;omega) | (go_ret2;exact⟨E1.out,rfl⟩)
  ·have h0' : ((s[0].toNat:Int) == 39)=false:=beq_int_false (by omega)
   have hq:=quoted_head l0 h0
   clear h0
   by_cases l1:1<s.size
   ·have hp:=prefix_at l1
    have l1' : (1:Int)<s.size:=by omega
    by_cases h48:s[0].toNat=48
    ·have h48' : ((s[0].toNat:Int) == 48)=true:=by simp;omega
     by_cases h120:s[1].toNat=120
     ·have h120' : ((s[1].toNat:Int) == 120)=true:=by simp;omega
      rw[h48,h120] at hp
      have hn:=num_hex hq hp
      rw[hn]
      generalize valueL 16 (s.extract 2 s.size).data.toList=V16 at *
      clear hn hq hp h48 h120
      go_enter Tryz.func59,Tryz.ntmps59
      go_wp2_with (go_at_call 95;refine (hv16 _).mono ?_;rintro e w' ⟨he,rfl⟩;rw[nOut] at he;subst he)
      go_ret2
      exact⟨rfl,rfl⟩
     ·have h120' : ((s[1].toNat:Int) == 120)=false:=beq_int_false (by omega)
      have hn:=num_ten hq (by rw[hp];simp;intro _;exact h120)
      rw[hn]
      generalize valueL 10 s.data.toList=V10 at *
      clear hn hq hp h48 h120
      go_enter Tryz.func59,Tryz.ntmps59
      go_wp2_with (go_at_call 95;refine (hv10 _).mono ?_;rintro e w' ⟨he,rfl⟩;rw[nOut] at he;subst he)
      go_ret2
      exact⟨rfl,rfl⟩
    ·have h48' : ((s[0].toNat:Int) == 48)=false:=beq_int_false (by omega)
     have hn:=num_ten hq (by rw[hp];simp;intro h;exact absurd h h48)
     rw[hn]
     generalize valueL 10 s.data.toList=V10 at *
     clear hn hq hp h48
     go_enter Tryz.func59,Tryz.ntmps59
     go_wp2_with (go_at_call 95;refine (hv10 _).mono ?_;rintro e w' ⟨he,rfl⟩;rw[nOut] at he;subst he)
     go_ret2
     exact⟨rfl,rfl⟩
   ·have l1' : ¬ (1:Int)<s.size:=by omega
    have hn:=num_ten hq (prefix_short l1)
    rw[hn]
    generalize valueL 10 s.data.toList=V10 at *
    clear hn hq
    go_enter Tryz.func59,Tryz.ntmps59
    go_wp2_with (go_at_call 95;refine (hv10 _).mono ?_;rintro e w' ⟨he,rfl⟩;rw[nOut] at he;subst he)
    go_ret2
    exact⟨rfl,rfl⟩
def name (s:ByteArray) : Bool:=nameL s.data.toList
theorem kind_let (n:Nat) : kindN n=2↔isLet n=true:=by
 simp only[kindN,isBl,isLet,isDig,decide_eq_true_eq]
 repeat (first | omega | split)
theorem name_nil {s:ByteArray} (h:s.size=0) : name s=false:=by
 have:s.data.toList = []:=by rw[← List.length_eq_zero_iff,← Lib.size_eq];exact h
 rw[name,this];rfl
theorem name_eq {s:ByteArray} (h:0<s.size) : name s=(isLet s[0].toNat&&decide (rnE s 0=s.size) && !wrd s):=by
 obtain⟨l,hl⟩:=head_of h
 rw[name,wrd,rnE,Lib.size_eq s,List.drop_zero]
 rw[hl]
 simp[nameL]
set_option maxHeartbeats 1000000 in
theorem name_any (s:ByteArray) (w:World) (hs:s.size≤maxLen) (T:Tabs w) :
 Calls Tryz.prog 133 #[.string s] w fun e w'=>e = .returned (.bool (name s))∧w' = w:=by
 have hr:=fun w T=>runEnd_any s 0 w hs (Nat.zero_le _) T
 have hw:=fun w=>isWord_any s w
 have hE:=empty_of s
 have hle:=rnE_le s 0 (Nat.zero_le _)
 unfold maxLen at hs
 by_cases hz:s.size=0
 ·rw[name_nil hz]
  have hz' : s.toList.isEmpty=true:=by rw[hE];simp[hz]
  clear hE hle
  go_enter Tryz.func133,Tryz.ntmps133
  go_wp2
  go_ret
  exact⟨rfl,rfl⟩
 ·have l0:0<s.size:=by omega
  have hz' : s.toList.isEmpty=false:=by rw[hE];simp[hz]
  rw[name_eq l0]
  clear hE hz
  have hb:=byte_lt s[0]
  have hk:=fun w T=>kindOf_any s[0].toNat w hb T
  by_cases h2:kindN s[0].toNat=2
  ·rw[(kind_let _).1 h2]
   rw[h2] at hk
   clear h2
   by_cases hR:rnE s 0=s.size
   ·rw[decide_eq_true hR]
    rw[hR] at hr
    generalize wrd s=B at *
    clear hR hle
    go_enter Tryz.func133,Tryz.ntmps133
    go_wp2_with (first | (go_at_call 149;refine (hk _ T).mono ?_;rintro e w' ⟨rfl,rfl⟩) | (go_at_call 154;refine (hr _ T).mono ?_;rintro e w' ⟨rfl,rfl⟩) | (go_at_call 171;refine (hw _).mono ?_;rintro e w' ⟨rfl,rfl⟩))
    all_goals go_ret
    all_goals exact⟨by simp,rfl⟩
   ·rw[decide_eq_false hR]
    generalize wrd s=B at *
    generalize rnE s 0=X at *
    have hR' : ((X:Int) == s.size)=false:=beq_int_false (by omega)
    clear hR
    go_enter Tryz.func133,Tryz.ntmps133
    go_wp2_with (first | (go_at_call 149;refine (hk _ T).mono ?_;rintro e w' ⟨rfl,rfl⟩) | (go_at_call 154;refine (hr _ T).mono ?_;rintro e w' ⟨rfl,rfl⟩) | (go_at_call 171;refine (hw _).mono ?_;rintro e w' ⟨rfl,rfl⟩))
    all_goals go_ret
    all_goals exact⟨by simp,rfl⟩
  ·have hl:isLet s[0].toNat=false:=by rw[Bool.eq_false_iff];exact fun h=>h2 ((kind_let _).2 h)
   rw[hl]
   have h2' : ((kindN s[0].toNat:Int) == 2)=false:=beq_int_false (by omega)
   generalize kindN s[0].toNat=K at *
   clear h2 hl hr hle hw
   go_enter Tryz.func133,Tryz.ntmps133
   go_wp2_with (first | (go_at_call 149;refine (hk _ T).mono ?_;rintro e w' ⟨rfl,rfl⟩))
   all_goals go_ret
   all_goals exact⟨by simp,rfl⟩
theorem take_full (s:ByteArray) : s.data.toList.take s.size=s.data.toList:=by
 rw[List.take_of_length_le];rw[← Lib.size_eq];exact Nat.le_refl _
theorem take_snoc (s:ByteArray) (k:Nat) (h:k<s.size) : s.data.toList.take (k+1)=s.data.toList.take k++[s[k]]:=by
 rw[List.take_succ_eq_append_getElem (by simpa using h)];rfl
theorem index_nl (l:List UInt8) : Lib.indexByte l 10=if toNl l=l.length then -1 else (toNl l:Int):=by
 induction l with
 | nil=>rfl
 | cons c l ih =>
   have hk:=u8eq c 10 (by decide)
   have hle:=toNl_le l
   by_cases h:c.toNat=10
   ·have h' : c=UInt8.ofNat 10:=by rw[hk];exact h
    have e1:toNl (c::l)=0:=by simp[toNl,h]
    have hq:(c == (10:UInt8))=true:=by rw[beq_iff_eq];exact h'
    rw[e1,if_neg (by simp)]
    simp only[Lib.indexByte,hq]
    rfl
   ·have h' : ¬ c=UInt8.ofNat 10:=by rw[hk];exact h
    have e1:toNl (c::l)=toNl l+1:=by simp[toNl,h]
    have hq:(c == (10:UInt8))=false:=by
     rw[beq_eq_false_iff_ne];exact h'
    have e2:Lib.indexByte (c::l) 10=if Lib.indexByte l 10 == -1 then -1 else Lib.indexByte l 10+1:=by
     simp only[Lib.indexByte,hq]
     rfl
    rw[e1,e2,ih]
    by_cases he:toNl l=l.length
    ·simp[he]
    ·rw[if_neg he,if_neg (c:=toNl l+1=(c::l).length) (by simp;omega)]
     have:((toNl l:Int) == -1)=false:=beq_int_false (by omega)
     simp[this]
theorem indexR_any (s:ByteArray) (w:World) :
 Calls Tryz.prog 203 #[.string s,.int .u8 10] w fun e w'=>e = .returned (.int .i64 (Lib.indexByte s.data.toList 10))∧w' = w:=by
 go_enter Tryz.func203,Tryz.ntmps203
 go_wp2
 rw[run_callFunc_extern Tryz.func222 (by kernel_rfl) (by kernel_rfl) (by kernel_rfl) (e:=Extern.BytealgIndexByte.indexByte) (by kernel_rfl),Lib.run_indexByteString]
 simp only[Result.andThen]
 rw[Oper.upon_value]
 go_wp2
 go_ret
 exact⟨rfl,rfl⟩
theorem index_any (s:ByteArray) (w:World) :
 Calls Tryz.prog 182 #[.string s,.int .u8 10] w fun e w'=>e = .returned (.int .i64 (Lib.indexByte s.data.toList 10))∧w' = w:=by
 go_enter Tryz.func182,Tryz.ntmps182
 go_wp2_with (go_at_call 203;refine (indexR_any _ _).mono ?_;rintro e w' ⟨rfl,rfl⟩)
 go_ret
 exact⟨rfl,rfl⟩
theorem prefS_any (s p:ByteArray) (w:World) (hs:s.size≤maxLen) (hp:p.size≤maxLen) :
 Calls Tryz.prog 150 #[.string s,.string p] w fun e w'=>e = .returned (.bool (Lib.hasPrefix s.data.toList p.data.toList))∧w' = w:=by
 go_enter Tryz.func150,Tryz.ntmps150
 go_wp2_with (go_at_call 181;refine (hasPrefix_any _ _ _ hs hp).mono ?_;rintro e w' ⟨rfl,rfl⟩)
 go_ret
 exact⟨rfl,rfl⟩
def nlE (s:ByteArray) (k:Nat) : Nat:=k+toNl (s.data.toList.drop k)
theorem nlE_le (s:ByteArray) (k:Nat) (h:k≤s.size) : k≤nlE s k∧nlE s k≤s.size:=by
 have:=toNl_le (s.data.toList.drop k)
 rw[List.length_drop,← Lib.size_eq] at this
 unfold nlE
 omega
theorem extract_rest (s:ByteArray) (k:Nat) : (s.extract k s.size).data.toList=s.data.toList.drop k:=by
 rw[Lib.extract_data,List.take_of_length_le]
 rw[List.length_drop,← Lib.size_eq]
 exact Nat.le_refl _
theorem lineEnd_any (s:ByteArray) (k:Nat) (w:World) (hs:s.size≤maxLen) (hk:k≤s.size) :
 Calls Tryz.prog 151 #[.string s,.int .i64 k] w fun e w'=>e = .returned (.int .i64 (nlE s k))∧w' = w:=by
 have hix:=fun w=>index_any (s.extract k s.size) w
 rw[extract_rest,index_nl] at hix
 have hle:=nlE_le s k hk
 have hl:(s.data.toList.drop k).length=s.size-k:=by rw[List.length_drop,← Lib.size_eq]
 rw[hl] at hix
 unfold maxLen at hs
 by_cases he:toNl (s.data.toList.drop k)=s.size-k
 ·rw[if_pos he] at hix
  have HR:Hid (nlE s k=s.size):=by show _=_;unfold nlE;omega
  clear hl he hle
  go_enter Tryz.func151,Tryz.ntmps151
  go_wp2_with (go_at_call 182;refine (hix _).mono ?_;rintro e w' ⟨rfl,rfl⟩)
  go_ret
  refine⟨?_,rfl⟩;rw[HR.out];rfl
 ·rw[if_neg he] at hix
  have hT:toNl (s.data.toList.drop k)≤s.size-k:=by rw[← hl];exact toNl_le _
  unfold nlE
  clear hl he hle
  generalize toNl (s.data.toList.drop k)=T at *
  go_enter Tryz.func151,Tryz.ntmps151
  go_wp2_with (go_at_call 182;refine (hix _).mono ?_;rintro e w' ⟨rfl,rfl⟩)
  go_ret
  exact⟨ret_int (by omega),rfl⟩
def skE (s:ByteArray) (k:Nat) : Nat:=k+skipL false (s.data.toList.drop k)
theorem skE_le (s:ByteArray) (k:Nat) (h:k≤s.size) : k≤skE s k∧skE s k≤s.size:=by
 have:=skipL_le false (s.data.toList.drop k)
 rw[List.length_drop,← Lib.size_eq] at this
 unfold skE
 omega
theorem skE_end (s:ByteArray) (k:Nat) (h:s.size≤k) : skE s k=k:=by simp[skE,drop_end s k h,skipL]
theorem skE_bl (s:ByteArray) (k:Nat) (h:k<s.size) (hb:isBl s[k].toNat=true) : skE s k=skE s (k+1):=by
 simp[skE,drop_cons s k h,skipL,hb];omega
def note (s:ByteArray) (k:Nat) : Bool:=Lib.hasPrefix (s.data.toList.drop k) [47,47]
theorem pref_note (l:List UInt8) (c:UInt8) : Lib.hasPrefix (c::l) [47,47]=decide (c.toNat=47∧l.head? = some 47):=by
 have k:=u8eq c 47 (by decide)
 have k' : (c=47)=(c.toNat=47):=k
 unfold Lib.hasPrefix
 rw[Bool.eq_iff_iff]
 cases l with
 | nil=>simp[List.isPrefixOf]
 | cons d l =>
   simp only[List.isPrefixOf,Bool.and_true,Bool.and_eq_true,beq_iff_eq,List.head?_cons,Option.some.injEq,decide_eq_true_eq]
   rw[← k']
   constructor <;> rintro ⟨a,b⟩ <;> exact⟨a.symm,b.symm⟩
theorem skE_note (s:ByteArray) (k:Nat) (h:k<s.size) (hb:isBl s[k].toNat=false) (hn:note s k=true) : skE s k=skE s (nlE s k)∧k<nlE s k:=by
 unfold note at hn
 rw[drop_cons s k h,pref_note] at hn
 have hn' := of_decide_eq_true hn
 have hd:s.data.toList.drop (k+1+toNl (s.data.toList.drop (k+1)))=(s.data.toList.drop (k+1)).drop (toNl (s.data.toList.drop (k+1))):=by rw[List.drop_drop]
 constructor
 ·simp only[skE,nlE,drop_cons s k h,skipL,hb,toNl]
  rw[if_neg (by simp),if_pos hn',if_neg (by rw[hn'.1];decide),skip_note]
  rw[show k+(toNl (List.drop (k+1) s.data.toList)+1)=k+1+toNl (List.drop (k+1) s.data.toList) from by omega,hd]
  omega
 ·simp only[nlE,drop_cons s k h,toNl]
  rw[if_neg (by rw[hn'.1];decide)]
  omega
theorem skE_out (s:ByteArray) (k:Nat) (h:k<s.size) (hb:isBl s[k].toNat=false) (hn:note s k=false) : skE s k=k:=by
 unfold note at hn
 rw[drop_cons s k h,pref_note] at hn
 have hn' := of_decide_eq_false hn
 simp only[skE,drop_cons s k h,skipL,hb]
 rw[if_neg (by simp),if_neg hn']
 omega
theorem kind_bl (n:Nat) : kindN n=1↔isBl n=true:=by
 simp only[kindN,isBl,isLet,isDig,decide_eq_true_eq]
 repeat (first | omega | split)
set_option maxHeartbeats 1000000 in
theorem skip_any (s:ByteArray) (k0:Nat) (w:World) (hs:s.size≤maxLen) (hk0:k0≤s.size) (T:Tabs w) :
 Calls Tryz.prog 105 #[.string s,.int .i64 k0] w fun e w'=>e = .returned (.int .i64 (skE s k0))∧w' = w:=by
 have hs' := hs
 have HS:Hid (s.size≤maxLen):=hs'
 clear hs'
 unfold maxLen at hs
 go_enter Tryz.func105,Tryz.ntmps105
 go_wp2
 go_loop [1] (fun i=>∃ k:Nat,k≤s.size∧i = .int .i64 k∧Hid (skE s k=skE s k0)) (fun i=>s.size-(intOf i).toNat)
 case atStart=>exact⟨k0,hk0,rfl,rfl⟩
 case round =>
  obtain⟨k,hk,rfl,he⟩:=hrel
  by_cases hlt:k<s.size
  ·have hb:=byte_lt s[k]
   have hK:=fun w T=>kindOf_any s[k].toNat w hb T
   by_cases h1:kindN s[k].toNat=1
   ·have hr:=skE_bl s k hlt ((kind_bl _).1 h1)
    rw[h1] at hK
    clear h1
    go_wp2_with (go_at_call 149;refine (hK _ T).mono ?_;rintro e w' ⟨rfl,rfl⟩)
    go_round
    case rel=>exact⟨k+1,hlt,by go_num,hr ▸ he⟩
    case measure=>simp[intOf];omega
   ·have hbl:isBl s[k].toNat=false:=by rw[Bool.eq_false_iff];exact fun h=>h1 ((kind_bl _).2 h)
    have h1' : ((kindN s[k].toNat:Int) == 1)=false:=beq_int_false (by omega)
    have hp:=fun w=>prefS_any (s.extract k s.size) ⟨#[47,47]⟩ w (by rw[ByteArray.size_extract];unfold maxLen;omega) (by decide)
    rw[extract_rest] at hp
    have hle:=fun w=>lineEnd_any s k w HS.out hk
    have hnote:=skE_note s k hlt hbl
    have hout:=skE_out s k hlt hbl
    have hnl:=nlE_le s k hk
    have hp' : ∀ w,Calls Tryz.prog 150 #[.string (s.extract k s.size),.string ⟨#[47,47]⟩] w fun e w'=>e = .returned (.bool (note s k))∧w' = w:=hp
    clear hp h1 hbl
    generalize kindN s[k].toNat=K at *
    cases hn:note s k
    ·rw[hn] at hp' hout
     have hr:=hout rfl
     clear hnote hout hnl hn hle
     go_wp2_with (first | (go_at_call 149;refine (hK _ T).mono ?_;rintro e w' ⟨rfl,rfl⟩) | (go_at_call 150;refine (hp' _).mono ?_;rintro e w' ⟨rfl,rfl⟩))
     go_ret
     refine⟨?_,rfl⟩;rw[← he.out,hr];rfl
    ·rw[hn] at hp' hnote
     obtain⟨hr,hgt⟩:=hnote rfl
     generalize nlE s k=N at *
     clear hout hn
     have HR:Hid (skE s N=skE s k0):=by show _=_;rw[← he.out,hr]
     clear hr he
     obtain⟨n1,n2⟩:=hnl
     go_wp2_with (first | (go_at_call 149;refine (hK _ T).mono ?_;rintro e w' ⟨rfl,rfl⟩) | (go_at_call 150;refine (hp' _).mono ?_;rintro e w' ⟨rfl,rfl⟩) | (go_at_call 151;refine (hle _).mono ?_;rintro e w' ⟨rfl,rfl⟩))
     go_round
     case rel=>exact⟨N,n2,rfl,HR⟩
     case measure=>simp[intOf];omega
  ·have hr:=skE_end s k (by omega)
   go_wp2
   go_ret
   refine⟨?_,rfl⟩;rw[← he.out,hr];rfl
end Go.Proofs.YtnmfcaahdeddnaaGreatDoor
