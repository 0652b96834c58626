/-
  Parts of the proof; conditions: as each says.
-/
import Derived.Test.YtnmfcaahdeddnaaGreatDoorCards
import Derived.Test.YtnmfcaahdeddnaaGreatDoorTie
import Derived.WalkKit
import Derived.ProofKit
import Derived.OpenShut
import Derived.Lay
import Derived.Lib.LaidTab
import Derived.LaidMore
import Derived.SevenTiedAt
import Derived.Stop.Joined
import Derived.Deep.Slices
import Derived.Deep.DeepHandedRow
import Derived.ChangeSlices
import Derived.SizedLaws
import Derived.Stop.LaidErr
import Derived.ChangeMaps5
import Derived.Test.YtnmfcaahdeddnaaGreatDoorMgHLAD
namespace Go.Proofs.YtnmfcaahdeddnaaGreatDoor
open Go.ChangeShapes Go.WideShapes Go.ChangeAt Go.RowKit Go.Deep
set_option linter.unusedVariables false
set_option linter.unusedSimpArgs false
set_option maxRecDepth 100000
theorem own:ownKnob Tryz.prog.godebug=none:=by kernel_rfl
def nmA : String := ((Rows.checkFieldsRow.laid.map Prod.fst)[0]?).getD ""
def nmD : String := ((Rows.checkFieldsRow.laid.map Prod.fst)[1]?).getD ""
def nmK : String := ((Rows.checkFieldsRow.laid.map Prod.fst)[3]?).getD ""
def nmS : String := ((Rows.checkFieldsRow.laid.map Prod.fst)[4]?).getD ""
theorem gKinds:Tryz.prog.globalNamed nmK=some 0:=by kernel_rfl
theorem gKindsT:(Tryz.prog.globals[0]?).map (·.type)=some 198:=by kernel_rfl
theorem gSigns:Tryz.prog.globalNamed nmS=some 1:=by kernel_rfl
theorem gSignsT:(Tryz.prog.globals[1]?).map (·.type)=some 200:=by kernel_rfl
theorem gPowT:(Tryz.prog.globals[3]?).map (·.type)=some 219:=by kernel_rfl
theorem gB:Tryz.prog.globalNamed nmD=some 6:=by kernel_rfl
theorem gBT:(Tryz.prog.globals[6]?).map (·.type)=some 238:=by kernel_rfl
theorem under124:Tryz.prog.underlying 198=some (.array 128 5):=by kernel_rfl
theorem under5:Tryz.prog.underlying 5=some (.int .u8):=by kernel_rfl
theorem under9s:Tryz.prog.underlying 9=some .string:=by kernel_rfl
theorem cells124:Tryz.prog.cellsOf 198=128:=by kernel_rfl
theorem cells5:Tryz.prog.cellsOf 5=1:=by kernel_rfl
theorem cells126:Tryz.prog.cellsOf 200=26:=by kernel_rfl
theorem cells9:Tryz.prog.cellsOf 9=1:=by kernel_rfl
def kindsZ:List Int:=(List.range 128).map fun n=>(kindN n:Int)
def strData {H:Type} (zs:List (List UInt8)) : DataW H:=.agg (zs.map fun z=>.lit (.string z))
theorem under163:Tryz.prog.underlying 238=some (.array 64 5):=by kernel_rfl
theorem cells163:Tryz.prog.cellsOf 238=64:=by kernel_rfl
theorem under149:Tryz.prog.underlying 219=some (.array 20 153):=by kernel_rfl
theorem under105u:Tryz.prog.underlying 153=some (.int .u64):=by kernel_rfl
theorem cells149:Tryz.prog.cellsOf 219=20:=by kernel_rfl
theorem cells105u:Tryz.prog.cellsOf 153=1:=by kernel_rfl
def numsOf:DataW Unit→List Int
 | .agg l=>l.map fun | .lit (.int _ n)=>n | _=>0
 | _=>[]
def bitsA:List Int:=numsOf Rows.laid_math_bits_deBruijn32tab
def bitsB:List Int:=numsOf Rows.laid_math_bits_deBruijn64tab
theorem cells_of_strs {H:Type} {enc:TypeId×Value→H} {P:Program} {w:World} {base:Nat} {sp:Nat→Bool} {held:Bool} {fuel:Nat} {t e:TypeId} {n:Nat} {cs:List Value} {zs:List (List UInt8)} {p:List MemPlace}
 (ht:P.underlying t=some (.array n e)) (he:P.underlying e=some .string) (hce:P.cellsOf e=1) (hct:P.cellsOf t=n)
 (h:DataW.trod enc P w base sp held fuel t cs=some (strData zs,p)) : cs=zs.map fun z=>Value.string ⟨z.toArray⟩:=by
 cases fuel with
 | zero=>simp[DataW.trod] at h
 | succ fuel =>
   simp only[DataW.trod,ht,hce,hct,Nat.mul_one] at h
   split at h
   ·rename_i hl
    obtain⟨xs,hm,hx⟩:=Option.map_eq_some_iff.1 h
    have hxs:xs.map (·.1)=zs.map fun z=>(DataW.lit (.string z) : DataW H):=by
     have:=congrArg Prod.fst hx
     simpa [strData] using this
    have hxl:xs.length=n:=by simpa using Lib.mapM_length hm
    have hzl:zs.length=n:=by
     have:=congrArg List.length hxs
     simp at this
     omega
    apply List.ext_getElem?
    intro i
    by_cases hi:i<n
    ·obtain⟨b,hb,hf⟩:=Lib.mapM_at hm i i (by simp[hi])
     obtain⟨z,hc,rfl,_⟩:=DataW.trod_string he hf
     have h1:cs[i]? = some (.string z):=by
      have:=congrArg (·[0]?) hc
      simpa [List.getElem?_take,List.getElem?_drop] using this
     have h2:(xs.map (·.1))[i]? = some (DataW.lit (.string z.data.toList) : DataW H):=by simp[hb]
     rw[hxs] at h2
     simp only[List.getElem?_map,Option.map_eq_some_iff,DataW.lit.injEq,Lit.string.injEq] at h2
     obtain⟨z',hz',rfl⟩:=h2
     simp[h1,hz']
    ·rw[List.getElem?_eq_none (by omega),List.getElem?_eq_none (by simp;omega)]
   ·cases h
def laidL:List (String×DataW Unit):=Rows.checkFieldsRow.laid
def nmC : String := ((laidL.map Prod.fst)[5]?).getD ""
theorem laid_list:laidL = [(nmA,Lib.tabData .u8 bitsA),(nmD,Lib.tabData .u8 bitsB),(pw10,Lib.tabData .u64 Lib.pow10Tab),(nmK,Lib.tabData .u8 kindsZ),(nmS,strData signs),(nmC,Rows.laid_unicode_CaseRanges)]:=by kernel_rfl
theorem tabs {W:World} (h:laidMetH Tryz.prog laidL W) : Tabs W:=by
 have h' : laidMet Tryz.prog laidL W:=by rw[MakeChecks.laidMetH_plain _ _ _ (by kernel_rfl)] at h;exact h
 rw[laid_list] at h'
 have hB:=Lib.tabIs_of_head gB gBT under163 under5 cells5 cells163 h'.tail
 have hP:=Lib.tabIs_of_head gPow gPowT under149 under105u cells105u cells149 h'.tail.tail
 have hk:=Lib.tabIs_of_head gKinds gKindsT under124 under5 cells5 cells124 h'.tail.tail.tail
 have hs:W.var? Tryz.prog nmS=some (signs.map fun z=>Value.string ⟨z.toArray⟩).toArray:=by
  obtain⟨ps,⟨g',t',cs,fuel,p,q,hg',ht',hvar,hd,_,_⟩,_⟩:=h'.tail.tail.tail.tail
  obtain rfl:=Option.some.inj (gSigns.symm.trans hg')
  obtain rfl:=Option.some.inj (gSignsT.symm.trans ht')
  rw[hvar,← cells_of_strs under126 under9s cells9 cells126 hd]
 have c0:∀ n,n<128→W.cell? ⟨0,n,none⟩=some (.int .u8 (kindN n)):=fun n hn=>by
  have:=hk.cell gKinds n (by simpa [kindsZ] using hn)
  rw[this]
  simp[kindsZ,List.getD,hn]
 have c2:∀ n,n<26→W.cell? ⟨1,n,none⟩=some (.string ⟨(signs.getD n []).toArray⟩):=fun n hn=>by
  have:=World.var?_cell gSigns hs n
  rw[this]
  have hl:signs.length=26:=rfl
  have hn' : n<signs.length:=by omega
  simp[List.getD,hn']
 have hb:=hB.cell gB 0 (by decide)
 exact⟨c0,c2,hP,World.block_lt_of_cell? W _ hb⟩
noncomputable def wit (os:Os) : World:=World.laidAll Tryz.prog os laidL
end Go.Proofs.YtnmfcaahdeddnaaGreatDoor
