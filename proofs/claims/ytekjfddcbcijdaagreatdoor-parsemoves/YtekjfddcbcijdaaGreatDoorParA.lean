/-
  Tokens as nodes, in plain words: which nodes are laid, or at which token it ends; and that it comes to an end; no condition.
-/
import Derived.Test.YtekjfddcbcijdaaGreatDoorLexA
import Derived.Lib.ItoaNum
namespace Go.Proofs.YtekjfddcbcijdaaGreatDoor
open Go.RowKit
set_option linter.unusedVariables false
set_option linter.unusedSimpArgs false

/-- A node: kind, text, kids' numbers, place. -/
structure PN where
  kind : Nat
  text : List UInt8
  kids : List Nat
  pl : Nat

abbrev R := Option (Except Nat (List Nat × Nat × List PN))

def tk (ts : List Tok) (i : Nat) : Tok := ts.getD i ⟨0, [], 0, 0, 0⟩
/-- What a token is in the grammar. -/
def nxT (t : Tok) : List UInt8 := if t.kind = 1 then [110, 97, 109, 101] else if t.kind = 4 then [110, 117, 109, 98, 101, 114] else if t.kind = 0 then [] else t.text
def nx (ts : List Tok) (i : Nat) : List UInt8 := nxT (tk ts i)

def bindR (r : R) (k : List Nat → Nat → List PN → R) : R :=
  match r with
  | some (.ok (v, i, ns)) => k v i ns
  | some (.error e) => some (.error e)
  | none => none
def layR (kind : Nat) (text : List UInt8) (pl : Nat) (kids : List Nat) (i : Nat) (ns : List PN) : R := some (.ok ([ns.length], i, ns ++ [⟨kind, text, kids, pl⟩]))
def wantR (ts : List Tok) (what : List UInt8) (i : Nat) (k : R) : R := if nx ts i = what then k else some (.error i)

/-- The line of an operator. -/
def lineL (s : List UInt8) : Nat :=
  if s = [61, 61] ∨ s = [33, 61] ∨ s = [60] ∨ s = [60, 61] then 1
  else if s = [124] ∨ s = [94] then 2
  else if s = [38] then 3
  else if s = [60, 60] ∨ s = [62, 62] then 4
  else if s = [43] ∨ s = [45] then 5
  else if s = [42] ∨ s = [47] ∨ s = [37] then 6
  else 0
def isSg (s : List UInt8) : Bool := s == [45] || s == [33] || s == [126]
def placeK (k : Nat) : Bool := k == 17 || k == 20 || k == 21 || k == 30

/-- What is read. -/
inductive NT where
  | prog | progL (acc : List Nat) | decl | recd | func | name | block (pl : Nat) | blockL (pl : Nat) (acc : List Nat) | stmt | letS | choice | other | whileS | worded (k : Nat) | merge | setOrDo | setS (place : Nat)
  | expr | chain (line : Nat) | chainL (line n : Nat) | joined (left line : Nat) | signed | signedL (acc : List Tok) | back | backL (n : Nat) | field (n : Nat) | elem (n : Nat)
  | first | number | nameOrCall | made | alone (k : Nat) | empty (k : Nat) | about (k : Nat) | brack
  | listed (thing : Bool) (closing : List UInt8) | listedL (thing : Bool) (closing : List UInt8) (acc : List Nat)
  | laySigns (acc : List Tok) (n : Nat)

/-- Which first part begins with a token. -/
def firstNT (s : List UInt8) : Option NT :=
  if s = [110, 117, 109, 98, 101, 114] then some .number
  else if s = [110, 97, 109, 101] then some .nameOrCall
  else if s = [110, 117, 108, 108] then some (.alone 16)
  else if s = [114, 111, 111, 116] then some (.alone 30)
  else if s = [110, 101, 119] then some .made
  else if s = [97, 114, 114] then some (.about 24)
  else if s = [108, 101, 110] then some (.about 25)
  else if s = [105, 110] then some (.empty 26)
  else if s = [105, 109, 103] then some (.about 27)
  else if s = [115, 105, 122, 101] then some (.empty 28)
  else if s = [112, 114, 111, 109, 111, 116, 101] then some (.about 29)
  else if s = [40] then some .brack
  else none
def declNT (s : List UInt8) : Option NT :=
  if s = [114, 101, 99] then some .recd
  else if s = [102, 110] then some .func
  else none
def stmtNT (s : List UInt8) : Option NT :=
  if s = [108, 101, 116] then some .letS
  else if s = [105, 102] then some .choice
  else if s = [119, 104, 105, 108, 101] then some .whileS
  else if s = [114, 101, 116, 117, 114, 110] then some (.worded 9)
  else if s = [111, 117, 116] then some (.worded 10)
  else if s = [115, 116, 111, 112] then some (.worded 11)
  else if s = [109, 101, 114, 103, 101] then some .merge
  else none

def nmB : List UInt8 := [110, 97, 109, 101]
def laySg : List Tok → Nat → List PN → Nat × List PN
  | [], n, ns => (n, ns)
  | t :: r, n, ns => laySg r ns.length (ns ++ [⟨18, t.text, [n], t.frm⟩])

def hd (v : List Nat) : Nat := v.getD 0 0
def kdN (ns : List PN) (n : Nat) : Nat := match ns[n]? with | some x => x.kind | none => 0
def plN (ns : List PN) (n : Nat) : Nat := match ns[n]? with | some x => x.pl | none => 0

def P (ts : List Tok) : Nat → NT → Nat → List PN → R
  | 0, _, _, _ => none
  | f + 1, nt, i, ns =>
    match nt with
    | .prog => P ts f (.progL []) i ns
    | .progL acc => if nx ts i = [] then layR 1 [] 0 acc i ns else bindR (P ts f .decl i ns) fun v i ns => P ts f (.progL (acc ++ [hd v])) i ns
    | .decl => match declNT (nx ts i) with | some nt => P ts f nt i ns | none => some (.error i)
    | .recd => wantR ts nmB (i + 1) <| wantR ts [123] (i + 2) <| bindR (P ts f (.listed false [125]) (i + 3) ns) fun v j ns => layR 2 (tk ts (i + 1)).text (tk ts (i + 1)).frm v j ns
    | .func => wantR ts nmB (i + 1) <| wantR ts [40] (i + 2) <| bindR (P ts f (.listed false [41]) (i + 3) ns) fun v j ns => bindR (P ts f (.block 0) j ns) fun b j ns => layR 3 (tk ts (i + 1)).text (tk ts (i + 1)).frm (v ++ [hd b]) j ns
    | .name => wantR ts nmB i <| layR 17 (tk ts i).text (tk ts i).frm [] (i + 1) ns
    | .block _ => wantR ts [123] i <| P ts f (.blockL (tk ts i).frm []) (i + 1) ns
    | .blockL pl acc => if nx ts i = [125] then layR 4 [] pl acc (i + 1) ns else bindR (P ts f .stmt i ns) fun v i ns => P ts f (.blockL pl (acc ++ [hd v])) i ns
    | .stmt => match stmtNT (nx ts i) with | some nt => P ts f nt i ns | none => P ts f .setOrDo i ns
    | .letS => wantR ts nmB (i + 1) <| wantR ts [61] (i + 2) <| bindR (P ts f .expr (i + 3) ns) fun v j ns => wantR ts [59] j <| layR 5 (tk ts (i + 1)).text (tk ts (i + 1)).frm [hd v] (j + 1) ns
    | .choice => bindR (P ts f .expr (i + 1) ns) fun v j ns => bindR (P ts f (.block 0) j ns) fun b j ns => bindR (P ts f .other j ns) fun o j ns => layR 7 [] (tk ts i).frm [hd v, hd b, hd o] j ns
    | .other => if nx ts i = [101, 108, 115, 101] then P ts f (.block 0) (i + 1) ns else layR 14 [] 0 [] i ns
    | .whileS => bindR (P ts f .expr (i + 1) ns) fun v j ns => bindR (P ts f (.block 0) j ns) fun b j ns => layR 8 [] (tk ts i).frm [hd v, hd b] j ns
    | .worded k => bindR (P ts f .expr (i + 1) ns) fun v j ns => wantR ts [59] j <| layR k [] (tk ts i).frm [hd v] (j + 1) ns
    | .merge => wantR ts [40] (i + 1) <| bindR (P ts f (.listed false [41]) (i + 2) ns) fun v j ns => wantR ts [59] j <| layR 13 [] (tk ts i).frm v (j + 1) ns
    | .setOrDo => bindR (P ts f .back i ns) fun v j ns =>
        if placeK (kdN ns (hd v)) = true ∧ nx ts j = [61] then P ts f (.setS (hd v)) j ns
        else if kdN ns (hd v) ≠ 22 then some (.error j)
        else wantR ts [59] j <| layR 12 [] (plN ns (hd v)) [hd v] (j + 1) ns
    | .setS p => bindR (P ts f .expr (i + 1) ns) fun v j ns => wantR ts [59] j <| layR 6 [] (tk ts i).frm [p, hd v] (j + 1) ns
    | .expr => bindR (P ts f (.chain 2) i ns) fun v i ns => if lineL (nx ts i) = 1 then P ts f (.joined (hd v) 2) i ns else some (.ok (v, i, ns))
    | .chain line => if line = 7 then P ts f .signed i ns else bindR (P ts f (.chain (line + 1)) i ns) fun v i ns => P ts f (.chainL line (hd v)) i ns
    | .chainL line n => if lineL (nx ts i) = line then bindR (P ts f (.joined n (line + 1)) i ns) fun v i ns => P ts f (.chainL line (hd v)) i ns else some (.ok ([n], i, ns))
    | .joined left line => bindR (P ts f (.chain line) (i + 1) ns) fun v j ns => layR 19 (tk ts i).text (tk ts i).frm [left, hd v] j ns
    | .signed => P ts f (.signedL []) i ns
    | .signedL acc => if isSg (nx ts i) then P ts f (.signedL (acc ++ [tk ts i])) (i + 1) ns else bindR (P ts f .back i ns) fun v j ns => P ts f (.laySigns acc.reverse (hd v)) j ns
    | .laySigns acc n => some (.ok ([(laySg acc n ns).1], i, (laySg acc n ns).2))
    | .back => bindR (P ts f .first i ns) fun v i ns => P ts f (.backL (hd v)) i ns
    | .backL n => if nx ts i = [46] then bindR (P ts f (.field n) i ns) fun v i ns => P ts f (.backL (hd v)) i ns else if nx ts i = [91] then bindR (P ts f (.elem n) i ns) fun v i ns => P ts f (.backL (hd v)) i ns else some (.ok ([n], i, ns))
    | .field n => wantR ts nmB (i + 1) <| layR 20 (tk ts (i + 1)).text (tk ts i).frm [n] (i + 2) ns
    | .elem n => bindR (P ts f .expr (i + 1) ns) fun v j ns => wantR ts [93] j <| layR 21 [] (tk ts i).frm [n, hd v] (j + 1) ns
    | .first => match firstNT (nx ts i) with | some nt => P ts f nt i ns | none => some (.error i)
    | .number => layR 15 (Lib.decDigits (tk ts i).n) (tk ts i).frm [] (i + 1) ns
    | .nameOrCall => if nx ts (i + 1) = [40] then bindR (P ts f (.listed true [41]) (i + 2) ns) fun v j ns => layR 22 (tk ts i).text (tk ts i).frm v j ns else layR 17 (tk ts i).text (tk ts i).frm [] (i + 1) ns
    | .made => wantR ts nmB (i + 1) <| layR 23 (tk ts (i + 1)).text (tk ts (i + 1)).frm [] (i + 2) ns
    | .alone k => layR k [] (tk ts i).frm [] (i + 1) ns
    | .empty k => wantR ts [40] (i + 1) <| wantR ts [41] (i + 2) <| layR k [] (tk ts i).frm [] (i + 3) ns
    | .about k => bindR (P ts f .brack (i + 1) ns) fun v j ns => layR k [] (tk ts i).frm [hd v] j ns
    | .brack => wantR ts [40] i <| bindR (P ts f .expr (i + 1) ns) fun v j ns => wantR ts [41] j <| some (.ok (v, j + 1, ns))
    | .listed thing closing => if nx ts i = closing then some (.ok ([], i + 1, ns)) else bindR (P ts f (if thing then .expr else .name) i ns) fun v j ns => P ts f (.listedL thing closing [hd v]) j ns
    | .listedL thing closing acc => if nx ts i = [44] then bindR (P ts f (if thing then .expr else .name) (i + 1) ns) fun v j ns => P ts f (.listedL thing closing (acc ++ [hd v])) j ns else wantR ts closing i <| some (.ok (acc, i + 1, ns))
end Go.Proofs.YtekjfddcbcijdaaGreatDoor
