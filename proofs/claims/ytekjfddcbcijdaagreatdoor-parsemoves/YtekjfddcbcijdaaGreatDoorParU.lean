import Derived.Test.YtekjfddcbcijdaaGreatDoorParT
import Derived.Test.YtekjfddcbcijdaaGreatDoorParR
import Derived.Test.YtekjfddcbcijdaaGreatDoorParQ
import Derived.Test.YtekjfddcbcijdaaGreatDoorParK
import Derived.Test.YtekjfddcbcijdaaGreatDoorParO
import Derived.Test.YtekjfddcbcijdaaGreatDoorParL
import Derived.Test.YtekjfddcbcijdaaGreatDoorParJ
import Derived.Test.YtekjfddcbcijdaaGreatDoorParH

namespace Go.Proofs.YtekjfddcbcijdaaGreatDoor
open Go

/-- Every call of the parser does what the grammar says, with however many steps. -/
theorem hyp_all {ts : List Tok} {B pb : Nat} (hT : Toks ts) : ∀ f, Hyp ts B pb f := by
  intro f
  induction f with
  | zero =>
    intro g nt i ns w F r hg h0 T0 hp hn hP
    have : g = 0 := by omega
    subst this
    simp [P] at hP
  | succ f IH =>
    intro g nt i ns w F r hg h0 T0 hp hn hP
    by_cases hgf : g ≤ f
    · exact IH g nt i ns w F r hgf h0 T0 hp hn hP
    · have hgf' : g = f + 1 := by omega
      subst hgf'
      cases nt with
      | prog => exact c_prog hT IH h0 T0 hn hP
      | progL _ => trivial
      | decl => exact c_decl hT IH h0 T0 hn hP
      | recd => exact c_recd hT IH h0 T0 hp hn hP
      | func => exact c_func hT IH h0 T0 hp hn hP
      | name => exact c_name hT IH h0 T0 hp hn hP
      | block _ => exact c_block hT IH h0 T0 hn hP
      | blockL _ _ => trivial
      | stmt => exact c_stmt hT IH h0 T0 hn hP
      | letS => exact c_letS hT IH h0 T0 hp hn hP
      | choice => exact c_choice hT IH h0 T0 hp hn hP
      | other => exact c_other hT IH h0 T0 hp hn hP
      | whileS => exact c_whileS hT IH h0 T0 hp hn hP
      | worded _ => exact c_worded hT IH h0 T0 hp hn hP
      | merge => exact c_merge hT IH h0 T0 hp hn hP
      | setOrDo => exact c_setOrDo hT IH h0 T0 hp hn hP
      | setS _ => exact c_setS hT IH h0 T0 hp hn hP
      | expr => exact c_expr hT IH h0 T0 hp hn hP
      | chain _ => exact c_chain hT IH h0 T0 hp hn hP
      | chainL _ _ => trivial
      | joined _ _ => exact c_joined hT IH h0 T0 hp hn hP
      | signed => exact c_signed hT IH h0 T0 hn hP
      | signedL _ => trivial
      | back => exact c_back hT IH h0 T0 hn hP
      | backL _ => trivial
      | field _ => exact c_field hT IH h0 T0 hp hn hP
      | elem _ => exact c_elem hT IH h0 T0 hp hn hP
      | first => exact c_first hT IH h0 T0 hn hP
      | number => exact c_number hT h0 T0 hp hn hP
      | nameOrCall => exact c_nameOrCall hT IH h0 T0 hp hn hP
      | made => exact c_made hT IH h0 T0 hp hn hP
      | alone _ => exact c_alone hT IH h0 T0 hp hn hP
      | empty _ => exact c_empty hT IH h0 T0 hp hn hP
      | about _ => exact c_about hT IH h0 T0 hp hn hP
      | brack => exact c_brack hT IH h0 T0 hp hn hP
      | listed th _ =>
        cases th
        · exact c_listed_false hT IH h0 T0 hp hn hP
        · exact c_listed_true hT IH h0 T0 hp hn hP
      | listedL _ _ _ => trivial
      | laySigns _ _ => trivial

end Go.Proofs.YtekjfddcbcijdaaGreatDoor
