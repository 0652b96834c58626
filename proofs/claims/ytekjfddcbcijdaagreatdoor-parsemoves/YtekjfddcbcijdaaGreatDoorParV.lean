/-
  The three maps that the parser is made with; condition: none.
-/
import Derived.Test.YtekjfddcbcijdaaGreatDoorParU
namespace Go.Proofs.YtekjfddcbcijdaaGreatDoor
open Go.RowKit
set_option linter.unusedVariables false
set_option linter.unusedSimpArgs false
def EM (l : List (List UInt8 × Nat)) (n : Nat) : Array MapEntry := (EsR (l.take n) 0).toArray

set_option maxRecDepth 100000 in
set_option maxHeartbeats 1000000 in
theorem decls_any (w : World) : Calls Tryz.prog 13 #[] w fun e w' => e = .returned (.map (some w.heap.size)) ∧ w' = w.alloc (.map (EsR declM 0).toArray 2) := by
  have hmk : (Instr.makeMap 46 none).run Tryz.prog w = .ok (.map (some w.heap.size)) (w.alloc (.map (EM declM 0) 0)) := rfl
  have i0 : (Instr.mapUpdate 46 (.map (some w.heap.size)) (.string ⟨#[114, 101, 99]⟩) (.func (.func 20) #[] #[])).run Tryz.prog (w.alloc (.map (EM declM 0) 0)) = .ok () (w.alloc (.map (EM declM 1) 1)) := insR w (declM.take 0) ([114, 101, 99], 20) (by decide)
  have i1 : (Instr.mapUpdate 46 (.map (some w.heap.size)) (.string ⟨#[102, 110]⟩) (.func (.func 21) #[] #[])).run Tryz.prog (w.alloc (.map (EM declM 1) 1)) = .ok () (w.alloc (.map (EM declM 2) 2)) := insR w (declM.take 1) ([102, 110], 21) (by decide)
  go_enter Tryz.func13, Tryz.ntmps13
  go_wp2
  go_ret
  exact ⟨rfl, rfl⟩

set_option maxRecDepth 100000 in
set_option maxHeartbeats 1000000 in
theorem stmts_any (w : World) : Calls Tryz.prog 14 #[] w fun e w' => e = .returned (.map (some w.heap.size)) ∧ w' = w.alloc (.map (EsR stmtM 0).toArray 7) := by
  have hmk : (Instr.makeMap 46 none).run Tryz.prog w = .ok (.map (some w.heap.size)) (w.alloc (.map (EM stmtM 0) 0)) := rfl
  have i0 : (Instr.mapUpdate 46 (.map (some w.heap.size)) (.string ⟨#[108, 101, 116]⟩) (.func (.func 22) #[] #[])).run Tryz.prog (w.alloc (.map (EM stmtM 0) 0)) = .ok () (w.alloc (.map (EM stmtM 1) 1)) := insR w (stmtM.take 0) ([108, 101, 116], 22) (by decide)
  have i1 : (Instr.mapUpdate 46 (.map (some w.heap.size)) (.string ⟨#[105, 102]⟩) (.func (.func 23) #[] #[])).run Tryz.prog (w.alloc (.map (EM stmtM 1) 1)) = .ok () (w.alloc (.map (EM stmtM 2) 2)) := insR w (stmtM.take 1) ([105, 102], 23) (by decide)
  have i2 : (Instr.mapUpdate 46 (.map (some w.heap.size)) (.string ⟨#[119, 104, 105, 108, 101]⟩) (.func (.func 24) #[] #[])).run Tryz.prog (w.alloc (.map (EM stmtM 2) 2)) = .ok () (w.alloc (.map (EM stmtM 3) 3)) := insR w (stmtM.take 2) ([119, 104, 105, 108, 101], 24) (by decide)
  have i3 : (Instr.mapUpdate 46 (.map (some w.heap.size)) (.string ⟨#[114, 101, 116, 117, 114, 110]⟩) (.func (.func 25) #[] #[])).run Tryz.prog (w.alloc (.map (EM stmtM 3) 3)) = .ok () (w.alloc (.map (EM stmtM 4) 4)) := insR w (stmtM.take 3) ([114, 101, 116, 117, 114, 110], 25) (by decide)
  have i4 : (Instr.mapUpdate 46 (.map (some w.heap.size)) (.string ⟨#[111, 117, 116]⟩) (.func (.func 26) #[] #[])).run Tryz.prog (w.alloc (.map (EM stmtM 4) 4)) = .ok () (w.alloc (.map (EM stmtM 5) 5)) := insR w (stmtM.take 4) ([111, 117, 116], 26) (by decide)
  have i5 : (Instr.mapUpdate 46 (.map (some w.heap.size)) (.string ⟨#[115, 116, 111, 112]⟩) (.func (.func 27) #[] #[])).run Tryz.prog (w.alloc (.map (EM stmtM 5) 5)) = .ok () (w.alloc (.map (EM stmtM 6) 6)) := insR w (stmtM.take 5) ([115, 116, 111, 112], 27) (by decide)
  have i6 : (Instr.mapUpdate 46 (.map (some w.heap.size)) (.string ⟨#[109, 101, 114, 103, 101]⟩) (.func (.func 28) #[] #[])).run Tryz.prog (w.alloc (.map (EM stmtM 6) 6)) = .ok () (w.alloc (.map (EM stmtM 7) 7)) := insR w (stmtM.take 6) ([109, 101, 114, 103, 101], 28) (by decide)
  go_enter Tryz.func14, Tryz.ntmps14
  go_wp2
  go_ret
  exact ⟨rfl, rfl⟩

set_option maxRecDepth 100000 in
set_option maxHeartbeats 1000000 in
theorem firsts_any (w : World) : Calls Tryz.prog 15 #[] w fun e w' => e = .returned (.map (some w.heap.size)) ∧ w' = w.alloc (.map (EsR firstM 0).toArray 12) := by
  have hmk : (Instr.makeMap 46 none).run Tryz.prog w = .ok (.map (some w.heap.size)) (w.alloc (.map (EM firstM 0) 0)) := rfl
  have i0 : (Instr.mapUpdate 46 (.map (some w.heap.size)) (.string ⟨#[110, 117, 109, 98, 101, 114]⟩) (.func (.func 29) #[] #[])).run Tryz.prog (w.alloc (.map (EM firstM 0) 0)) = .ok () (w.alloc (.map (EM firstM 1) 1)) := insR w (firstM.take 0) ([110, 117, 109, 98, 101, 114], 29) (by decide)
  have i1 : (Instr.mapUpdate 46 (.map (some w.heap.size)) (.string ⟨#[110, 97, 109, 101]⟩) (.func (.func 30) #[] #[])).run Tryz.prog (w.alloc (.map (EM firstM 1) 1)) = .ok () (w.alloc (.map (EM firstM 2) 2)) := insR w (firstM.take 1) ([110, 97, 109, 101], 30) (by decide)
  have i2 : (Instr.mapUpdate 46 (.map (some w.heap.size)) (.string ⟨#[110, 117, 108, 108]⟩) (.func (.func 31) #[] #[])).run Tryz.prog (w.alloc (.map (EM firstM 2) 2)) = .ok () (w.alloc (.map (EM firstM 3) 3)) := insR w (firstM.take 2) ([110, 117, 108, 108], 31) (by decide)
  have i3 : (Instr.mapUpdate 46 (.map (some w.heap.size)) (.string ⟨#[114, 111, 111, 116]⟩) (.func (.func 32) #[] #[])).run Tryz.prog (w.alloc (.map (EM firstM 3) 3)) = .ok () (w.alloc (.map (EM firstM 4) 4)) := insR w (firstM.take 3) ([114, 111, 111, 116], 32) (by decide)
  have i4 : (Instr.mapUpdate 46 (.map (some w.heap.size)) (.string ⟨#[110, 101, 119]⟩) (.func (.func 33) #[] #[])).run Tryz.prog (w.alloc (.map (EM firstM 4) 4)) = .ok () (w.alloc (.map (EM firstM 5) 5)) := insR w (firstM.take 4) ([110, 101, 119], 33) (by decide)
  have i5 : (Instr.mapUpdate 46 (.map (some w.heap.size)) (.string ⟨#[97, 114, 114]⟩) (.func (.func 34) #[] #[])).run Tryz.prog (w.alloc (.map (EM firstM 5) 5)) = .ok () (w.alloc (.map (EM firstM 6) 6)) := insR w (firstM.take 5) ([97, 114, 114], 34) (by decide)
  have i6 : (Instr.mapUpdate 46 (.map (some w.heap.size)) (.string ⟨#[108, 101, 110]⟩) (.func (.func 35) #[] #[])).run Tryz.prog (w.alloc (.map (EM firstM 6) 6)) = .ok () (w.alloc (.map (EM firstM 7) 7)) := insR w (firstM.take 6) ([108, 101, 110], 35) (by decide)
  have i7 : (Instr.mapUpdate 46 (.map (some w.heap.size)) (.string ⟨#[105, 110]⟩) (.func (.func 36) #[] #[])).run Tryz.prog (w.alloc (.map (EM firstM 7) 7)) = .ok () (w.alloc (.map (EM firstM 8) 8)) := insR w (firstM.take 7) ([105, 110], 36) (by decide)
  have i8 : (Instr.mapUpdate 46 (.map (some w.heap.size)) (.string ⟨#[105, 109, 103]⟩) (.func (.func 37) #[] #[])).run Tryz.prog (w.alloc (.map (EM firstM 8) 8)) = .ok () (w.alloc (.map (EM firstM 9) 9)) := insR w (firstM.take 8) ([105, 109, 103], 37) (by decide)
  have i9 : (Instr.mapUpdate 46 (.map (some w.heap.size)) (.string ⟨#[115, 105, 122, 101]⟩) (.func (.func 38) #[] #[])).run Tryz.prog (w.alloc (.map (EM firstM 9) 9)) = .ok () (w.alloc (.map (EM firstM 10) 10)) := insR w (firstM.take 9) ([115, 105, 122, 101], 38) (by decide)
  have i10 : (Instr.mapUpdate 46 (.map (some w.heap.size)) (.string ⟨#[112, 114, 111, 109, 111, 116, 101]⟩) (.func (.func 39) #[] #[])).run Tryz.prog (w.alloc (.map (EM firstM 10) 10)) = .ok () (w.alloc (.map (EM firstM 11) 11)) := insR w (firstM.take 10) ([112, 114, 111, 109, 111, 116, 101], 39) (by decide)
  have i11 : (Instr.mapUpdate 46 (.map (some w.heap.size)) (.string ⟨#[40]⟩) (.func (.func 40) #[] #[])).run Tryz.prog (w.alloc (.map (EM firstM 11) 11)) = .ok () (w.alloc (.map (EM firstM 12) 12)) := insR w (firstM.take 11) ([40], 40) (by decide)
  go_enter Tryz.func15, Tryz.ntmps15
  go_wp2
  go_ret
  exact ⟨rfl, rfl⟩
end Go.Proofs.YtekjfddcbcijdaaGreatDoor
