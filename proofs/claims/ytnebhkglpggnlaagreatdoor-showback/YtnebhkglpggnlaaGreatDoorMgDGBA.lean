/-
  Texts of the proof, in their order: LexM, LexN, LexO, LexP; conditions: as each says.
-/
import Derived.Lib.BufferWrite
import Derived.Test.YtnebhkglpggnlaaGreatDoorMgLOJE
namespace Go.Proofs.YtnebhkglpggnlaaGreatDoor
open Go.RowKit
set_option maxRecDepth 100000

theorem info5 : (Tryz.prog.info? 5).map (fun i => (i.zero, i.size, i.bytes)) = some (some (.int .u8 0), 1, 1) := by kernel_rfl
theorem under106 : Tryz.prog.underlying 60 = some (.slice 5) := by kernel_rfl
theorem under144 : Tryz.prog.underlying 95 = some (.pointer 5) := by kernel_rfl

/-- Block B holds a token. -/
def TB (w : World) (B : Nat) (v0 v1 v2 v3 v4 : Value) : Prop := w.heap[B]? = some (.cells #[v0, v1, v2, v3, v4] 51 (0, 0))
section
variable {w w' : World} {B : Nat} {v0 v1 v2 v3 v4 : Value}
theorem TB.c0 (h : TB w B v0 v1 v2 v3 v4) : w.cell? ⟨B, 0, none⟩ = some v0 := by simp [TB] at h; simp [World.cell?, h]
theorem TB.c1 (h : TB w B v0 v1 v2 v3 v4) : w.cell? ⟨B, 1, none⟩ = some v1 := by simp [TB] at h; simp [World.cell?, h]
theorem TB.c2 (h : TB w B v0 v1 v2 v3 v4) : w.cell? ⟨B, 2, none⟩ = some v2 := by simp [TB] at h; simp [World.cell?, h]
theorem TB.c3 (h : TB w B v0 v1 v2 v3 v4) : w.cell? ⟨B, 3, none⟩ = some v3 := by simp [TB] at h; simp [World.cell?, h]
theorem TB.c4 (h : TB w B v0 v1 v2 v3 v4) : w.cell? ⟨B, 4, none⟩ = some v4 := by simp [TB] at h; simp [World.cell?, h]
theorem TB.fz (h : TB w B v0 v1 v2 v3 v4) (i : Nat) : w.frozen? ⟨B, i, none⟩ = false := by simp [TB] at h; simp [World.frozen?, h]
theorem TB.lt (h : TB w B v0 v1 v2 v3 v4) : B < w.heap.size := (Array.getElem?_eq_some_iff.1 h).1
theorem TB.new (w : World) (v0 v1 v2 v3 v4 : Value) : TB (w.alloc (.cells #[v0, v1, v2, v3, v4] 51)) w.heap.size v0 v1 v2 v3 v4 := heap_alloc_new w _
theorem TB.fr {S : List Nat} (h : TB w B v0 v1 v2 v3 v4) (f : Fr S w w') (hS : B ∉ S) : TB w' B v0 v1 v2 v3 v4 := (f.block _ h.lt hS).trans h
theorem TB.drewN (h : TB w B v0 v1 v2 v3 v4) (n : Nat) : TB (w.drewN n) B v0 v1 v2 v3 v4 := h
theorem TB.set (h : TB w B v0 v1 v2 v3 v4) (u0 u1 u2 u3 u4 : Value) : TB (((((w.setCell ⟨B, 0, none⟩ u0).setCell ⟨B, 1, none⟩ u1).setCell ⟨B, 2, none⟩ u2).setCell ⟨B, 3, none⟩ u3).setCell ⟨B, 4, none⟩ u4) B u0 u1 u2 u3 u4 := by
  unfold TB at *
  simp [World.setCell, Array.getElem?_modify, h]
theorem TB.fset {S : List Nat} {a : World} (f : Fr S a w) (hB : B ∈ S ∨ a.heap.size ≤ B) (u0 u1 u2 u3 u4 : Value) : Fr S a (((((w.setCell ⟨B, 0, none⟩ u0).setCell ⟨B, 1, none⟩ u1).setCell ⟨B, 2, none⟩ u2).setCell ⟨B, 3, none⟩ u3).setCell ⟨B, 4, none⟩ u4) :=
  ((((f.setCell hB _).setCell hB _).setCell hB _).setCell hB _).setCell hB _
end

end Go.Proofs.YtnebhkglpggnlaaGreatDoor
namespace Go.Proofs.YtnebhkglpggnlaaGreatDoor
open Go.RowKit
set_option maxRecDepth 100000

def tokA (t : Tok) : Array Value := #[.int .i64 t.kind, .string ⟨t.text.toArray⟩, .int .i64 t.frm, .int .i64 t.to, .int .i64 t.n]

theorem extract_tok (s : ByteArray) (k m : Nat) : s.extract k (k + m) = ⟨((s.data.toList.drop k).take m).toArray⟩ := by
  rw [Lib.extract_eq]
  simp
theorem wrd_mk (l : List UInt8) : wrd ⟨l.toArray⟩ = wordL l := by simp [wrd]
theorem num_mk (l : List UInt8) : num ⟨l.toArray⟩ = numL l := by simp [num]

end Go.Proofs.YtnebhkglpggnlaaGreatDoor
namespace Go.Proofs.YtnebhkglpggnlaaGreatDoor
open Go.RowKit
set_option maxRecDepth 100000

/-- What read hands back. -/
def rdA (p : Nat) : Except Nat Tok → Array Value
  | .ok t => tokA t
  | .error _ => #[.int .i64 0, .string ⟨#[]⟩, .int .i64 p, .int .i64 0, .int .i64 0]
def rdE : Except Nat Tok → Nat
  | .ok _ => 0
  | .error e => e
def rd (s : ByteArray) (k : Nat) : Except Nat Tok := readL k (s.data.toList.drop k)

theorem drop_getD (s : ByteArray) (k : Nat) (h : k < s.size) : (s.data.toList.drop k).getD 0 0 = s[k] := by rw [drop_cons s k h]; rfl

/-- A number at a, up to b. -/
def nmR (s : ByteArray) (a b : Nat) : Except Nat Tok := match num (s.extract a b) with | none => .error 41 | some n => .ok ⟨4, (s.data.toList.drop a).take (b - a), a, b, n⟩
end Go.Proofs.YtnebhkglpggnlaaGreatDoor
namespace Go.Proofs.YtnebhkglpggnlaaGreatDoor
open Go.RowKit
set_option maxRecDepth 100000

/-- What read leaves. -/
def rdOut (s : ByteArray) (k : Nat) : Ending := .returned (.tuple #[.agg (rdA k (rd s k)), .int .i64 (rdE (rd s k))])

theorem signL_le (l : List UInt8) : signL l ≤ l.length := by
  unfold signL
  split
  · rename_i g hg
    have := List.find?_some hg
    rw [List.isPrefixOf_iff_prefix] at this
    exact this.length_le
  · omega

end Go.Proofs.YtnebhkglpggnlaaGreatDoor
