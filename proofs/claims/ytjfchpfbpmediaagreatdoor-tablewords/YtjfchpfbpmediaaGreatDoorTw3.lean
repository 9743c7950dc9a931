/-
  table: the law TableWords over letters: its runs.
-/
import Derived.Test.YtjfchpfbpmediaaGreatDoorTw2
namespace Go.Proofs.YtjfchpfbpmediaaGreatDoor
open Go Go.RowKit
/-- does it come to v? -/
def isV (b : Bool) (x : Option (Value × RW)) : Bool :=
  match x with
  | some (.bool c, _) => b == c
  | _ => false
theorem isV_eq {b : Bool} {x : Option (Value × RW)} (h : isV b x = true) : x.map (·.1) = some (.bool b) := by
  unfold isV at h
  split at h
  · rw [eq_of_beq h]; rfl
  · cases h
noncomputable def wholeP : Prim := atP 10 [Lt 0, Lt 1] ⟨64, []⟩ (.pointer (some ⟨65, 0, none⟩)) (Tbl.wholeH (Lt 4) (Lt 5))
/-- the calls of Form, where it answers f -/
def twF (f : Nat) : List PE := [(22, patP [([Lt 4, Lt 7], .int .i64 f)]), (11, patP [([Lt 4, Lt 7], .int .i64 f)])]
/-- the law, from a key c, v -/
noncomputable def twRun (l : List PE) (c v : Nat) : Option (Value × RW) :=
  callEv Tryz.prog (orP wholeP (prL ((6, fixP (.bool true)) :: l))) 64
    (@codeQ (orcG 64 64 [cvE 32 3 (Lt 6) (Lt 7)] [] []) Tryz.prog (orP wholeP (prL ((6, fixP (.bool true)) :: l))) 64 64 100 false)
    4 [Lt 0, Lt 1, .int .i8 c, .int .i8 v, Lt 6] ⟨64, []⟩
set_option maxRecDepth 100000 in
theorem tw_plain : (Tbl.keys.all fun k => bif Nat.beq k.1 2 || Nat.beq k.1 12 then true else isV true (twRun [] k.1 k.2)) = true := by kernel_rfl
set_option maxRecDepth 100000 in
theorem tw_forms : (Tbl.keys.all fun k => bif Nat.beq k.1 2 || Nat.beq k.1 12 then (List.range 3).all fun f => isV true (twRun (twF f) k.1 k.2) else true) = true := by kernel_rfl
end Go.Proofs.YtjfchpfbpmediaaGreatDoor
