/-
  table: the law TableWords over letters: its runs.
-/
import Derived.Test.YtjfchpfbpmediaaGreatDoorTw2
namespace Go.Proofs.YtjfchpfbpmediaaGreatDoor
open Go Go.RowKit
/-- does it come to v? -/
def isV (b : Bool) (x : Option (Value × RW)) : Bool :=
  match x with
  | some (.bool c, _) => b == c
  | _ => false
theorem isV_eq {b : Bool} {x : Option (Value × RW)} (h : isV b x = true) : x.map (·.1) = some (.bool b) := by
  unfold isV at h
  split at h
  · rw [eq_of_beq h]; rfl
  · cases h
noncomputable def wholeP : Prim := atP 10 [Lt 0, Lt 1] ⟨64, []⟩ (.pointer (some ⟨65, 0, none⟩)) (Tbl.wholeH (Lt 4) (Lt 5))
end Go.Proofs.YtjfchpfbpmediaaGreatDoor
