/-
  table: the law's whole table: what lies in memory behind its making.
-/
import Derived.Test.YtkhmbphcjacgnaaGreatDoorTw1
namespace Go.Proofs.YtkhmbphcjacgnaaGreatDoor
open Go Go.RowKit
namespace Tbl
/-- how many values a category has -/
def many (c : Nat) : Nat := if c = 2 ∨ c = 3 ∨ c = 4 then 4 else if c = 13 then 12 else if c = 14 then 7 else if c < 13 then 1 else 0
/-- the keys, in their order -/
def keys : List (Nat × Nat) := (List.range 19).flatMap fun c => (List.range (many c)).map fun v => (c, v)
def keyV (k : Nat × Nat) : Value := .agg ⟨[.int .i64 k.1, .int .i64 k.2]⟩
end Tbl
end Go.Proofs.YtkhmbphcjacgnaaGreatDoor
