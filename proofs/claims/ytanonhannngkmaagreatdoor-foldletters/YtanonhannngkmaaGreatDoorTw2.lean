/-
  table: the law's whole table: what lies in memory behind its making.
-/
import Derived.Test.YtanonhannngkmaaGreatDoorTw1
namespace Go.Proofs.YtanonhannngkmaaGreatDoor
open Go Go.RowKit
namespace Tbl
/-- how many values a category has -/
def many (c : Nat) : Nat := if c = 2 ∨ c = 3 ∨ c = 4 then 4 else if c = 13 then 12 else if c = 14 then 7 else if c < 13 then 1 else 0
/-- the keys, in their order -/
def keys : List (Nat × Nat) := (List.range 19).flatMap fun c => (List.range (many c)).map fun v => (c, v)
def wrd (c v : Nat) : List UInt8 := [119, UInt8.ofNat (97 + c), UInt8.ofNat (97 + v)]
def wrds (c v : Nat) : List (List UInt8) := [wrd c v, wrd c v ++ [120], wrd c v ++ [32, 121]]
def keyV (k : Nat × Nat) : Value := .agg ⟨[.int .i64 k.1, .int .i64 k.2]⟩
def rowsFrom : Nat → List (Nat × Nat) → List (Nat × Ob)
  | _, [] => []
  | i, k :: l => (i, .row ((wrds k.1 k.2).map fun s => .string ⟨⟨s⟩⟩) 9) :: rowsFrom (i + 1) l
def entsFrom : Nat → Nat → List (Nat × Nat) → List MapEntry
  | _, _, [] => []
  | i, b, k :: l => { key := keyV k, val := .slice (some ⟨i, 0, none⟩) 3 3, born := b } :: entsFrom (i + 1) (b + 1) l
/-- the whole table: its kind, its style -/
def wholeH (k s : Value) : RW := ⟨107, (rowsFrom 66 keys).reverse ++ [(65, .row [.string ⟨⟨[109, 97, 100, 101]⟩⟩, k, s, .map (some 64)] 52), (64, .mp (entsFrom 66 0 keys) 41)]⟩
end Tbl
set_option maxRecDepth 100000 in
theorem whole_run : callEv Tryz.prog (prL []) 64 (@codeQ (orcG 64 64 [binE .rem (Lt 0) (.int .u8 (3 : Nat)) (Lt 2), binE .rem (Lt 1) (.int .u8 (3 : Nat)) (Lt 3), cvE 5 48 (Lt 2) (Lt 4), cvE 5 49 (Lt 3) (Lt 5)] [] []) Tryz.prog (prL []) 64 64 200 false) 27 [Lt 0, Lt 1] ⟨64, []⟩ = some (.pointer (some ⟨65, 0, none⟩), Tbl.wholeH (Lt 4) (Lt 5)) := by
  show _ = _; kernel_rfl
end Go.Proofs.YtanonhannngkmaaGreatDoor
