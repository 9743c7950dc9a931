/-
  table: the law TableChecks over letters: its runs.
-/
import Derived.Test.YtjfchpfbpmediaaGreatDoorTy1
namespace Go.Proofs.YtjfchpfbpmediaaGreatDoor
open Go Go.RowKit
namespace Tbl
/-- the whole table, made where n names are given out -/
def wholeAt (n : Nat) (k s : Value) (tl : List (Nat × Ob)) : RW := ⟨n + 43, (rowsFrom (n + 2) keys).reverse ++ (n + 1, .row [.string ⟨⟨[109, 97, 100, 101]⟩⟩, k, s, .map (some n)] 42) :: (n, .mp (entsFrom (n + 2) 0 keys) 41) :: tl⟩
def base : TV := keys.map fun k => (k, (wrds k.1 k.2).map fun s => .string ⟨⟨s⟩⟩)
/-- the table, something changed: what, the key, how many are left -/
def tabX (x c v m : Nat) : TV :=
  match x with
  | 1 => base.filter fun t => !(Nat.beq t.1.1 c && Nat.beq t.1.2 v)
  | 2 => base.map fun t => bif Nat.beq t.1.1 c && Nat.beq t.1.2 v then (t.1, t.2.take m) else t
  | 3 => base.map fun t => bif Nat.beq t.1.1 c && Nat.beq t.1.2 v then (t.1, t.2 ++ [Lt 5]) else t
  | 4 => base.map fun t => bif Nat.beq t.1.1 c && Nat.beq t.1.2 v then (t.1, t.2 ++ (wrds c ((v + 1) % many c)).map fun s => .string ⟨⟨s⟩⟩) else t
  | _ => base
end Tbl
def tcRow : Ob := .row [Lt 0, Lt 1, Lt 2, Lt 3, Lt 4, Lt 5] 24
def tcH : RW := ⟨66, [(65, tcRow), (64, tcRow)]⟩
def tcWO : List OE := [binE .rem (Lt 3) (.int .u8 (3 : Nat)) (Lt 6), binE .rem (Lt 2) (.int .u8 (3 : Nat)) (Lt 7), cvE 5 38 (Lt 6) (Lt 8), cvE 5 39 (Lt 7) (Lt 9)]
set_option maxRecDepth 100000 in
theorem whole_run2 : callEv Tryz.prog (prL []) 64 (@codeQ (orcG 64 64 tcWO [] []) Tryz.prog (prL []) 64 64 200 false) 10 [Lt 3, Lt 2] tcH = some (.pointer (some ⟨67, 0, none⟩), Tbl.wholeAt 66 (Lt 8) (Lt 9) tcH.h) := by
  show _ = _; kernel_rfl
noncomputable def wholeP2 : Prim := atP 10 [Lt 3, Lt 2] tcH (.pointer (some ⟨67, 0, none⟩)) (Tbl.wholeAt 66 (Lt 8) (Lt 9) tcH.h)
/-- what is known: the category, the value, what, how many are left -/
def tcO (x c m : Nat) (v : Value) : List OE := (bif Nat.beq x 2 then [binT .and 22 22 (Lt 1) (.int .i8 (3 : Nat)) (.int .i8 m)] else []) ++ [lenE 9 (Lt 5) (Lt 13), binE .gtr (Lt 13) (.int .i64 (60 : Nat)) (.bool false), binE .rem (Lt 2) (.int .u8 (15 : Nat)) (.int .u8 c), cvE 5 3 (Lt 3) (Lt 10), binE .rem (Lt 10) (.int .i64 (Tbl.many c)) v, binE .rem (Lt 4) (.int .u8 (6 : Nat)) (.int .u8 x),
  cvE 22 38 (Lt 0) (Lt 11), cvE 22 39 (Lt 1) (Lt 12), binE .eql (Lt 14) (Lt 14) (.bool true)]
noncomputable def tcP (x c v m : Nat) : Prim := orP wholeP2 (prL [(6, fixP (.bool true)),
  (8, chkP (Tbl.tabX x c v m) (bif Nat.beq x 0 then Lt 11 else Lt 8) (bif Nat.beq x 0 then Lt 12 else Lt 9) (Lt 14)), (9, chkP (Tbl.tabX x c v m) (bif Nat.beq x 0 then Lt 11 else Lt 8) (bif Nat.beq x 0 then Lt 12 else Lt 9) (Lt 14))])
noncomputable def tcRun (x c v m : Nat) (y : Value) : Option (Value × RW) := callEv Tryz.prog (tcP x c v m) 64 (@codeQ (orcG 64 64 (tcO x c m y) [medE Tryz.prog 64, estE 64, delE Tryz.prog 64] []) Tryz.prog (tcP x c v m) 64 64 100 false) 3 [.agg ⟨[Lt 0, Lt 1, Lt 2, Lt 3, Lt 4, Lt 5]⟩] ⟨64, []⟩
end Go.Proofs.YtjfchpfbpmediaaGreatDoor
