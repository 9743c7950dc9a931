/-
  The law's Check over letters: its runs from the beginning.
-/
import Derived.Test.YtjdjekpbjnkliaaGreatDoorCk2
namespace Go.Proofs.YtjdjekpbjnkliaaGreatDoor
open Go Go.RowKit
namespace Ck
def args (f : Value) : List Value := [.agg ⟨[f, Lt 1, Lt 2, Lt 3, Lt 4, Lt 5, Lt 6, Lt 7]⟩]
noncomputable def top (O : List OE) (C : List CE) (f : Value) (n : Nat) : Bool :=
  match callEv Tryz.prog (prL []) 64 (@codeQ (orcG 64 64 O [] C) Tryz.prog (prL []) 64 64 200 false) 24 (args f) ⟨64, []⟩ with
  | some (.int .i64 m, _) => ibeq m n
  | _ => false
def noF : List OE := (List.range 4).map fun n => binE .neq (Lt 0) (.int .i64 (n : Nat)) (.bool true)
theorem top_none : top noF [] (Lt 0) 6 = true := by kernel_rfl
def num (j : Nat) : List OE := match j with
  | 0 => [binE .lss (Lt 1) (.int .i64 1) (.bool true)]
  | 1 => [binE .lss (Lt 1) (.int .i64 1) (.bool false), binE .gtr (Lt 1) (.int .i64 999) (.bool true)]
  | 2 => [binE .lss (Lt 1) (.int .i64 1) (.bool false), binE .gtr (Lt 1) (.int .i64 999) (.bool false), binE .lss (Lt 2) (.int .i64 0) (.bool true)]
  | 3 => [binE .lss (Lt 1) (.int .i64 1) (.bool false), binE .gtr (Lt 1) (.int .i64 999) (.bool false), binE .lss (Lt 2) (.int .i64 0) (.bool false), binE .gtr (Lt 2) (.int .i64 9999) (.bool true)]
  | _ => [binE .lss (Lt 1) (.int .i64 1) (.bool false), binE .gtr (Lt 1) (.int .i64 999) (.bool false), binE .lss (Lt 2) (.int .i64 0) (.bool false), binE .gtr (Lt 2) (.int .i64 9999) (.bool false)]
def unt (j : Nat) : List OE := match j with
  | 0 => [binE .neq (Lt 3) (.int .i64 0) (.bool true), binE .lss (Lt 3) (.int .i64 1) (.bool true)]
  | 1 => [binE .neq (Lt 3) (.int .i64 0) (.bool true), binE .lss (Lt 3) (.int .i64 1) (.bool false), binE .gtr (Lt 3) (.int .i64 3652059) (.bool true)]
  | 2 => [binE .neq (Lt 3) (.int .i64 0) (.bool true), binE .lss (Lt 3) (.int .i64 1) (.bool false), binE .gtr (Lt 3) (.int .i64 3652059) (.bool false), binE .neq (Lt 2) (.int .i64 0) (.bool true)]
  | 3 => [binE .neq (Lt 3) (.int .i64 0) (.bool true), binE .lss (Lt 3) (.int .i64 1) (.bool false), binE .gtr (Lt 3) (.int .i64 3652059) (.bool false), binE .neq (Lt 2) (.int .i64 0) (.bool false)]
  | 4 => [binE .neq (Lt 3) (.int .i64 0) (.bool false), binE .neq (Lt 2) (.int .i64 0) (.bool true)]
  | _ => [binE .neq (Lt 3) (.int .i64 0) (.bool false), binE .neq (Lt 2) (.int .i64 0) (.bool false)]
set_option maxRecDepth 100000 in
theorem top_num : ((List.range 4).all fun f => ((List.range 4).all fun j => top (num j) [] (.int .i64 f) 3) && ((List.range 2).all fun j => top (num 4 ++ unt j) [] (.int .i64 f) 3) && top (num 4 ++ unt 2) [] (.int .i64 f) 7) = true := by kernel_rfl
def lens : List OE := [lenE 25 (Lt 4) (Lt 8), lenE 25 (Lt 5) (Lt 9), lenE 26 (Lt 6) (Lt 10), lenE 25 (Lt 7) (Lt 11)]
noncomputable def ceK (f k : Nat) (o : Option Nat) : CE := bif Nat.beq k 2 then ceW f o else ce f k o
def fine (k : Nat) : List OE := (List.range k).map fun i => binE .gtr (ln i) (.int .i64 64) (.bool false)
noncomputable def fineC (f k : Nat) : List CE := (List.range k).map fun i => ceK f i none
noncomputable def tL (f j k : Nat) : Bool := top (num 4 ++ unt (3 + j) ++ lens ++ fine k ++ [binE .gtr (ln k) (.int .i64 64) (.bool true)]) (fineC f k) (.int .i64 f) 2
noncomputable def tE (f j k e : Nat) : Bool := top (num 4 ++ unt (3 + j) ++ lens ++ fine (k + 1)) (fineC f k ++ [ceK f k (some e)]) (.int .i64 f) e
def odds (d p m w : Bool) : List OE := [binE .gtr (Lt 9) (.int .i64 0) (.bool d), binE .gtr (Lt 11) (.int .i64 0) (.bool p), binE .eql (Lt 8) (.int .i64 0) (.bool m), binE .eql (Lt 9) (.int .i64 0) (.bool !d), binE .eql (Lt 10) (.int .i64 0) (.bool w)]
noncomputable def tO (f j : Nat) (d p m w : Bool) : Bool := top (num 4 ++ unt (3 + j) ++ lens ++ fine 4 ++ odds d p m w) (fineC f 4) (.int .i64 f) (bif Nat.beq f 1 && d || p && m && !d && w then 6 else 0)
end Ck
end Go.Proofs.YtjdjekpbjnkliaaGreatDoor
