/-
  The law's Check over letters: its inner loop over a list of weekdays: what a round comes to.
-/
import Derived.Test.YtjdjekpbjnkliaaGreatDoorCk1
namespace Go.Proofs.YtjdjekpbjnkliaaGreatDoor
open Go Go.RowKit
namespace Ck
def w1 (p : Bool) : List OE := [binE .lss (Lt 12) (Lt 10) (.bool true), iaE 26 (Lt 6) (Lt 12) (Lt 15), ldE 50 (Lt 15) (.agg ⟨[Lt 16, Lt 19]⟩), binE .gtr (Lt 12) (.int .i64 0) (.bool p), binE .add (Lt 12) (.int .i64 1) (Lt 13)]
def w2 : List OE := [binE .sub (Lt 12) (.int .i64 1) (Lt 14), iaE 26 (Lt 6) (Lt 14) (Lt 17), faE 50 0 (Lt 17) (Lt 20), ldE 3 (Lt 20) (Lt 21), faE 50 1 (Lt 17) (Lt 22), ldE 3 (Lt 22) (Lt 23)]
def way (j : Nat) : List OE := match j with
  | 0 => [binE .lss (Lt 19) (.int .i64 0) (.bool true)]
  | 1 => [binE .lss (Lt 19) (.int .i64 0) (.bool false), binE .gtr (Lt 19) (.int .i64 6) (.bool true)]
  | 2 => [binE .lss (Lt 19) (.int .i64 0) (.bool false), binE .gtr (Lt 19) (.int .i64 6) (.bool false), binE .neq (Lt 16) (.int .i64 0) (.bool false)]
  | _ => [binE .lss (Lt 19) (.int .i64 0) (.bool false), binE .gtr (Lt 19) (.int .i64 6) (.bool false), binE .neq (Lt 16) (.int .i64 0) (.bool true)]
def wayP (f j : Nat) : List PE := match j with
  | 3 => pe (mostW f) false
  | 4 => pe (mostW f) true
  | _ => []
def bad (j : Nat) : Bool := match j with
  | 2 => false
  | 3 => false
  | _ => true
def ah (j : Nat) : List OE := match j with
  | 0 => [binE .gtr (Lt 21) (Lt 16) (.bool true)]
  | 1 => [binE .gtr (Lt 21) (Lt 16) (.bool false), binE .eql (Lt 21) (Lt 16) (.bool false)]
  | 2 => [binE .gtr (Lt 21) (Lt 16) (.bool false), binE .eql (Lt 21) (Lt 16) (.bool true), binE .geq (Lt 23) (Lt 19) (.bool false)]
  | _ => [binE .gtr (Lt 21) (Lt 16) (.bool false), binE .eql (Lt 21) (Lt 16) (.bool true), binE .geq (Lt 23) (Lt 19) (.bool true)]
def late (j : Nat) : Bool := match j with
  | 1 => false
  | 2 => false
  | _ => true
def wnxt : List (Value × Value) := (Lt 13, Lt 12) :: ids all
noncomputable def wR (f : Nat) (O : List OE) (W : List PE) (b l : Bool) : Bool :=
  bif b then rnd O W (head (.int .i64 f) 2) .ret [] (behind (.int .i64 f) 2 (some 3))
  else bif l then rnd O W (head (.int .i64 f) 2) .ret [] (behind (.int .i64 f) 2 (some 4))
  else rnd O W (head (.int .i64 f) 2) .normal wnxt (head (.int .i64 f) 2)
set_option maxRecDepth 100000 in
theorem runw_end : ((List.range 4).all fun f => rnd [binE .lss (Lt 12) (Lt 10) (.bool false)] [] (head (.int .i64 f) 2) (.exit 2) (ids all) (behind (.int .i64 f) 2 none)) = true := by kernel_rfl
set_option maxRecDepth 100000 in
theorem runw_first : ((List.range 4).all fun f => (List.range 5).all fun j => wR f (w1 false ++ way j) (wayP f j) (bad j) false) = true := by kernel_rfl
end Ck
end Go.Proofs.YtjdjekpbjnkliaaGreatDoor
