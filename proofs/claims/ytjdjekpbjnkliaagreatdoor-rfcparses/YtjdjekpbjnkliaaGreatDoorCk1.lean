/-
  The law's Check over letters: its inner loop over a list of numbers, over one of weekdays: what a round comes to.
-/
import Derived.Test.YtjdjekpbjnkliaaGreatDoorEt
namespace Go.Proofs.YtjdjekpbjnkliaaGreatDoor
open Go Go.RowKit
namespace Ck
noncomputable def lp : Code := inLoop (loopOf Tryz.prog 24 1)
def mem (f : Value) : RW := ⟨66, [(65, .row [Lt 4, Lt 5, .slice none 0 0, Lt 7] 25), (64, .row [f, Lt 1, Lt 2, Lt 3, Lt 4, Lt 5, Lt 6, Lt 7] 28)]⟩
def sl (k : Nat) : Value := match k with
  | 0 => Lt 4
  | 1 => Lt 5
  | 2 => .slice none 0 0
  | _ => Lt 7
def ln (k : Nat) : Value := match k with
  | 0 => Lt 8
  | 1 => Lt 9
  | 2 => Lt 10
  | _ => Lt 11
def most (k : Nat) : Nat := match k with
  | 0 => 12
  | 1 => 31
  | _ => 366
def mostW (f : Nat) : Nat := match f with
  | 2 => 5
  | 3 => 53
  | _ => 0
def slots (k : Nat) : List (Nat × Value) := [(1, .pointer (some ⟨64, 0, none⟩)), (76, .slice (some ⟨65, 0, none⟩) 4 4), (77, .int .i64 4), (78, .int .i64 k)]
def head (f : Value) (k : Nat) : St := ⟨fr 236 ([(3, .int .i64 k), (4, sl k), (92, ln k), (93, Lt 12)] ++ slots k), mem f, []⟩
def exit (o : Option Nat) : Exit := match o with
  | none => .exit 2
  | some _ => .ret
def behind (f : Value) (k : Nat) (o : Option Nat) : St := match o with
  | none => ⟨fr 236 (slots k), mem f, []⟩
  | some e => ⟨fr 236 [(2, .int .i64 e)], ⟨66, []⟩, []⟩
def all : List Nat := [1, 2, 3, 4, 5, 6, 7, 8, 9, 10, 11]
noncomputable def ce (f k : Nat) (o : Option Nat) : CE := ⟨.loop lp, traL ((.int .i64 0, Lt 12) :: (.int .i64 f, Lt 0) :: ids all) [] [], 66, [], head (Lt 0) k, exit o, behind (.int .i64 f) k o⟩
noncomputable def ceW (f : Nat) (o : Option Nat) : CE := ⟨.loop lp, traL ((.int .i64 0, Lt 12) :: ids all) [] [], 66, [], head (.int .i64 f) 2, exit o, behind (.int .i64 f) 2 o⟩
def o1 (k : Nat) (c p : Bool) : List OE := [binE .lss (Lt 12) (ln k) (.bool true), iaE 25 (sl k) (Lt 12) (Lt 15), ldE 3 (Lt 15) (Lt 16), binE .lss (Lt 16) (.int .i64 0) (.bool c), binE .gtr (Lt 12) (.int .i64 0) (.bool p), binE .add (Lt 12) (.int .i64 1) (Lt 13)]
def o2 (k : Nat) (q : Bool) : List OE := [binE .sub (Lt 12) (.int .i64 1) (Lt 14), iaE 25 (sl k) (Lt 14) (Lt 17), ldE 3 (Lt 17) (Lt 18), binE .geq (Lt 18) (Lt 16) (.bool q)]
def pe (m : Nat) (b : Bool) : List PE := [(61, patP [([Lt 16, .int .i64 m], .bool b)])]
noncomputable def rnd (O : List OE) (W : List PE) (s : St) (y : Exit) (T : List (Value × Value)) (s' : St) : Bool := @comes (orcG 64 64 O [insE Tryz.prog 64] []) Tryz.prog (prL W) 64 64 60 lp s y (traL T [] []) 66 [] s'
def bools : List Bool := [false, true]
theorem bools_mem (b : Bool) : b ∈ bools := by cases b <;> simp [bools]
def nxt : List (Value × Value) := (Lt 13, Lt 12) :: ids (0 :: all)
noncomputable def rA (k : Nat) (b c p : Bool) : Bool := bif p then bools.all fun q => rnd (o1 k c true ++ o2 k q) (pe (most k) b) (head (Lt 0) k) .ret [] (behind (Lt 0) k (some 3)) else rnd (o1 k c false) (pe (most k) b) (head (Lt 0) k) .ret [] (behind (Lt 0) k (some 3))
noncomputable def rB (k : Nat) (c : Bool) : Bool := rnd (o1 k c true ++ o2 k true) (pe (most k) false) (head (Lt 0) k) .ret [] (behind (Lt 0) k (some 4))
noncomputable def rC (k : Nat) (c p : Bool) : Bool := bif p then rnd (o1 k c true ++ o2 k false) (pe (most k) false) (head (Lt 0) k) .normal nxt (head (Lt 0) k) else rnd (o1 k c false) (pe (most k) false) (head (Lt 0) k) .normal nxt (head (Lt 0) k)
set_option maxRecDepth 100000 in
theorem run_out : ((([0, 1, 3] : List Nat).all fun k => bools.all fun c => bools.all fun p => rA k true c p) && bools.all fun p => rA 0 false true p) = true := by kernel_rfl
set_option maxRecDepth 100000 in
theorem run_late : (rB 0 false && ([1, 3] : List Nat).all fun k => bools.all fun c => rB k c) = true := by kernel_rfl
set_option maxRecDepth 100000 in
theorem run_on : ((bools.all fun p => rC 0 false p) && ([1, 3] : List Nat).all fun k => bools.all fun c => bools.all fun p => rC k c p) = true := by kernel_rfl
set_option maxRecDepth 100000 in
theorem run_end : (([0, 1, 3] : List Nat).all fun k => (List.range 4).all fun f => rnd [binE .lss (Lt 12) (ln k) (.bool false)] [] (head (Lt 0) k) (.exit 2) ((Lt 0, .int .i64 f) :: ids all) (behind (.int .i64 f) k none)) = true := by kernel_rfl
end Ck
end Go.Proofs.YtjdjekpbjnkliaaGreatDoor
