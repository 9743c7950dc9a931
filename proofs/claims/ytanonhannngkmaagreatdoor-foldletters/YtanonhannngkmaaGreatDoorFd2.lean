/-
  fold: the law's runes, by rounds: a list that grows.
-/
import Derived.Test.YtanonhannngkmaaGreatDoorTz
namespace Go.Proofs.YtanonhannngkmaaGreatDoor
open Go Go.RowKit
namespace Fld
/-- first bytes that stand for all -/
def reps : List Nat := [0, 128, 194, 224, 225, 237, 240, 241, 244, 245]
/-- the tests of a first byte -/
def tests : List (BinOp × Nat) := [(.lss, 128), (.geq, 194), (.leq, 223), (.geq, 224), (.leq, 239), (.eql, 224), (.eql, 237), (.geq, 240), (.leq, 244), (.eql, 240), (.eql, 244)]
def tst (p : BinOp × Nat) (c : Nat) : Bool := match p.1 with
  | .lss => Nat.blt c p.2
  | .geq => Nat.ble p.2 c
  | .leq => Nat.ble c p.2
  | _ => Nat.beq c p.2
def sm (c r : Nat) : Bool := tests.all fun p => tst p c == tst p r
def le3 (c r : Nat) : Bool := Nat.beq (ld3 c).1 (ld3 r).1 && Nat.beq (ld3 c).2.1 (ld3 r).2.1 && Nat.beq (ld3 c).2.2 (ld3 r).2.2
theorem reps_all : ((List.range 256).all fun c => reps.any fun r => sm c r && le3 c r) = true := by kernel_rfl
theorem rep_of {c : Nat} (h : c < 256) : ∃ r ∈ reps, sm c r = true ∧ ld3 c = ld3 r := by
  have := List.all_eq_true.1 reps_all c (List.mem_range.2 h)
  obtain ⟨r, hr, e⟩ := List.any_eq_true.1 this
  simp only [Bool.and_eq_true, le3] at e
  exact ⟨r, hr, e.1, Prod.ext (Nat.eq_of_beq_eq_true e.2.1.1) (Prod.ext (Nat.eq_of_beq_eq_true e.2.1.2) (Nat.eq_of_beq_eq_true e.2.2))⟩
end Fld
noncomputable def rnB : Code := inLoop (loopOf Tryz.prog 12 0)
/-- the list so far: none, or the list letter j at name 64 -/
def rnO (g : Bool) (j : Nat) : Value := bif g then .complex .f64 64 j else .slice none 0 0
def rnM (g : Bool) (o : Nat) : RW := bif g then ⟨65, [(64, .opq o)]⟩ else ⟨64, []⟩
def rnS (g : Bool) : St := ⟨fr 98 [(0, Lt 0), (4, rnO g 0), (5, Lt 1)], rnM g 0, []⟩
/-- behind it: b: it ended at what is none -/
def rnX (b : Bool) : Exit := bif b then .ret else .exit 0
def rnE (b g : Bool) : St := ⟨fr 98 (bif b then [(2, rnO g 0), (3, Lt 1)] else [(4, rnO g 0)]), rnM g 0, []⟩
noncomputable def rnC (b g : Bool) : CE := ⟨.loop rnB, traL [(.int .i64 0, Lt 1), (Lt 0, Lt 0)] [] [], 64, [], rnS false, rnX b, rnE b g⟩
/-- the letters: 0 the text, 1 where, 2 how long, 3 the first byte, 4 + k where and k more, 9 the rune, 9 + k the byte k on -/
def rnC0 (r : Nat) : List OE := Fld.tests.map fun p => binE p.1 (Lt 3) (.int .u8 (p.2 : Nat)) (.bool (Fld.tst p r))
def rnK (k : Nat) : OE := binE .add (Lt 1) (.int .i64 (k : Nat)) (Lt (4 + k))
def rnL (r : Nat) : List OE := lenE 9 (Lt 0) (Lt 2) :: binE .lss (Lt 1) (Lt 2) (.bool true) :: idxE 9 (Lt 0) (Lt 1) (Lt 3) :: rnK 1 :: rnK 2 :: rnK 3 :: rnK 4 :: rnC0 r
/-- it is too short, or not -/
def rnG (r : Nat) (b : Bool) : OE := binE .gtr (Lt (4 + (Fld.ld3 r).1)) (Lt 2) (.bool b)
/-- the byte k on is read and held against its bounds: x: it is below, y: above -/
def rnI (r k : Nat) (x y : Bool) : List OE :=
  [idxE 9 (Lt 0) (Lt (4 + k)) (Lt (9 + k)), binE .lss (Lt (9 + k)) (.int .u8 (bif Nat.beq k 1 then (Fld.ld3 r).2.1 else 128 : Nat)) (.bool x), binE .gtr (Lt (9 + k)) (.int .u8 (bif Nat.beq k 1 then (Fld.ld3 r).2.2 else 191 : Nat)) (.bool y)]
def rnGood (r : Nat) : Nat → List OE
  | 0 => []
  | k + 1 => rnGood r k ++ rnI r (k + 1) false false
/-- one that is none at all, or too short -/
def rnBad0 (r : Nat) : List OE := bif Nat.beq (Fld.ld3 r).1 0 then rnL r else rnG r true :: rnL r
/-- the byte k on is out of its bounds -/
def rnBad (r k : Nat) (x : Bool) : List OE := rnI r k x (!x) ++ rnGood r (k - 1) ++ rnG r false :: rnL r
def rnOk (r : Nat) : List OE := sutE 9 (Lt 0) (Lt 1) (Lt (4 + (Fld.ld3 r).1)) (Lt 9) :: rnGood r ((Fld.ld3 r).1 - 1) ++ rnG r false :: rnL r
def rnTb (g : Bool) : Tra := bif g then ⟨[(Lt 1, Lt 1)], [(0, 0)], [], [], [(0, 0)], []⟩ else traL [(Lt 1, Lt 1)] [] []
def rnTl (g : Bool) : List (Nat × Nat) := bif g then [(64, 64)] else []
def rnTo (r : Nat) (g : Bool) : Tra := bif g then ⟨[(Lt (4 + (Fld.ld3 r).1), Lt 1), (Lt 0, Lt 0)], [(1, 0)], [], [], [(1, 0)], []⟩ else ⟨[(Lt (4 + (Fld.ld3 r).1), Lt 1), (Lt 0, Lt 0)], [], [(1, big, 0)], [], [], [(.own [Lt 9] 9 1, 0)]⟩
noncomputable def rnRun (O : List OE) (M : List ME) (g : Bool) (y : Exit) (T : Tra) (tl : List (Nat × Nat)) (s' : St) : Bool := @comes (orcG 64 64 O M []) Tryz.prog (prL []) 64 64 200 rnB (rnS g) y T 64 tl s'
def rnA (g : Bool) : List ME := bif g then [apE 28 0 0 1 1 [Lt 9] 1] else []
theorem rn_bad0 : (Fld.reps.all fun r => ([false, true] : List Bool).all fun g => rnRun (rnBad0 r) [] g .ret (rnTb g) (rnTl g) (rnE true g)) = true := by kernel_rfl
theorem rn_bad : (Fld.reps.all fun r => (List.range ((Fld.ld3 r).1 - 1)).all fun k => ([false, true] : List Bool).all fun x => ([false, true] : List Bool).all fun g => rnRun (rnBad r (k + 1) x) [] g .ret (rnTb g) (rnTl g) (rnE true g)) = true := by kernel_rfl
theorem rn_ok : (Fld.reps.all fun r => ([false, true] : List Bool).all fun g => Nat.beq (Fld.ld3 r).1 0 || rnRun (rnOk r) (rnA g) g .normal (rnTo r g) (bif g then [(64, 66)] else [(64, 65)]) (rnS true)) = true := by kernel_rfl
theorem rn_end : (([false, true] : List Bool).all fun g => rnRun [lenE 9 (Lt 0) (Lt 2), binE .lss (Lt 1) (Lt 2) (.bool false)] [] g (.exit 0) (bif g then ⟨[], [(0, 0)], [], [], [(0, 0)], []⟩ else traL [] [] []) (rnTl g) (rnE false g)) = true := by kernel_rfl
end Go.Proofs.YtanonhannngkmaaGreatDoor
