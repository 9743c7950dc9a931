/-
  The tables of the program; civil's calls and Join, known by their contracts.
-/
import Derived.Test.YtnggajehngemmaaGreatDoorEvS
import Derived.Test.YtnggajehngemmaaGreatDoorW4
namespace Go.Proofs.YtnggajehngemmaaGreatDoor
open Go Go.RowKit
def tStr (l : List (List UInt8)) : List Value := l.map fun z => .string ⟨⟨z⟩⟩
def tMon : List Value := [31, 28, 31, 30, 31, 30, 31, 31, 30, 31, 30, 31].map fun n => .int .i64 n
def tPn : List (List UInt8) := [[70, 82, 69, 81], [73, 78, 84, 69, 82, 86, 65, 76], [67, 79, 85, 78, 84], [85, 78, 84, 73, 76], [66, 89, 77, 79, 78, 84, 72], [66, 89, 77, 79, 78, 84, 72, 68, 65, 89], [66, 89, 68, 65, 89], [66, 89, 83, 69, 84, 80, 79, 83]]
def tFq : List (List UInt8) := [[68, 65, 73, 76, 89], [87, 69, 69, 75, 76, 89], [77, 79, 78, 84, 72, 76, 89], [89, 69, 65, 82, 76, 89]]
def tWd : List (List UInt8) := [[77, 79], [84, 85], [87, 69], [84, 72], [70, 82], [83, 65], [83, 85]]
def tPow : List Value := [1, 10, 100, 1000, 10000, 100000, 1000000, 10000000, 100000000, 1000000000, 10000000000, 100000000000, 1000000000000, 10000000000000, 100000000000000, 1000000000000000, 10000000000000000, 100000000000000000, 1000000000000000000, 10000000000000000000].map fun n => .int .u64 n
def tabs : List (Nat × List Value) := [(3, tMon), (0, tStr tPn), (1, tStr tFq), (2, tStr tWd), (9, tPow)]
theorem tabs_months {w : World} (h : TabsE tabs w) : Months w := by
  have t := h (3, tMon) (by simp [tabs])
  intro m h1 h2
  have c := fun v hv => t (m.toNat - 1) v hv
  have hm : m = 1 ∨ m = 2 ∨ m = 3 ∨ m = 4 ∨ m = 5 ∨ m = 6 ∨ m = 7 ∨ m = 8 ∨ m = 9 ∨ m = 10 ∨ m = 11 ∨ m = 12 := by omega
  rcases hm with rfl | rfl | rfl | rfl | rfl | rfl | rfl | rfl | rfl | rfl | rfl | rfl <;> exact c _ rfl
def weekP (args : List Value) (_ : RW) : Option Value :=
  match args with
  | [.int .i64 n] => bif decide (1 ≤ n) && decide (n ≤ 3652059) then some (.int .i64 ((n - 1) % 7)) else none
  | _ => none
def longP (args : List Value) (_ : RW) : Option Value :=
  match args with
  | [.int .i64 y, .int .i64 m] => some (.int .i64 (Cal.long y m))
  | _ => none
def isB (n y m d : Int) : Bool := decide (1 ≤ y) && decide (y ≤ 9999) && decide (1 ≤ m) && decide (m ≤ 12) && decide (1 ≤ d) && decide (d ≤ Cal.dim y m) && decide (n = Cal.num y m d)
theorem isB_is {n y m d : Int} (h : isB n y m d = true) : Cal.Is n y m d := by
  simp only [isB, Bool.and_eq_true, decide_eq_true_eq] at h
  obtain ⟨⟨⟨⟨⟨⟨h1, h2⟩, h3⟩, h4⟩, h5⟩, h6⟩, h7⟩ := h
  exact ⟨h1, h2, h3, h4, h5, h6, h7⟩
def ofP (args : List Value) (_ : RW) : Option Value :=
  match args with
  | [.int .i64 y, .int .i64 m, .int .i64 d] => bif isB (Cal.num y m d) y m d then some (.tuple ⟨[.int .i64 (Cal.num y m d), .bool true]⟩) else none
  | _ => none
def dateR (n y m d : Int) : Option Value := bif isB n y m d then some (.tuple ⟨[.int .i64 y, .int .i64 m, .int .i64 d]⟩) else none
def dateM (n y r m : Int) : Option Value := dateR n y m (r - Cal.cum y m + 1)
def dateY (n y r m : Int) : Option Value := dateM n y r (bif decide (Cal.cum y (m + 1) ≤ r) && decide (m < 12) then m + 1 else m)
def dateP (args : List Value) (_ : RW) : Option Value :=
  match args with
  | [.int .i64 n] => dateY n (Cal.year (n - 1)) (Cal.rest (n - 1)) (Cal.rest (n - 1) / 31 + 1)
  | _ => none
section
variable {X : Kep} {base : Nat}
theorem weekP_ok [Ltr] : PEOk Tryz.prog X base (82, weekP) := by
  intro args H u E w args' hR ha e
  dsimp only [weekP] at e
  split at e
  · rename_i n
    obtain ⟨hb, e⟩ := cond_some e
    obtain rfl := Option.some.inj e
    simp only [Bool.and_eq_true, decide_eq_true_eq] at hb
    cases ha with
    | cons h1 t1 =>
      cases t1
      rw [h1.int]
      exact (weekday_yes n w hb.1 hb.2).mono fun e w' p => ⟨_, p.1, fl3_rel rfl, by rw [← p.2]; exact Below.refl _ _⟩
  · cases e
theorem longP_ok [Ltr] (hM : ∀ w : World, (∀ b, X b → w.heap[b]? = X.ob b) → Months w) : PEOk Tryz.prog X base (128, longP) := by
  intro args H u E w args' hR ha e
  dsimp only [longP] at e
  split at e
  · rename_i y m
    obtain rfl := Option.some.inj e
    cases ha with
    | cons h1 t1 =>
      cases t1 with
      | cons h2 t2 =>
        cases t2
        rw [h1.int, h2.int]
        exact (long_any y m w (hM w hR.fx)).mono fun e w' p => ⟨_, p.1, fl3_rel rfl, by rw [← p.2]; exact Below.refl _ _⟩
  · cases e
theorem ofP_ok [Ltr] (hM : ∀ w : World, (∀ b, X b → w.heap[b]? = X.ob b) → Months w) : PEOk Tryz.prog X base (80, ofP) := by
  intro args H u E w args' hR ha e
  dsimp only [ofP] at e
  split at e
  · rename_i y m d
    obtain ⟨hb, e⟩ := cond_some e
    obtain rfl := Option.some.inj e
    obtain ⟨h1, h2, h3, h4, h5, h6, -⟩ := isB_is hb
    cases ha with
    | cons p1 t1 =>
      cases t1 with
      | cons p2 t2 =>
        cases t2 with
        | cons p3 t3 =>
          cases t3
          rw [p1.int, p2.int, p3.int]
          exact (of_yes y m d w (hM w hR.fx) h1 h2 h3 h4 h5 h6).mono fun e w' p => ⟨_, p.1, fl3_rel rfl, by rw [← p.2]; exact Below.refl _ _⟩
  · cases e
theorem dateP_ok [Ltr] (hM : ∀ w : World, (∀ b, X b → w.heap[b]? = X.ob b) → Months w) : PEOk Tryz.prog X base (130, dateP) := by
  intro args H u E w args' hR ha e
  dsimp only [dateP] at e
  split at e
  · rename_i n
    unfold dateY dateM dateR at e
    obtain ⟨hb, e⟩ := cond_some e
    obtain rfl := Option.some.inj e
    cases ha with
    | cons p1 t1 =>
      cases t1
      rw [p1.int]
      exact (date_yes n _ _ _ w (hM w hR.fx) (isB_is hb)).mono fun e w' p => ⟨_, p.1, fl3_rel rfl, by rw [← p.2]; exact Below.refl _ _⟩
  · cases e
end
/-- Join and civil's -/
def known : List PE := [(75, joinP), (130, dateP), (80, ofP), (128, longP), (82, weekP)]
/-- the fixed call f comes out true, the calls of l and the known ones taken as they are known -/
def Comes (l : List PE) (n : Nat) (f : FuncId) : Prop := (callEv Tryz.prog (prL (l ++ known)) 64 (@codeQ noOrc Tryz.prog (prL (l ++ known)) 64 64 n false) f [] ⟨64, roRows tabs⟩).map (·.1) = some (.bool true)
end Go.Proofs.YtnggajehngemmaaGreatDoor
