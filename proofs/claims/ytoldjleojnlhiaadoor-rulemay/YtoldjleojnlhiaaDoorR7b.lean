/-
  The law's Check: what its inner loop keeps of the frame.
-/
import Derived.Test.YtoldjleojnlhiaaDoorR7a
namespace Go.Proofs.YtoldjleojnlhiaaDoor
open Go.RowKit
noncomputable def outerBody : Code := (Tryd.f14.body.bind loopOf).getD .skip
noncomputable def innerBody : Code := (loopOf outerBody).getD .skip
noncomputable def ops25 : Array Oper := (Tryd.f14.body.bind (regOf 25)).getD #[]

/-- the frame inside the inner loop: which list it is about, how long it is -/
structure FI (w : World) (j : Int) (sl : Value) (n : Int) (t : Array Value) : Prop where
  hs : t.size = 236
  s1 : t.getD 1 undef = .pointer (some ⟨w.heap.size, 0, none⟩)
  s3 : t.getD 3 undef = .int .i64 j
  s4 : t.getD 4 undef = sl
  s76 : t.getD 76 undef = .slice (some ⟨w.heap.size + 1, 0, none⟩) 4 4
  s77 : t.getD 77 undef = .int .i64 4
  s78 : t.getD 78 undef = .int .i64 j
  s92 : t.getD 92 undef = .int .i64 n
theorem FI.set {w : World} {j : Int} {sl : Value} {n : Int} {t : Array Value} (h : FI w j sl n t) (d : Nat) (v : Value) (hd : (d ≠ 1 ∧ d ≠ 3 ∧ d ≠ 4 ∧ d ≠ 76) ∧ d ≠ 77 ∧ d ≠ 78 ∧ d ≠ 92) : FI w j sl n (t.setIfInBounds d v) :=
  ⟨by simpa using h.hs, by rw [set_ne hd.1.1]; exact h.s1, by rw [set_ne hd.1.2.1]; exact h.s3, by rw [set_ne hd.1.2.2.1]; exact h.s4, by rw [set_ne hd.1.2.2.2]; exact h.s76, by rw [set_ne hd.2.1]; exact h.s77, by rw [set_ne hd.2.2.1]; exact h.s78, by rw [set_ne hd.2.2.2]; exact h.s92⟩
theorem FI.keep {w : World} {j : Int} {sl : Value} {n : Int} {t u : Array Value} {lo hi x : Nat} (h : FI w j sl n t) (k : Keep lo hi x t u) (hl : 93 < lo) (hx : 4 < x ∧ x < 76) : FI w j sl n u :=
  ⟨k.1.trans h.hs, (k.2 1 (by omega) (by omega)).trans h.s1, (k.2 3 (by omega) (by omega)).trans h.s3, (k.2 4 (by omega) (by omega)).trans h.s4, (k.2 76 (by omega) (by omega)).trans h.s76, (k.2 77 (by omega) (by omega)).trans h.s77, (k.2 78 (by omega) (by omega)).trans h.s78, (k.2 92 (by omega) (by omega)).trans h.s92⟩
theorem getD_arr {t : Array Value} {k : Nat} {v : Value} (h : t.getD k undef = v) : ∀ q : k < t.size, t[k]'q = v := fun q => by simpa [Array.getD, q] using h
end Go.Proofs.YtoldjleojnlhiaaDoor
