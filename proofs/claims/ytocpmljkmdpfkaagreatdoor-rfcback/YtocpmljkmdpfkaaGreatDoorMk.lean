/-
  What the law's Make makes, as plain functions.
-/
import Derived.Test.YtocpmljkmdpfkaaGreatDoorWk
import Derived.Test.YtocpmljkmdpfkaaGreatDoorOpen
namespace Go.Proofs.YtocpmljkmdpfkaaGreatDoor.Mk
open Go.RowKit Go.Sort
/-- one number more, unless it is 0 or there already -/
def put (out : List Int) (k : Int) : List Int := if (k != 0) && !(out.contains k) then out ++ [k] else out
def fewOut (most : Int) (l : List Int) : List Int := l.foldl (fun out n => put out (n.tmod (most + 1))) []
def few (most : Int) (l : List Int) : List Int := (fewOut most l).mergeSort fun x y => decide (x ≤ y)
theorem put_len (out : List Int) (k : Int) : (put out k).length ≤ out.length + 1 := by
  unfold put; split <;> simp
theorem fewOut_take {most : Int} {l : List Int} {i : Nat} (h : i < l.length) : fewOut most (l.take (i + 1)) = put (fewOut most (l.take i)) (l[i].tmod (most + 1)) := by
  unfold fewOut
  rw [List.take_succ_eq_append_getElem h, List.foldl_append]
  rfl
theorem fewOut_len (most : Int) (l : List Int) (i : Nat) (h : i ≤ l.length) : (fewOut most (l.take i)).length ≤ i := by
  induction i with
  | zero => simp [fewOut]
  | succ i ih =>
    rw [fewOut_take (by omega)]
    have := put_len (fewOut most (l.take i)) ((l[i]'(by omega)).tmod (most + 1))
    have := ih (by omega)
    omega
theorem few_len (most : Int) (l : List Int) : (few most l).length ≤ l.length := by
  unfold few
  rw [List.length_mergeSort]
  have := fewOut_len most l l.length (Nat.le_refl _)
  rwa [List.take_length] at this
end Go.Proofs.YtocpmljkmdpfkaaGreatDoor.Mk
namespace Go.Proofs.YtocpmljkmdpfkaaGreatDoor
open Go.RowKit Go.Sort
namespace Mk
def monOut (l : List Int) : List Int := l.map fun m => 1 + m.tmod 12
def mon (l : List Int) : List Int := Lib.compact ((monOut l).mergeSort fun x y => decide (x ≤ y))
theorem monOut_take {l : List Int} {i : Nat} (h : i < l.length) : monOut (l.take (i + 1)) = monOut (l.take i) ++ [1 + l[i].tmod 12] := by
  unfold monOut
  rw [List.take_succ_eq_append_getElem h, List.map_append]
  rfl
theorem monOut_len {l : List Int} {i : Nat} (h : i ≤ l.length) : (monOut (l.take i)).length = i := by
  unfold monOut
  simp; omega
def mkW (most : Int) (p : Int × Int) : Wk := if h : -53 ≤ p.1.tmod (most + 1) ∧ p.1.tmod (most + 1) ≤ 53 ∧ 0 ≤ p.2.tmod 7 ∧ p.2.tmod 7 ≤ 6 then ⟨(p.1.tmod (most + 1), p.2.tmod 7), h⟩ else default
theorem tmod_bd (n : Int) {m : Int} (h : 0 < m) : -m < n.tmod m ∧ n.tmod m < m := ⟨Int.lt_tmod_of_pos n h, Int.tmod_lt_of_pos n h⟩
theorem mkW_val {most : Int} {p : Int × Int} (h0 : 0 ≤ most) (h1 : most ≤ 53) (hp : 0 ≤ p.2) : (mkW most p).1 = (p.1.tmod (most + 1), p.2.tmod 7) := by
  have e1 := tmod_bd p.1 (m := most + 1) (by omega)
  have e2 : p.2.tmod 7 = p.2 % 7 := Int.tmod_eq_emod_of_nonneg hp
  unfold mkW
  rw [dif_pos (by rw [e2]; omega)]
def wput (out : List Wk) (x : Wk) : List Wk := if (out.map (·.1)).contains x.1 then out else out ++ [x]
def weekOut (most : Int) (l : List (Int × Int)) : List Wk := l.foldl (fun out p => wput out (mkW most p)) []
def weeks (most : Int) (l : List (Int × Int)) : List Wk := (weekOut most l).mergeSort fun x y => !ltOf cfW y x
theorem weekOut_take {most : Int} {l : List (Int × Int)} {i : Nat} (h : i < l.length) : weekOut most (l.take (i + 1)) = wput (weekOut most (l.take i)) (mkW most l[i]) := by
  unfold weekOut
  rw [List.take_succ_eq_append_getElem h, List.foldl_append]
  rfl
theorem wput_len (out : List Wk) (x : Wk) : (wput out x).length ≤ out.length + 1 := by
  unfold wput; split <;> simp
theorem weekOut_len (most : Int) (l : List (Int × Int)) (i : Nat) (h : i ≤ l.length) : (weekOut most (l.take i)).length ≤ i := by
  induction i with
  | zero => simp [weekOut]
  | succ i ih =>
    rw [weekOut_take (by omega)]
    have := wput_len (weekOut most (l.take i)) (mkW most (l[i]'(by omega)))
    have := ih (by omega)
    omega
end Mk
/-- the argument's weekdays lie at an address -/
def WksIn (w : World) (A : Option Addr) (l : List (Int × Int)) : Prop :=
  ∀ k (h : k < l.length), ∃ ad : Addr, A = some ad ∧ ad.block < w.heap.size ∧ w.cell? (ad.add (k * 2)) = some (.int .i8 l[k].1) ∧ w.cell? ((ad.add (k * 2)).add 1) = some (.int .u8 l[k].2)
theorem WksIn.below {w w' : World} {A : Option Addr} {l : List (Int × Int)} (h : WksIn w A l) (hb : Below w.heap.size w w') : WksIn w' A l := fun k hk => by
  obtain ⟨ad, rfl, hlt, hc, hd⟩ := h k hk
  exact ⟨ad, rfl, Nat.lt_of_lt_of_le hlt hb.size, (hb.cell (p := ad.add (k * 2)) (by rw [block_add]; exact hlt)).trans hc, (hb.cell (p := (ad.add (k * 2)).add 1) (by rw [block_add, block_add]; exact hlt)).trans hd⟩
theorem OwnI.base {w : World} {b b' : Nat} {v : Value} {L : List Int} (h : OwnI w b v L) (hb : b' ≤ b) : OwnI w b' v L := by
  refine ⟨h.1, ?_⟩
  rcases h.2 with hn | ⟨g, cap, cur, e, h1, rest⟩
  · exact .inl hn
  · exact .inr ⟨g, cap, cur, e, by omega, rest⟩
theorem OwnN.base {w : World} {b b' : Nat} {v : Value} {L : List (Int × Int)} (h : OwnN w b v L) (hb : b' ≤ b) : OwnN w b' v L := by
  refine ⟨h.1, ?_⟩
  rcases h.2 with hn | ⟨g, cap, cur, e, h1, rest⟩
  · exact .inl hn
  · exact .inr ⟨g, cap, cur, e, by omega, rest⟩
theorem OwnI.below {w w' : World} {b : Nat} {v : Value} {L : List Int} (h : OwnI w b v L) (e : Below w.heap.size w w') : OwnI w' b v L :=
  h.exc (Exc.of (b := w.heap.size) e) (fun g hg => by have := (h.lt g hg).2; omega)
theorem OwnN.below {w w' : World} {b : Nat} {v : Value} {L : List (Int × Int)} (h : OwnN w b v L) (e : Below w.heap.size w w') : OwnN w' b v L :=
  h.exc (Exc.of (b := w.heap.size) e) (fun g hg => by have := (h.lt g hg).2; omega)
/-- a cell below, at an address that lies in another block than the one that is written -/
theorem Exc.cell {B b : Nat} {w w' : World} (e : Exc B b w w') {p : Addr} (h1 : p.block < B) (h2 : p.block ≠ b) : w'.cell? p = w.cell? p := World.cell?_of_block (e.block p.block h1 h2)
end Go.Proofs.YtocpmljkmdpfkaaGreatDoor
