/-
  Blocks of memory; worlds that differ in one block and in new memory alone; the operations that make and write blocks.
-/
import Derived.Test.YtocpmljkmdpfkaaGreatDoorR20
namespace Go.Proofs.YtocpmljkmdpfkaaGreatDoor
open Go.RowKit
/-- block b holds the cells cs -/
def Blk (w : World) (b : Nat) (t : TypeId) (cs : Array Value) : Prop := w.heap[b]? = some (.cells cs t (0, 0))
theorem Blk.cell {w : World} {b : Nat} {t : TypeId} {cs : Array Value} (h : Blk w b t cs) (i : Nat) : w.cell? ⟨b, i, none⟩ = cs[i]? := cell_of_row _ _ _ _ _ (0, 0) h
theorem Blk.lt {w : World} {b : Nat} {t : TypeId} {cs : Array Value} (h : Blk w b t cs) : b < w.heap.size := (Array.getElem?_eq_some_iff.1 h).1
theorem Blk.alloc (w : World) (t : TypeId) (cs : Array Value) : Blk (w.alloc (.cells cs t)) w.heap.size t cs := heap_alloc_new w _
theorem Blk.frozen {w : World} {b : Nat} {t : TypeId} {cs : Array Value} (h : Blk w b t cs) (i : Nat) : w.frozen? ⟨b, i, none⟩ = false := by
  unfold World.frozen?
  rw [show w.heap[(⟨b, i, none⟩ : Addr).block]? = some (.cells cs t (0, 0)) from h]
  simp
/-- w' is w but for block b, and new memory: of what lies below B -/
structure Exc (B b : Nat) (w w' : World) : Prop where
  os : w'.os = w.os
  tape : w'.tape = w.tape
  output : w'.output = w.output
  size : w.heap.size ≤ w'.heap.size
  block : ∀ k, k < B → k ≠ b → w'.heap[k]? = w.heap[k]?
theorem Exc.refl (B b : Nat) (w : World) : Exc B b w w := ⟨rfl, rfl, rfl, Nat.le_refl _, fun _ _ _ => rfl⟩
theorem Exc.trans {B b : Nat} {x y z : World} (h : Exc B b x y) (k : Exc B b y z) : Exc B b x z :=
  ⟨k.os.trans h.os, k.tape.trans h.tape, k.output.trans h.output, Nat.le_trans h.size k.size, fun i h1 h2 => (k.block i h1 h2).trans (h.block i h1 h2)⟩
theorem Exc.of {B b : Nat} {x y : World} (h : Below B x y) : Exc B b x y := ⟨h.os, h.tape, h.output, h.size, fun i h1 _ => h.block i h1⟩
theorem Exc.mono {B C b : Nat} {x y : World} (h : Exc C b x y) (hb : B ≤ C) : Exc B b x y := ⟨h.os, h.tape, h.output, h.size, fun i h1 h2 => h.block i (by omega) h2⟩
/-- the block lies above: nothing below has turned -/
theorem Exc.below {B b : Nat} {x y : World} (h : Exc B b x y) (hb : B ≤ b) : Below B x y := ⟨h.os, h.tape, h.output, h.size, fun i h1 => h.block i h1 (by omega)⟩
theorem Blk.exc {B c : Nat} {w w' : World} {b : Nat} {t : TypeId} {cs : Array Value} (h : Blk w b t cs) (e : Exc B c w w') (h1 : b < B) (h2 : b ≠ c) : Blk w' b t cs := (e.block b h1 h2).trans h
theorem Blk.below {B : Nat} {w w' : World} {b : Nat} {t : TypeId} {cs : Array Value} (h : Blk w b t cs) (e : Below B w w') (h1 : b < B) : Blk w' b t cs := (e.block b h1).trans h
/-- a cell of block b set -/
theorem Blk.set {w : World} {b : Nat} {t : TypeId} {cs : Array Value} (h : Blk w b t cs) (i : Nat) (v : Value) : Blk (w.setCell ⟨b, i, none⟩ v) b t (cs.setIfInBounds i v) := by
  unfold Blk World.setCell
  have hl := h.lt
  unfold Blk at h
  simp only [Array.getElem?_modify]
  rw [h]
  simp
theorem exc_set (w : World) (b i : Nat) (v : Value) (B : Nat) : Exc B b w (w.setCell ⟨b, i, none⟩ v) := by
  refine ⟨rfl, rfl, rfl, by simp [World.setCell], fun k _ h2 => ?_⟩
  simp only [World.setCell, Array.getElem?_modify]
  rw [if_neg (fun e => h2 e.symm)]
/-- a grown row: what lies below its base stays -/
theorem exc_grown {w w' : World} {v : Value} {B b : Nat} (h : w.grownBy w' v.ownBlock) (hb : ∀ g, v.ownBlock = some g → B ≤ g) (hB : B ≤ w.heap.size) : Exc B b w w' :=
  ⟨h.os, h.tape, h.output, h.size, fun k h1 _ => h.block k (by omega) (fun e => by have := hb k e.symm; omega)⟩
/-- numbers in a row of the call's own -/
def OwnI (w : World) (base : Nat) (v : Value) (L : List Int) : Prop := w.ownsRow base 3 1 v L.length (L.map fun x => .int .i64 x)
/-- weekdays in a row of the call's own -/
def OwnN (w : World) (base : Nat) (v : Value) (L : List (Int × Int)) : Prop := w.ownsRow base 55 2 v L.length (L.flatMap fun x => [.int .i64 x.1, .int .i64 x.2])
theorem OwnI.nil (w : World) (base : Nat) : OwnI w base (.slice none 0 0) [] := World.ownsRow_nil w base _ 1
theorem OwnN.nil (w : World) (base : Nat) : OwnN w base (.slice none 0 0) [] := World.ownsRow_nil w base _ 2
theorem OwnI.exc {w w' : World} {base B b : Nat} {v : Value} {L : List Int} (h : OwnI w base v L) (e : Exc B b w w') (h1 : ∀ g, v.ownBlock = some g → g < B ∧ g ≠ b) : OwnI w' base v L := by
  refine ⟨h.1, ?_⟩
  rcases h.2 with hn | ⟨g, cap, cur, rfl, hb, hg, rest⟩
  · exact .inl hn
  · obtain ⟨q1, q2⟩ := h1 g rfl
    exact .inr ⟨g, cap, cur, rfl, hb, (e.block g q1 q2).trans hg, rest⟩
theorem OwnN.exc {w w' : World} {base B b : Nat} {v : Value} {L : List (Int × Int)} (h : OwnN w base v L) (e : Exc B b w w') (h1 : ∀ g, v.ownBlock = some g → g < B ∧ g ≠ b) : OwnN w' base v L := by
  refine ⟨h.1, ?_⟩
  rcases h.2 with hn | ⟨g, cap, cur, rfl, hb, hg, rest⟩
  · exact .inl hn
  · obtain ⟨q1, q2⟩ := h1 g rfl
    exact .inr ⟨g, cap, cur, rfl, hb, (e.block g q1 q2).trans hg, rest⟩
theorem flat_get {L : List (Int × Int)} : ∀ (i : Nat) (h : i < L.length), (L.flatMap fun x => [Value.int .i64 x.1, .int .i64 x.2])[i * 2]? = some (.int .i64 L[i].1) ∧ (L.flatMap fun x => [Value.int .i64 x.1, .int .i64 x.2])[i * 2 + 1]? = some (.int .i64 L[i].2) := by
  induction L with
  | nil => intro i h; exact absurd h (Nat.not_lt_zero i)
  | cons x L ih =>
    intro i h
    cases i with
    | zero => simp
    | succ i =>
      have := ih i (by simpa using h)
      rw [show (i + 1) * 2 = i * 2 + 2 by omega, show i * 2 + 2 + 1 = i * 2 + 1 + 2 by omega]
      simpa using this
theorem OwnI.ints {w : World} {base : Nat} {v : Value} {L : List Int} (h : OwnI w base v L) : ∃ A cap, v = .slice A L.length cap ∧ L.length ≤ maxLen ∧ L.length ≤ cap ∧ IntsIn w A L := by
  rcases h.2 with ⟨rfl, hn⟩ | ⟨g, cap, cur, rfl, hb, hg, h1, h2, h3, h4⟩
  · obtain rfl : L = [] := List.eq_nil_of_length_eq_zero hn
    exact ⟨none, 0, rfl, Nat.zero_le _, Nat.zero_le _, fun k hk => absurd hk (Nat.not_lt_zero k)⟩
  · refine ⟨some ⟨g, 0, none⟩, cap, rfl, by omega, h1, fun k hk => ⟨_, rfl, (Array.getElem?_eq_some_iff.1 hg).1, ?_⟩⟩
    have hB : Blk w g _ cur := hg
    have e : (⟨g, 0, none⟩ : Addr).add k = ⟨g, k, none⟩ := by simp [Addr.add]; omega
    rw [e, hB.cell k]
    have : (cur.toList.take (L.length * 1))[k]? = some (.int .i64 L[k]) := by rw [h4]; simp [hk]
    rw [List.getElem?_take] at this
    split at this
    · simpa using this
    · cases this
theorem OwnN.nths {w : World} {base : Nat} {v : Value} {L : List (Int × Int)} (h : OwnN w base v L) : ∃ A cap, v = .slice A L.length cap ∧ L.length ≤ maxLen ∧ L.length ≤ cap ∧ NthsIn w A L := by
  rcases h.2 with ⟨rfl, hn⟩ | ⟨g, cap, cur, rfl, hb, hg, h1, h2, h3, h4⟩
  · obtain rfl : L = [] := List.eq_nil_of_length_eq_zero hn
    exact ⟨none, 0, rfl, Nat.zero_le _, Nat.zero_le _, fun k hk => absurd hk (Nat.not_lt_zero k)⟩
  · refine ⟨some ⟨g, 0, none⟩, cap, rfl, by omega, h1, fun k hk => ⟨_, rfl, (Array.getElem?_eq_some_iff.1 hg).1, ?_⟩⟩
    have hB : Blk w g _ cur := hg
    have e : (⟨g, 0, none⟩ : Addr).add (k * 2) = ⟨g, k * 2, none⟩ := by simp [Addr.add]; omega
    have e' : (⟨g, k * 2, none⟩ : Addr).add 1 = ⟨g, k * 2 + 1, none⟩ := by simp [Addr.add]
    rw [e, e', hB.cell, hB.cell]
    obtain ⟨f1, f2⟩ := flat_get k hk
    rw [← h4, List.getElem?_take] at f1 f2
    rw [if_pos (by omega)] at f1 f2
    exact ⟨by simpa using f1, by simpa using f2⟩
section
variable {w : World} {ρ : Operand → Value} {o : Oper} {x y : Operand} {b i : Nat} {v : Value} {t : TypeId} {cs : Array Value}
theorem k_storeI {n : Int} (ho : o.op = .store 3 x y) (hx : ρ x = .pointer (some ⟨b, i, none⟩)) (hy : ρ y = .int .i64 n) (hb : Blk w b t cs) (hi : i < cs.size) :
    (execOp ρ o).run Tryz.prog w = .ok .skip (w.setCell ⟨b, i, none⟩ (.int .i64 n)) := by
  have hc := hb.cell i
  have hf := hb.frozen i
  rw [Array.getElem?_eq_getElem hi] at hc
  simp only [execOp, ho, hx, hy]
  go_simp
theorem k_storeL {A : Option Addr} {n c : Nat} (ho : o.op = .store 33 x y) (hx : ρ x = .pointer (some ⟨b, i, none⟩)) (hy : ρ y = .slice A n c) (hb : Blk w b t cs) (hi : i < cs.size) :
    (execOp ρ o).run Tryz.prog w = .ok .skip (w.setCell ⟨b, i, none⟩ (.slice A n c)) := by
  have hc := hb.cell i
  have hf := hb.frozen i
  rw [Array.getElem?_eq_getElem hi] at hc
  simp only [execOp, ho, hx, hy]
  go_simp
theorem k_storeW {A : Option Addr} {n c : Nat} (ho : o.op = .store 34 x y) (hx : ρ x = .pointer (some ⟨b, i, none⟩)) (hy : ρ y = .slice A n c) (hb : Blk w b t cs) (hi : i < cs.size) :
    (execOp ρ o).run Tryz.prog w = .ok .skip (w.setCell ⟨b, i, none⟩ (.slice A n c)) := by
  have hc := hb.cell i
  have hf := hb.frozen i
  rw [Array.getElem?_eq_getElem hi] at hc
  simp only [execOp, ho, hx, hy]
  go_simp
theorem k_storeU {n : Int} (ho : o.op = .store 32 x y) (hx : ρ x = .pointer (some ⟨b, i, none⟩)) (hy : ρ y = .int .i64 n) (hb : Blk w b t cs) (hi : i < cs.size) :
    (execOp ρ o).run Tryz.prog w = .ok .skip (w.setCell ⟨b, i, none⟩ (.int .i64 n)) := by
  have hc := hb.cell i
  have hf := hb.frozen i
  rw [Array.getElem?_eq_getElem hi] at hc
  simp only [execOp, ho, hx, hy]
  go_simp
end
end Go.Proofs.YtocpmljkmdpfkaaGreatDoor
