/-
  What the law CivilParses keeps in memory while it goes over a text's digits.
-/
import Derived.Test.YtdmjgfofcbfplaaDoorW10
import Derived.Test.YtdmjgfofcbfplaaDoorW5
import Derived.Lib.ConvBytes
namespace Go.Proofs.YtdmjgfofcbfplaaDoor
open Go.RowKit

/-- the first j bytes are digits -/
def Dig (q : ByteArray) (j : Nat) : Prop := ∀ i (h : i < q.size), i < j → isd q[i] = true
/-- a block's cells are a text's bytes -/
def Row (wr : World) (Q : Nat) (q : ByteArray) : Prop := ∀ j (h : j < q.size), wr.cell? ⟨Q, j, none⟩ = some (.int .u8 (q[j].toNat : Int))
/-- the law's two arrays: its three numbers, its three pairs -/
structure Inv (wa wr : World) (n0 n1 n2 : Int) : Prop where
  below : Below wa.heap.size wa wr
  c0 : wr.cell? ⟨wa.heap.size, 0, none⟩ = some (.int .i64 n0)
  c1 : wr.cell? ⟨wa.heap.size, 1, none⟩ = some (.int .i64 n1)
  c2 : wr.cell? ⟨wa.heap.size, 2, none⟩ = some (.int .i64 n2)
  f0 : wr.frozen? ⟨wa.heap.size, 0, none⟩ = false
  f1 : wr.frozen? ⟨wa.heap.size, 1, none⟩ = false
  f2 : wr.frozen? ⟨wa.heap.size, 2, none⟩ = false
  t0 : wr.cell? ⟨wa.heap.size + 1, 0, none⟩ = some (.int .i64 0)
  t1 : wr.cell? ⟨wa.heap.size + 1, 1, none⟩ = some (.int .i64 4)
  t2 : wr.cell? ⟨wa.heap.size + 1, 2, none⟩ = some (.int .i64 5)
  t3 : wr.cell? ⟨wa.heap.size + 1, 3, none⟩ = some (.int .i64 7)
  t4 : wr.cell? ⟨wa.heap.size + 1, 4, none⟩ = some (.int .i64 8)
  t5 : wr.cell? ⟨wa.heap.size + 1, 5, none⟩ = some (.int .i64 10)
  size : wa.heap.size + 1 < wr.heap.size

theorem Inv.start (wa : World) (t u : TypeId) : Inv wa ((wa.alloc (.cells #[.int .i64 0, .int .i64 0, .int .i64 0] t)).alloc (.cells #[.int .i64 0, .int .i64 4, .int .i64 5, .int .i64 7, .int .i64 8, .int .i64 10] u)) 0 0 0 where
  below := ((Below.refl _ _).alloc (Nat.le_refl _) _).alloc (by simp) _
  c0 := by simp [go_sem]
  c1 := by simp [go_sem]
  c2 := by simp [go_sem]
  f0 := by simp [go_sem]
  f1 := by simp [go_sem]
  f2 := by simp [go_sem]
  t0 := by simp [go_sem]
  t1 := by simp [go_sem]
  t2 := by simp [go_sem]
  t3 := by simp [go_sem]
  t4 := by simp [go_sem]
  t5 := by simp [go_sem]
  size := by simp
theorem Inv.later {wa wr w' : World} {n0 n1 n2 : Int} (h : Inv wa wr n0 n1 n2) (hb : Below wr.heap.size wr w') : Inv wa w' n0 n1 n2 := by
  have z := h.size
  have c : ∀ b o, b < wr.heap.size → w'.cell? ⟨b, o, none⟩ = wr.cell? ⟨b, o, none⟩ := fun b o hlt => hb.cell (p := ⟨b, o, none⟩) hlt
  have f : ∀ b o, b < wr.heap.size → w'.frozen? ⟨b, o, none⟩ = wr.frozen? ⟨b, o, none⟩ := fun b o hlt => hb.frozen (p := ⟨b, o, none⟩) hlt
  exact ⟨h.below.trans (hb.mono (by omega)), by rw [c _ _ (by omega)]; exact h.c0, by rw [c _ _ (by omega)]; exact h.c1, by rw [c _ _ (by omega)]; exact h.c2, by rw [f _ _ (by omega)]; exact h.f0, by rw [f _ _ (by omega)]; exact h.f1, by rw [f _ _ (by omega)]; exact h.f2, by rw [c _ _ (by omega)]; exact h.t0, by rw [c _ _ (by omega)]; exact h.t1, by rw [c _ _ (by omega)]; exact h.t2, by rw [c _ _ (by omega)]; exact h.t3, by rw [c _ _ (by omega)]; exact h.t4, by rw [c _ _ (by omega)]; exact h.t5, Nat.lt_of_lt_of_le z hb.size⟩
theorem frozen_set (w : World) (a b : Addr) (v : Value) : (w.setCell a v).frozen? b = w.frozen? b := by simp
theorem off_ne {b i j : Nat} (h : i ≠ j) : (⟨b, i, none⟩ : Addr) ≠ ⟨b, j, none⟩ := by intro e; injection e; contradiction
theorem blk_ne {b c i j : Nat} (h : b ≠ c) : (⟨b, i, none⟩ : Addr) ≠ ⟨c, j, none⟩ := by intro e; injection e; contradiction
theorem Inv.set0 {wa wr : World} {n0 n1 n2 : Int} (h : Inv wa wr n0 n1 n2) (v : Int) : Inv wa (wr.setCell ⟨wa.heap.size, 0, none⟩ (.int .i64 v)) v n1 n2 := by
  have o : ∀ b i, (⟨wa.heap.size, 0, none⟩ : Addr) ≠ ⟨b, i, none⟩ → (wr.setCell ⟨wa.heap.size, 0, none⟩ (.int .i64 v)).cell? ⟨b, i, none⟩ = wr.cell? ⟨b, i, none⟩ := fun b i e => World.cell?_setCell_other _ _ _ _ e
  exact ⟨h.below.setCell (Nat.le_refl _) _, World.cell?_setCell_same _ _ _ h.c0, by rw [o _ _ (off_ne (by decide))]; exact h.c1, by rw [o _ _ (off_ne (by decide))]; exact h.c2, by rw [frozen_set]; exact h.f0, by rw [frozen_set]; exact h.f1, by rw [frozen_set]; exact h.f2,
    by rw [o _ _ (blk_ne (by omega))]; exact h.t0, by rw [o _ _ (blk_ne (by omega))]; exact h.t1, by rw [o _ _ (blk_ne (by omega))]; exact h.t2, by rw [o _ _ (blk_ne (by omega))]; exact h.t3, by rw [o _ _ (blk_ne (by omega))]; exact h.t4, by rw [o _ _ (blk_ne (by omega))]; exact h.t5, by rw [World.size_setCell]; exact h.size⟩
theorem Inv.set1 {wa wr : World} {n0 n1 n2 : Int} (h : Inv wa wr n0 n1 n2) (v : Int) : Inv wa (wr.setCell ⟨wa.heap.size, 1, none⟩ (.int .i64 v)) n0 v n2 := by
  have o : ∀ b i, (⟨wa.heap.size, 1, none⟩ : Addr) ≠ ⟨b, i, none⟩ → (wr.setCell ⟨wa.heap.size, 1, none⟩ (.int .i64 v)).cell? ⟨b, i, none⟩ = wr.cell? ⟨b, i, none⟩ := fun b i e => World.cell?_setCell_other _ _ _ _ e
  exact ⟨h.below.setCell (Nat.le_refl _) _, by rw [o _ _ (off_ne (by decide))]; exact h.c0, World.cell?_setCell_same _ _ _ h.c1, by rw [o _ _ (off_ne (by decide))]; exact h.c2, by rw [frozen_set]; exact h.f0, by rw [frozen_set]; exact h.f1, by rw [frozen_set]; exact h.f2,
    by rw [o _ _ (blk_ne (by omega))]; exact h.t0, by rw [o _ _ (blk_ne (by omega))]; exact h.t1, by rw [o _ _ (blk_ne (by omega))]; exact h.t2, by rw [o _ _ (blk_ne (by omega))]; exact h.t3, by rw [o _ _ (blk_ne (by omega))]; exact h.t4, by rw [o _ _ (blk_ne (by omega))]; exact h.t5, by rw [World.size_setCell]; exact h.size⟩
theorem Inv.set2 {wa wr : World} {n0 n1 n2 : Int} (h : Inv wa wr n0 n1 n2) (v : Int) : Inv wa (wr.setCell ⟨wa.heap.size, 2, none⟩ (.int .i64 v)) n0 n1 v := by
  have o : ∀ b i, (⟨wa.heap.size, 2, none⟩ : Addr) ≠ ⟨b, i, none⟩ → (wr.setCell ⟨wa.heap.size, 2, none⟩ (.int .i64 v)).cell? ⟨b, i, none⟩ = wr.cell? ⟨b, i, none⟩ := fun b i e => World.cell?_setCell_other _ _ _ _ e
  exact ⟨h.below.setCell (Nat.le_refl _) _, by rw [o _ _ (off_ne (by decide))]; exact h.c0, by rw [o _ _ (off_ne (by decide))]; exact h.c1, World.cell?_setCell_same _ _ _ h.c2, by rw [frozen_set]; exact h.f0, by rw [frozen_set]; exact h.f1, by rw [frozen_set]; exact h.f2,
    by rw [o _ _ (blk_ne (by omega))]; exact h.t0, by rw [o _ _ (blk_ne (by omega))]; exact h.t1, by rw [o _ _ (blk_ne (by omega))]; exact h.t2, by rw [o _ _ (blk_ne (by omega))]; exact h.t3, by rw [o _ _ (blk_ne (by omega))]; exact h.t4, by rw [o _ _ (blk_ne (by omega))]; exact h.t5, by rw [World.size_setCell]; exact h.size⟩

theorem bytes_below (w : World) (e : TypeId) (q : ByteArray) : Below w.heap.size w (Lib.bytesWorld w e q) :=
  ⟨rfl, rfl, rfl, by rw [Lib.bytesWorld_size]; omega, fun k hk => Lib.bytesWorld_at_old w e q k hk⟩
theorem Row.start (w : World) (e : TypeId) (q : ByteArray) : Row (Lib.bytesWorld w e q) w.heap.size q := fun j hj => by
  rw [Lib.bytesWorld_cell w e q j hj]
  have e1 : q.data.toList.getD j 0 = q[j] := by
    rw [List.getD_eq_getElem?_getD, List.getElem?_eq_getElem (by simpa using hj)]; rfl
  rw [e1]
theorem Row.set {wr : World} {Q : Nat} {q : ByteArray} (h : Row wr Q q) {p : Addr} (hp : p.block ≠ Q) (v : Value) : Row (wr.setCell p v) Q q := fun j hj => by
  rw [World.cell?_setCell_other _ _ _ _ (by intro e; apply hp; rw [e])]
  exact h j hj

theorem Dig.zero (q : ByteArray) : Dig q 0 := fun _ _ h => absurd h (Nat.not_lt_zero _)
theorem Dig.succ {q : ByteArray} {j : Nat} (h : Dig q j) (hj : j < q.size) (hd : isd q[j] = true) : Dig q (j + 1) := fun i hi hlt => by
  rcases Nat.lt_or_ge i j with g | g
  · exact h i hi g
  · obtain rfl : i = j := by omega
    exact hd
/-- the number of the first j bytes -/
def nv (q : ByteArray) (j : Nat) : Int := val (q.data.toList.take j)
theorem nv_zero (q : ByteArray) : nv q 0 = 0 := rfl
theorem nv_succ (q : ByteArray) (j : Nat) (h : j < q.size) : nv q (j + 1) = nv q j * 10 + ((q[j].toNat : Int) - 48) := by
  unfold nv; rw [take_snoc q j h, val_snoc]
theorem Dig.nv_bd {q : ByteArray} {j : Nat} (h : Dig q j) (hj : j < q.size) (hq : q.size ≤ 4) : 0 ≤ nv q j ∧ nv q j ≤ 999 := by
  unfold nv
  have hb := Go.Proofs.YtdmjgfofcbfplaaDoor.val_bd (q.data.toList.take j) (mem_take q j (by omega) _ fun i hi hlt => h i hi hlt)
  have hl : (q.data.toList.take j).length ≤ 3 := by simp; omega
  have hp := pow_le _ hl
  omega
theorem Dig.all {q : ByteArray} {j : Nat} (h : Dig q j) (hj : q.size ≤ j) : ds q = true := ds_of fun i hi => h i hi (by omega)
theorem Dig.nv_dv {q : ByteArray} {j : Nat} (h : Dig q j) (hj : q.size ≤ j) : nv q j = dv q := by
  unfold nv dv
  rw [if_pos (h.all hj), List.take_of_length_le (by simpa using hj)]
theorem quiet_eq {P : Program} {f : FuncId} {args : Array Value} {w : World} {n : Nat} {v : Value}
    (h : Calls P f args (w.drewN n) fun e w' => e = .returned v ∧ w.drewN n = w') : Calls P f args (w.drewN n) fun e w' => e = .returned v ∧ ∃ m, w' = w.drewN m :=
  h.mono fun _ _ hh => ⟨hh.1, n, hh.2.symm⟩
end Go.Proofs.YtdmjgfofcbfplaaDoor
