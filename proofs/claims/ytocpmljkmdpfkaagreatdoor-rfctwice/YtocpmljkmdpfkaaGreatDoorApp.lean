/-
  Rows of the call's own that grow: one element put behind.
-/
import Derived.Test.YtocpmljkmdpfkaaGreatDoorMem
namespace Go.Proofs.YtocpmljkmdpfkaaGreatDoor
open Go.RowKit
theorem info_of {T : TypeId} {z : Value} {n b : Nat} (h1 : (Tryz.prog.info? T).map (·.size) = some n) (h2 : (Tryz.prog.info? T).bind (·.zero) = some z) (h3 : (Tryz.prog.info? T).map (·.bytes) = some b) :
    ∃ i, Tryz.prog.info? T = some i ∧ i.zero = some z ∧ i.size = n ∧ i.bytes = b := by
  cases h : Tryz.prog.info? T with
  | none => rw [h] at h1; cases h1
  | some i =>
    rw [h] at h1 h2 h3
    exact ⟨i, rfl, by simpa using h2, by simpa using h1, by simpa using h3⟩
theorem append_int {w : World} {base : Nat} {v : Value} {L : List Int} {x : Int} {g c : Nat} (h : OwnI w base v L) (hx : w.cell? ⟨g, 0, none⟩ = some (.int .i64 x)) (hl : L.length ≤ 1000000) (hB : base ≤ w.heap.size) :
    ∃ v' w', (Builtin.append_ #[33, 33] 33 #[v, .slice (some ⟨g, 0, none⟩) 1 c]).run Tryz.prog w = .ok v' w' ∧ OwnI w' base v' (L ++ [x]) ∧ ∀ B b, B ≤ base → Exc B b w w' := by
  obtain ⟨i, hi, hz, hs, hb⟩ := info_of (T := 3) (z := .int .i64 0) (n := 1) (b := 8) (by kernel_rfl) (by kernel_rfl) (by kernel_rfl)
  obtain ⟨v', w', hr, ho, hg, -⟩ := run_append_own (P := Tryz.prog) w base 33 33 3 i (.int .i64 0) 1 8 Tryz.underlying33 hi hz hs hb rfl (by decide) v L.length _ h ⟨g, 0, none⟩ 1 c [.int .i64 x] rfl
    (fun j u hu => by
      cases j with
      | zero => obtain rfl : Value.int .i64 x = u := by simpa using hu
                exact hx
      | succ j => simp at hu) (by simp [Value.oneCell']) (by unfold maxLen; omega) (by omega) hB
  refine ⟨v', w', hr, ?_, fun B b hBb => exc_grown hg (fun g' hg' => Nat.le_trans hBb (h.lt g' hg').1) (Nat.le_trans hBb hB)⟩
  unfold OwnI
  simpa using ho
theorem append_nth {w : World} {base : Nat} {v : Value} {L : List (Int × Int)} {x y : Int} {g c : Nat} (h : OwnN w base v L) (hx : w.cell? ⟨g, 0, none⟩ = some (.int .i64 x)) (hy : w.cell? ⟨g, 1, none⟩ = some (.int .i64 y)) (hl : L.length ≤ 1000000) (hB : base ≤ w.heap.size) :
    ∃ v' w', (Builtin.append_ #[34, 34] 34 #[v, .slice (some ⟨g, 0, none⟩) 1 c]).run Tryz.prog w = .ok v' w' ∧ OwnN w' base v' (L ++ [(x, y)]) ∧ ∀ B b, B ≤ base → Exc B b w w' := by
  obtain ⟨i, hi, hz, hs, hb⟩ := info_of (T := 55) (z := .agg #[.int .i64 0, .int .i64 0]) (n := 2) (b := 16) (by kernel_rfl) (by kernel_rfl) (by kernel_rfl)
  obtain ⟨v', w', hr, ho, hg, -⟩ := run_append_own (P := Tryz.prog) w base 34 34 55 i (.agg #[.int .i64 0, .int .i64 0]) 2 16 Tryz.underlying34 hi hz hs hb rfl (by decide) v L.length _ h ⟨g, 0, none⟩ 1 c [.int .i64 x, .int .i64 y] rfl
    (fun j u hu => by
      match j with
      | 0 => obtain rfl : Value.int .i64 x = u := by simpa using hu
             exact hx
      | 1 => obtain rfl : Value.int .i64 y = u := by simpa using hu
             exact hy
      | j + 2 => simp at hu) (by simp [Value.oneCell']) (by unfold maxLen; omega) (by omega) hB
  refine ⟨v', w', hr, ?_, fun B b hBb => exc_grown hg (fun g' hg' => Nat.le_trans hBb (h.lt g' hg').1) (Nat.le_trans hBb hB)⟩
  unfold OwnN
  simpa using ho
section
variable {w w' : World} {ρ : Operand → Value} {o : Oper} {x y : Operand} {v s v' : Value} {n : Int}
theorem k_append {T : TypeId} (ho : o.op = .call ⟨.builtin .append, #[x, y], #[T, T]⟩) (ht : o.type = T) (hx : ρ x = v) (hy : ρ y = s) (hr : (Builtin.append_ #[T, T] T #[v, s]).run Tryz.prog w = .ok v' w') :
    (execOp ρ o).run Tryz.prog w = .ok (.value v') w' := by
  have e : (#[x, y] : Array Operand).map ρ = #[v, s] := by simp [hx, hy]
  simp only [execOp, ho, resolve, e, ht, invoke, builtin, Sem.run_bind, Sem.run_pure, Result.andThen_ok, hr]
theorem k_slice1 (ho : o.op = .buildSlice 33 1 #[(0, x)]) (hx : ρ x = .int .i64 n) :
    (execOp ρ o).run Tryz.prog w = .ok (.value (.slice (some ⟨w.heap.size, 0, none⟩) 1 1)) (w.alloc (.cells #[.int .i64 n] 3)) := by
  simp only [execOp, ho]
  go_simp
theorem k_sliceN {m : Int} (ho : o.op = .buildSlice 34 1 #[(0, x)]) (hx : ρ x = .agg #[.int .i64 n, .int .i64 m]) :
    (execOp ρ o).run Tryz.prog w = .ok (.value (.slice (some ⟨w.heap.size, 0, none⟩) 1 1)) (w.alloc (.cells #[.int .i64 n, .int .i64 m] 55)) := by
  simp only [execOp, ho]
  go_simp
theorem k_buildN {m : Int} (ho : o.op = .build 55 #[(0, x), (1, y)]) (hx : ρ x = .int .i64 n) (hy : ρ y = .int .i64 m) :
    (execOp ρ o).run Tryz.prog w = .ok (.value (.agg #[.int .i64 n, .int .i64 m])) w := by
  simp only [execOp, ho]
  go_simp
theorem k_at {T : TypeId} {b k c : Nat} {i : Nat} (hT : T = 33) (ho : o.op = .indexAddr T x y) (hx : ρ x = .slice (some ⟨b, 0, none⟩) k c) (hy : ρ y = .int .i64 i) (hi : i < k) :
    (execOp ρ o).run Tryz.prog w = .ok (.value (.pointer (some ⟨b, i, none⟩))) w := by
  subst hT
  simp only [execOp, ho]
  go_simp
end
end Go.Proofs.YtocpmljkmdpfkaaGreatDoor
