/-
  A rule as a text: rfc.Print.
-/
import Derived.Test.YtjdjekpbjnkliaaGreatDoorRf2
import Derived.Test.YtjdjekpbjnkliaaGreatDoorRf3
namespace Go.Proofs.YtjdjekpbjnkliaaGreatDoor
open Go.RowKit
def OwnS (w : World) (base : Nat) (v : Value) (L : List (List UInt8)) : Prop := w.ownsRow base 9 1 v L.length (L.map fun x => .string ⟨x.toArray⟩)
theorem OwnS.nil (w : World) (base : Nat) : OwnS w base (.slice none 0 0) [] := World.ownsRow_nil w base _ 1
theorem OwnS.below {w w' : World} {b : Nat} {v : Value} {L : List (List UInt8)} (h : OwnS w b v L) (e : Below w.heap.size w w') : OwnS w' b v L := by
  refine ⟨h.1, ?_⟩
  rcases h.2 with hn | ⟨g, cap, cur, rfl, hb, hg, rest⟩
  · exact .inl hn
  · exact .inr ⟨g, cap, cur, rfl, hb, (e.block g (Array.getElem?_eq_some_iff.1 hg).1).trans hg, rest⟩
theorem OwnS.form {w : World} {b : Nat} {v : Value} {L : List (List UInt8)} (h : OwnS w b v L) : ∃ A cap, v = .slice A L.length cap := by
  rcases h.2 with ⟨rfl, hn⟩ | ⟨g, cap, cur, rfl, -⟩
  · exact ⟨none, 0, by rw [hn]⟩
  · exact ⟨_, cap, rfl⟩
theorem OwnS.some {w : World} {b cap : Nat} {A : Option Addr} {L : List (List UInt8)} (h : OwnS w b (.slice A L.length cap) L) (hL : L ≠ []) : ∃ g, A = some ⟨g, 0, none⟩ ∧ g < w.heap.size ∧ L.length ≤ cap ∧ ∀ j (hj : j < L.length), w.cell? ⟨g, j, none⟩ = some (.string ⟨L[j].toArray⟩) := by
  rcases h.2 with ⟨e, hn⟩ | ⟨g, cap', cur, e, hb, hg, h1, h2, h3, h4⟩
  · exact (hL (List.eq_nil_of_length_eq_zero hn)).elim
  · obtain ⟨rfl, -, rfl⟩ := Value.slice.inj e
    refine ⟨g, rfl, (Array.getElem?_eq_some_iff.1 hg).1, h1, fun j hj => ?_⟩
    have hB : Blk w g _ cur := hg
    rw [hB.cell j]
    have : (cur.toList.take (L.length * 1))[j]? = Option.some (.string ⟨L[j].toArray⟩) := by rw [h4]; simp [hj]
    rw [List.getElem?_take] at this
    split at this
    · simpa using this
    · cases this
namespace Rfc
end Rfc
section
variable {w : World} {ρ : Operand → Value} {o : Oper} {x y z : Operand} {v u r : Value} {n m : Int} {q : Bool} {i : Nat} {b : ByteArray}
theorem k_loadPN (ho : o.op = .load 91 (.global 2)) (hg : ρ (.global 2) = .pointer (some ⟨2, 0, none⟩)) (hT : Tabs w) : (execOp ρ o).run Tryz.prog w = .ok (.value (.agg #[.string ⟨(Rfc.nm 0).toArray⟩, .string ⟨(Rfc.nm 1).toArray⟩, .string ⟨(Rfc.nm 2).toArray⟩, .string ⟨(Rfc.nm 3).toArray⟩, .string ⟨(Rfc.nm 4).toArray⟩, .string ⟨(Rfc.nm 5).toArray⟩, .string ⟨(Rfc.nm 6).toArray⟩, .string ⟨(Rfc.nm 7).toArray⟩])) w := by
  have c0 := hT.pn 0 (by omega); have c1 := hT.pn 1 (by omega); have c2 := hT.pn 2 (by omega); have c3 := hT.pn 3 (by omega); have c4 := hT.pn 4 (by omega); have c5 := hT.pn 5 (by omega); have c6 := hT.pn 6 (by omega); have c7 := hT.pn 7 (by omega)
  clear hT
  simp only [execOp, ho]
  go_simp
theorem idxPN0 (w : World) : (Instr.index 91 (.agg #[.string ⟨(Rfc.nm 0).toArray⟩, .string ⟨(Rfc.nm 1).toArray⟩, .string ⟨(Rfc.nm 2).toArray⟩, .string ⟨(Rfc.nm 3).toArray⟩, .string ⟨(Rfc.nm 4).toArray⟩, .string ⟨(Rfc.nm 5).toArray⟩, .string ⟨(Rfc.nm 6).toArray⟩, .string ⟨(Rfc.nm 7).toArray⟩]) (.int .i64 0)).run Tryz.prog w = .ok (.string ⟨(Rfc.nm 0).toArray⟩) w := by kernel_rfl
theorem idxPN1 (w : World) : (Instr.index 91 (.agg #[.string ⟨(Rfc.nm 0).toArray⟩, .string ⟨(Rfc.nm 1).toArray⟩, .string ⟨(Rfc.nm 2).toArray⟩, .string ⟨(Rfc.nm 3).toArray⟩, .string ⟨(Rfc.nm 4).toArray⟩, .string ⟨(Rfc.nm 5).toArray⟩, .string ⟨(Rfc.nm 6).toArray⟩, .string ⟨(Rfc.nm 7).toArray⟩]) (.int .i64 1)).run Tryz.prog w = .ok (.string ⟨(Rfc.nm 1).toArray⟩) w := by kernel_rfl
theorem idxPN2 (w : World) : (Instr.index 91 (.agg #[.string ⟨(Rfc.nm 0).toArray⟩, .string ⟨(Rfc.nm 1).toArray⟩, .string ⟨(Rfc.nm 2).toArray⟩, .string ⟨(Rfc.nm 3).toArray⟩, .string ⟨(Rfc.nm 4).toArray⟩, .string ⟨(Rfc.nm 5).toArray⟩, .string ⟨(Rfc.nm 6).toArray⟩, .string ⟨(Rfc.nm 7).toArray⟩]) (.int .i64 2)).run Tryz.prog w = .ok (.string ⟨(Rfc.nm 2).toArray⟩) w := by kernel_rfl
theorem idxPN3 (w : World) : (Instr.index 91 (.agg #[.string ⟨(Rfc.nm 0).toArray⟩, .string ⟨(Rfc.nm 1).toArray⟩, .string ⟨(Rfc.nm 2).toArray⟩, .string ⟨(Rfc.nm 3).toArray⟩, .string ⟨(Rfc.nm 4).toArray⟩, .string ⟨(Rfc.nm 5).toArray⟩, .string ⟨(Rfc.nm 6).toArray⟩, .string ⟨(Rfc.nm 7).toArray⟩]) (.int .i64 3)).run Tryz.prog w = .ok (.string ⟨(Rfc.nm 3).toArray⟩) w := by kernel_rfl
theorem idxPN4 (w : World) : (Instr.index 91 (.agg #[.string ⟨(Rfc.nm 0).toArray⟩, .string ⟨(Rfc.nm 1).toArray⟩, .string ⟨(Rfc.nm 2).toArray⟩, .string ⟨(Rfc.nm 3).toArray⟩, .string ⟨(Rfc.nm 4).toArray⟩, .string ⟨(Rfc.nm 5).toArray⟩, .string ⟨(Rfc.nm 6).toArray⟩, .string ⟨(Rfc.nm 7).toArray⟩]) (.int .i64 4)).run Tryz.prog w = .ok (.string ⟨(Rfc.nm 4).toArray⟩) w := by kernel_rfl
theorem idxPN5 (w : World) : (Instr.index 91 (.agg #[.string ⟨(Rfc.nm 0).toArray⟩, .string ⟨(Rfc.nm 1).toArray⟩, .string ⟨(Rfc.nm 2).toArray⟩, .string ⟨(Rfc.nm 3).toArray⟩, .string ⟨(Rfc.nm 4).toArray⟩, .string ⟨(Rfc.nm 5).toArray⟩, .string ⟨(Rfc.nm 6).toArray⟩, .string ⟨(Rfc.nm 7).toArray⟩]) (.int .i64 5)).run Tryz.prog w = .ok (.string ⟨(Rfc.nm 5).toArray⟩) w := by kernel_rfl
theorem idxPN6 (w : World) : (Instr.index 91 (.agg #[.string ⟨(Rfc.nm 0).toArray⟩, .string ⟨(Rfc.nm 1).toArray⟩, .string ⟨(Rfc.nm 2).toArray⟩, .string ⟨(Rfc.nm 3).toArray⟩, .string ⟨(Rfc.nm 4).toArray⟩, .string ⟨(Rfc.nm 5).toArray⟩, .string ⟨(Rfc.nm 6).toArray⟩, .string ⟨(Rfc.nm 7).toArray⟩]) (.int .i64 6)).run Tryz.prog w = .ok (.string ⟨(Rfc.nm 6).toArray⟩) w := by kernel_rfl
theorem idxPN7 (w : World) : (Instr.index 91 (.agg #[.string ⟨(Rfc.nm 0).toArray⟩, .string ⟨(Rfc.nm 1).toArray⟩, .string ⟨(Rfc.nm 2).toArray⟩, .string ⟨(Rfc.nm 3).toArray⟩, .string ⟨(Rfc.nm 4).toArray⟩, .string ⟨(Rfc.nm 5).toArray⟩, .string ⟨(Rfc.nm 6).toArray⟩, .string ⟨(Rfc.nm 7).toArray⟩]) (.int .i64 7)).run Tryz.prog w = .ok (.string ⟨(Rfc.nm 7).toArray⟩) w := by kernel_rfl
theorem idxPN (i : Nat) (hi : i < 8) (w : World) : (Instr.index 91 (.agg #[.string ⟨(Rfc.nm 0).toArray⟩, .string ⟨(Rfc.nm 1).toArray⟩, .string ⟨(Rfc.nm 2).toArray⟩, .string ⟨(Rfc.nm 3).toArray⟩, .string ⟨(Rfc.nm 4).toArray⟩, .string ⟨(Rfc.nm 5).toArray⟩, .string ⟨(Rfc.nm 6).toArray⟩, .string ⟨(Rfc.nm 7).toArray⟩]) (.int .i64 i)).run Tryz.prog w = .ok (.string ⟨(Rfc.nm i).toArray⟩) w := by
  match i, hi with
  | 0, _ => exact idxPN0 w
  | 1, _ => exact idxPN1 w
  | 2, _ => exact idxPN2 w
  | 3, _ => exact idxPN3 w
  | 4, _ => exact idxPN4 w
  | 5, _ => exact idxPN5 w
  | 6, _ => exact idxPN6 w
  | 7, _ => exact idxPN7 w
theorem k_idxPN (ho : o.op = .index 91 x y) (hx : ρ x = .agg #[.string ⟨(Rfc.nm 0).toArray⟩, .string ⟨(Rfc.nm 1).toArray⟩, .string ⟨(Rfc.nm 2).toArray⟩, .string ⟨(Rfc.nm 3).toArray⟩, .string ⟨(Rfc.nm 4).toArray⟩, .string ⟨(Rfc.nm 5).toArray⟩, .string ⟨(Rfc.nm 6).toArray⟩, .string ⟨(Rfc.nm 7).toArray⟩]) (hy : ρ y = .int .i64 i) (hi : i < 8) : (execOp ρ o).run Tryz.prog w = .ok (.value (.string ⟨(Rfc.nm i).toArray⟩)) w := by
  have hr := idxPN i hi w
  simp only [execOp, ho, hx, hy, Sem.run_bind, hr, Result.andThen_ok, Sem.run_pure]
theorem k_sliceS (ho : o.op = .buildSlice 42 1 #[(0, x)]) (hx : ρ x = .string b) : (execOp ρ o).run Tryz.prog w = .ok (.value (.slice (some ⟨w.heap.size, 0, none⟩) 1 1)) (w.alloc (.cells #[.string b] 9)) := by
  simp only [execOp, ho]
  go_simp
theorem o_neE {n m : Int} {q : Bool} (ho : o.op = .binOp .neq 29 x y 29) (hx : ρ x = .int .i64 n) (hy : ρ y = .int .i64 m) (hr : (n != m) = q) : (execOp ρ o).run Tryz.prog w = .ok (.value (.bool q)) w := by
  subst hr
  simp only [execOp, ho, hx, hy]
  go_simp
end
theorem check_any'' (f iv c u : Int) (AM AD AW AP : Option Addr) (cM cD cW cP : Nat) (M D : List Int) (W : List (Int × Int)) (P : List Int) (w : World) (hL : ListsIn w AM AD AW AP M D W P) :
    Calls Tryz.prog 20 #[.agg #[.int .i64 f, .int .i64 iv, .int .i64 c, .int .i64 u, .slice AM M.length cM, .slice AD D.length cD, .slice AW W.length cW, .slice AP P.length cP]] w fun e w' => ∃ v, e = .returned v ∧ v = .int .i64 (Rul.check f iv c u M D W P) ∧ Below w.heap.size w w' :=
  (check_any f iv c u AM AD AW AP cM cD cW cP M D W P w hL).mono fun _ _ h => ⟨_, h.1, rfl, h.2⟩
end Go.Proofs.YtjdjekpbjnkliaaGreatDoor
