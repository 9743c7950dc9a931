/-
  A rule in a block of the call's own: made, stored whole, loaded; calls known by their text.
-/
import Derived.Test.YtocpmljkmdpfkaaGreatDoorApp
import Derived.Test.YtocpmljkmdpfkaaGreatDoorR17
namespace Go.Proofs.YtocpmljkmdpfkaaGreatDoor
open Go.RowKit
theorem Blk.rule {w : World} {b : Nat} {f iv c u : Int} {sM sD sW sP : Value} (h : Blk w b 36 #[.int .i64 f, .int .i64 iv, .int .i64 c, .int .i64 u, sM, sD, sW, sP]) : RuleAt w b f iv c u sM sD sW sP :=
  ⟨h.lt, h.cell 0, h.cell 1, h.cell 2, h.cell 3, h.cell 4, h.cell 5, h.cell 6, h.cell 7⟩
theorem Blk.setRow {w : World} {b : Nat} {t : TypeId} {old cs : Array Value} (h : Blk w b t old) : Blk (w.setRow b cs) b t cs := setRow_heap w b old cs t _ h
theorem exc_setRow (w : World) (b : Nat) (cs : Array Value) (B : Nat) : Exc B b w (w.setRow b cs) :=
  ⟨rfl, rfl, rfl, by simp, fun k _ hk => setRow_other w b k _ hk⟩
section
variable {w : World} {ρ : Operand → Value} {o : Oper} {x y z : Operand} {b : Nat} {v u : Value}
theorem k_allocR (ho : o.op = .alloc 36) :
    (execOp ρ o).run Tryz.prog w = .ok (.value (.pointer (some ⟨w.heap.size, 0, none⟩))) (w.alloc (.cells #[.int .i64 0, .int .i64 0, .int .i64 0, .int .i64 0, .slice none 0 0, .slice none 0 0, .slice none 0 0, .slice none 0 0] 36)) := by
  simp only [execOp, ho]
  go_simp
theorem k_storeR {old cs : Array Value} (ho : o.op = .store 36 x y) (hx : ρ x = .pointer (some ⟨b, 0, none⟩)) (hy : ρ y = .agg cs) (hb : Blk w b 36 old) (h8 : cs.size = 8) (ho8 : old.size = 8) (h1 : cs.all (·.oneCell') = true) :
    (execOp ρ o).run Tryz.prog w = .ok .skip (w.setRow b cs) := by
  have hr := run_storeVar_row (P := Tryz.prog) w b 36 36 old cs hb (by rw [h8]; kernel_rfl) (by rw [ho8, h8]) h1
  simp only [execOp, ho, hx, hy, Instr.storeAt, Instr.sureAddr, Sem.run_bind, Sem.run_pure, Result.andThen_ok, hr]
theorem k_buildR2 {f iv : Int} (ho : o.op = .build 36 #[(0, x), (1, y)]) (hx : ρ x = .int .i64 f) (hy : ρ y = .int .i64 iv) :
    (execOp ρ o).run Tryz.prog w = .ok (.value (.agg #[.int .i64 f, .int .i64 iv, .int .i64 0, .int .i64 0, .slice none 0 0, .slice none 0 0, .slice none 0 0, .slice none 0 0])) w := by
  simp only [execOp, ho]
  go_simp
theorem k_callAwake (ho : o.op = .call ⟨.value (.func 20), #[], #[]⟩) (hf : ρ (.func 20) = .func (.func 20) #[] #[]) : (execOp ρ o).run Tryz.prog w = .ok (.enter 20 #[]) w := by
  simp only [execOp, ho]
  go_simp
end
theorem wrap_small {n : Int} (h1 : -9223372036854775808 ≤ n) (h2 : n ≤ 9223372036854775807) : IntKind.i64.wrap n = n := by
  unfold IntKind.wrap
  simp [IntKind.bits, IntKind.signed]
  omega
theorem awake2' (w : World) (hM : Months w) : Calls Tryz.prog 20 #[] w fun e w' => ∃ v, e = .returned v ∧ v = .bool true ∧ Below w.heap.size w w' :=
  (awake2 w hM).mono fun _ _ h => ⟨_, h.1, rfl, h.2⟩
end Go.Proofs.YtocpmljkmdpfkaaGreatDoor
