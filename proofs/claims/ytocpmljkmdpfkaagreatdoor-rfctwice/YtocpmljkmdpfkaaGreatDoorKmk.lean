/-
  The operations of the law's Make, known by their text.
-/
import Derived.Test.YtocpmljkmdpfkaaGreatDoorMemR
namespace Go.Proofs.YtocpmljkmdpfkaaGreatDoor
open Go.RowKit
section
variable {w : World} {ρ : Operand → Value} {o : Oper} {x y : Operand} {b i n k c : Nat} {m p q : Int} {A : Option Addr} {ad : Addr} {v : Value}
theorem k_fieldR0 (ho : o.op = .fieldAddr 29 x 0) (hx : ρ x = .pointer (some ⟨b, 0, none⟩)) : (execOp ρ o).run Tryz.prog w = .ok (.value (.pointer (some ⟨b, 0, none⟩))) w := by
  simp only [execOp, ho, hx]
  go_simp
theorem k_fieldR1 (ho : o.op = .fieldAddr 29 x 1) (hx : ρ x = .pointer (some ⟨b, 0, none⟩)) : (execOp ρ o).run Tryz.prog w = .ok (.value (.pointer (some ⟨b, 1, none⟩))) w := by
  simp only [execOp, ho, hx]
  go_simp
theorem k_fieldR2 (ho : o.op = .fieldAddr 29 x 2) (hx : ρ x = .pointer (some ⟨b, 0, none⟩)) : (execOp ρ o).run Tryz.prog w = .ok (.value (.pointer (some ⟨b, 2, none⟩))) w := by
  simp only [execOp, ho, hx]
  go_simp
theorem k_fieldR3 (ho : o.op = .fieldAddr 29 x 3) (hx : ρ x = .pointer (some ⟨b, 0, none⟩)) : (execOp ρ o).run Tryz.prog w = .ok (.value (.pointer (some ⟨b, 3, none⟩))) w := by
  simp only [execOp, ho, hx]
  go_simp
theorem k_fieldR4 (ho : o.op = .fieldAddr 29 x 4) (hx : ρ x = .pointer (some ⟨b, 0, none⟩)) : (execOp ρ o).run Tryz.prog w = .ok (.value (.pointer (some ⟨b, 4, none⟩))) w := by
  simp only [execOp, ho, hx]
  go_simp
theorem k_fieldR5 (ho : o.op = .fieldAddr 29 x 5) (hx : ρ x = .pointer (some ⟨b, 0, none⟩)) : (execOp ρ o).run Tryz.prog w = .ok (.value (.pointer (some ⟨b, 5, none⟩))) w := by
  simp only [execOp, ho, hx]
  go_simp
theorem k_fieldR6 (ho : o.op = .fieldAddr 29 x 6) (hx : ρ x = .pointer (some ⟨b, 0, none⟩)) : (execOp ρ o).run Tryz.prog w = .ok (.value (.pointer (some ⟨b, 6, none⟩))) w := by
  simp only [execOp, ho, hx]
  go_simp
theorem k_fieldR7 (ho : o.op = .fieldAddr 29 x 7) (hx : ρ x = .pointer (some ⟨b, 0, none⟩)) : (execOp ρ o).run Tryz.prog w = .ok (.value (.pointer (some ⟨b, 7, none⟩))) w := by
  simp only [execOp, ho, hx]
  go_simp
theorem k_fieldR8 (ho : o.op = .fieldAddr 29 x 8) (hx : ρ x = .pointer (some ⟨b, 0, none⟩)) : (execOp ρ o).run Tryz.prog w = .ok (.value (.pointer (some ⟨b, 8, none⟩))) w := by
  simp only [execOp, ho, hx]
  go_simp
theorem k_fieldW0 (ho : o.op = .fieldAddr 61 x 0) (hx : ρ x = .pointer (some ⟨b, 0, none⟩)) : (execOp ρ o).run Tryz.prog w = .ok (.value (.pointer (some ⟨b, 0, none⟩))) w := by
  simp only [execOp, ho, hx]
  go_simp
theorem k_fieldW1 (ho : o.op = .fieldAddr 61 x 1) (hx : ρ x = .pointer (some ⟨b, 0, none⟩)) : (execOp ρ o).run Tryz.prog w = .ok (.value (.pointer (some ⟨b, 1, none⟩))) w := by
  simp only [execOp, ho, hx]
  go_simp
theorem k_fieldNth0 (ho : o.op = .fieldAddr 55 x 0) (hx : ρ x = .pointer (some ⟨b, 0, none⟩)) : (execOp ρ o).run Tryz.prog w = .ok (.value (.pointer (some ⟨b, 0, none⟩))) w := by
  simp only [execOp, ho, hx]
  go_simp
theorem k_fieldNth1 (ho : o.op = .fieldAddr 55 x 1) (hx : ρ x = .pointer (some ⟨b, 0, none⟩)) : (execOp ρ o).run Tryz.prog w = .ok (.value (.pointer (some ⟨b, 1, none⟩))) w := by
  simp only [execOp, ho, hx]
  go_simp
theorem k_loadB (ho : o.op = .load 5 x) (hx : ρ x = .pointer (some ad)) (hc : w.cell? ad = some (.int .u8 m)) : (execOp ρ o).run Tryz.prog w = .ok (.value (.int .u8 m)) w := by
  simp only [execOp, ho, hx]
  go_simp
theorem k_loadH (ho : o.op = .load 22 x) (hx : ρ x = .pointer (some ad)) (hc : w.cell? ad = some (.int .u16 m)) : (execOp ρ o).run Tryz.prog w = .ok (.value (.int .u16 m)) w := by
  simp only [execOp, ho, hx]
  go_simp
theorem k_loadQ (ho : o.op = .load 23 x) (hx : ρ x = .pointer (some ad)) (hc : w.cell? ad = some (.int .u32 m)) : (execOp ρ o).run Tryz.prog w = .ok (.value (.int .u32 m)) w := by
  simp only [execOp, ho, hx]
  go_simp
theorem k_loadC (ho : o.op = .load 58 x) (hx : ρ x = .pointer (some ad)) (hc : w.cell? ad = some (.int .i8 m)) : (execOp ρ o).run Tryz.prog w = .ok (.value (.int .i8 m)) w := by
  simp only [execOp, ho, hx]
  go_simp
theorem k_loadS (ho : o.op = .load 65 x) (hx : ρ x = .pointer (some ad)) (hc : w.cell? ad = some (.int .i16 m)) : (execOp ρ o).run Tryz.prog w = .ok (.value (.int .i16 m)) w := by
  simp only [execOp, ho, hx]
  go_simp
theorem k_loadLB (ho : o.op = .load 24 x) (hx : ρ x = .pointer (some ad)) (hc : w.cell? ad = some (.slice A n c)) : (execOp ρ o).run Tryz.prog w = .ok (.value (.slice A n c)) w := by
  simp only [execOp, ho, hx]
  go_simp
theorem k_lenB (ho : o.op = .call ⟨.builtin .len, #[x], #[24]⟩) (hx : ρ x = .slice A n c) : (execOp ρ o).run Tryz.prog w = .ok (.value (.int .i64 n)) w := by
  simp only [execOp, ho]
  go_simp
theorem k_atB (ho : o.op = .indexAddr 24 x y) (hx : ρ x = .slice (some ad) k c) (hy : ρ y = .int .i64 i) (hi : i < k) : (execOp ρ o).run Tryz.prog w = .ok (.value (.pointer (some (ad.add i)))) w := by
  simp only [execOp, ho]
  go_simp
theorem k_loadLC (ho : o.op = .load 25 x) (hx : ρ x = .pointer (some ad)) (hc : w.cell? ad = some (.slice A n c)) : (execOp ρ o).run Tryz.prog w = .ok (.value (.slice A n c)) w := by
  simp only [execOp, ho, hx]
  go_simp
theorem k_lenC (ho : o.op = .call ⟨.builtin .len, #[x], #[25]⟩) (hx : ρ x = .slice A n c) : (execOp ρ o).run Tryz.prog w = .ok (.value (.int .i64 n)) w := by
  simp only [execOp, ho]
  go_simp
theorem k_atC (ho : o.op = .indexAddr 25 x y) (hx : ρ x = .slice (some ad) k c) (hy : ρ y = .int .i64 i) (hi : i < k) : (execOp ρ o).run Tryz.prog w = .ok (.value (.pointer (some (ad.add i)))) w := by
  simp only [execOp, ho]
  go_simp
theorem k_loadLK (ho : o.op = .load 26 x) (hx : ρ x = .pointer (some ad)) (hc : w.cell? ad = some (.slice A n c)) : (execOp ρ o).run Tryz.prog w = .ok (.value (.slice A n c)) w := by
  simp only [execOp, ho, hx]
  go_simp
theorem k_lenK (ho : o.op = .call ⟨.builtin .len, #[x], #[26]⟩) (hx : ρ x = .slice A n c) : (execOp ρ o).run Tryz.prog w = .ok (.value (.int .i64 n)) w := by
  simp only [execOp, ho]
  go_simp
theorem k_atK (ho : o.op = .indexAddr 26 x y) (hx : ρ x = .slice (some ad) k c) (hy : ρ y = .int .i64 i) (hi : i < k) : (execOp ρ o).run Tryz.prog w = .ok (.value (.pointer (some (ad.add (i * 2))))) w := by
  simp only [execOp, ho]
  go_simp
theorem k_loadLS (ho : o.op = .load 27 x) (hx : ρ x = .pointer (some ad)) (hc : w.cell? ad = some (.slice A n c)) : (execOp ρ o).run Tryz.prog w = .ok (.value (.slice A n c)) w := by
  simp only [execOp, ho, hx]
  go_simp
theorem k_lenS (ho : o.op = .call ⟨.builtin .len, #[x], #[27]⟩) (hx : ρ x = .slice A n c) : (execOp ρ o).run Tryz.prog w = .ok (.value (.int .i64 n)) w := by
  simp only [execOp, ho]
  go_simp
theorem k_atS (ho : o.op = .indexAddr 27 x y) (hx : ρ x = .slice (some ad) k c) (hy : ρ y = .int .i64 i) (hi : i < k) : (execOp ρ o).run Tryz.prog w = .ok (.value (.pointer (some (ad.add i)))) w := by
  simp only [execOp, ho]
  go_simp
theorem k_loadKs (ho : o.op = .load 61 x) (hx : ρ x = .pointer (some ad)) (h0 : w.cell? ad = some (.int .i8 m)) (h1 : w.cell? (ad.add 1) = some (.int .u8 p)) : (execOp ρ o).run Tryz.prog w = .ok (.value (.agg #[.int .i8 m, .int .u8 p])) w := by
  have h1' : w.cell? ⟨ad.block, ad.off + 1, none⟩ = some (.int .u8 p) := by simpa [Addr.add] using h1
  simp only [execOp, ho, hx]
  go_simp
theorem k_loadNs (ho : o.op = .load 55 x) (hx : ρ x = .pointer (some ⟨b, 0, none⟩)) (h : Blk w b 55 #[.int .i64 m, .int .i64 p]) : (execOp ρ o).run Tryz.prog w = .ok (.value (.agg #[.int .i64 m, .int .i64 p])) w := by
  have h0 := h.cell 0
  have h1 := h.cell 1
  simp only [execOp, ho, hx]
  go_simp
theorem k_box9 {cs : Array Value} (ho : o.op = .box 29 x) (hx : ρ x = .agg cs) : (execOp ρ o).run Tryz.prog w = .ok (.value (.pointer (some ⟨w.heap.size, 0, none⟩))) (w.alloc (.cells cs 29)) := by
  simp only [execOp, ho, hx]
  go_simp
theorem k_allocK (ho : o.op = .alloc 61) : (execOp ρ o).run Tryz.prog w = .ok (.value (.pointer (some ⟨w.heap.size, 0, none⟩))) (w.alloc (.cells #[.int .i8 0, .int .u8 0] 61)) := by
  simp only [execOp, ho]
  go_simp
theorem k_allocN (ho : o.op = .alloc 55) : (execOp ρ o).run Tryz.prog w = .ok (.value (.pointer (some ⟨w.heap.size, 0, none⟩))) (w.alloc (.cells #[.int .i64 0, .int .i64 0] 55)) := by
  simp only [execOp, ho]
  go_simp
theorem k_storeS2 {T : TypeId} {old cs : Array Value} (ho : o.op = .store T x y) (hx : ρ x = .pointer (some ⟨b, 0, none⟩)) (hy : ρ y = .agg cs) (hb : Blk w b T old) (hT : (Tryz.prog.info? T).map (·.size) = some 2) (h8 : cs.size = 2) (ho8 : old.size = 2) (h1 : cs.all (·.oneCell') = true) :
    (execOp ρ o).run Tryz.prog w = .ok .skip (w.setRow b cs) := by
  have hr := run_storeVar_row (P := Tryz.prog) w b T T old cs hb (by rw [h8]; exact hT) (by rw [ho8, h8]) h1
  simp only [execOp, ho, hx, hy, Instr.storeAt, Instr.sureAddr, Sem.run_bind, Sem.run_pure, Result.andThen_ok, hr]
theorem k_slice4 {z1 z2 z3 z4 : Operand} {m1 m2 m3 m4 : Int} (ho : o.op = .buildSlice 33 4 #[(0, z1), (1, z2), (2, z3), (3, z4)]) (h1 : ρ z1 = .int .i64 m1) (h2 : ρ z2 = .int .i64 m2) (h3 : ρ z3 = .int .i64 m3) (h4 : ρ z4 = .int .i64 m4) :
    (execOp ρ o).run Tryz.prog w = .ok (.value (.slice (some ⟨w.heap.size, 0, none⟩) 4 4)) (w.alloc (.cells #[.int .i64 m1, .int .i64 m2, .int .i64 m3, .int .i64 m4] 3)) := by
  simp only [execOp, ho]
  go_simp
theorem k_atB' (ho : o.op = .indexAddr 33 x y) (hx : ρ x = .slice (some ⟨b, 0, none⟩) k c) (hy : ρ y = .int .u8 i) (hi : i < k) : (execOp ρ o).run Tryz.prog w = .ok (.value (.pointer (some ⟨b, i, none⟩))) w := by
  simp only [execOp, ho]
  go_simp
end
end Go.Proofs.YtocpmljkmdpfkaaGreatDoor
