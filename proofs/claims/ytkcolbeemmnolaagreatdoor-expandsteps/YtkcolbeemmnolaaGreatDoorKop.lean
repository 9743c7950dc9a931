/-
  The law's Awake (chapter 2's example).
-/
import Derived.Test.YtkcolbeemmnolaaGreatDoorApp
namespace Go.Proofs.YtkcolbeemmnolaaGreatDoor
open Go.RowKit

theorem ints_nil (w : World) (A : Option Addr) : IntsIn w A [] := fun k h => absurd h (Nat.not_lt_zero k)
theorem nths_nil (w : World) (A : Option Addr) : NthsIn w A [] := fun k h => absurd h (Nat.not_lt_zero k)
theorem chk_a : Rul.check 1 1 0 0 [] [1] [] [] = 6 := by
  have e0 : ∀ {α : Type} (p : α → Bool) (c : α → α → Int), Rul.chkL p c [] = 0 := fun p c => by simp [Rul.chkL, Rul.step_end]
  have e1 : Rul.chkL Rul.inD Rul.cmpI [1] = 0 := by
    rw [Rul.chkL_short (by simp), Rul.step_first (by simp) (by decide), Rul.step_end (by simp)]
  simp [Rul.check, Rul.noFreq, Rul.nums, Rul.badNum, Rul.btw, Rul.lists, Rul.odd, e0, e1]
theorem chk_b : Rul.check 0 1 0 0 [] [] [] [] = 0 := by
  have e0 : ∀ {α : Type} (p : α → Bool) (c : α → α → Int), Rul.chkL p c [] = 0 := fun p c => by simp [Rul.chkL, Rul.step_end]
  simp [Rul.check, Rul.noFreq, Rul.nums, Rul.badNum, Rul.btw, Rul.lists, Rul.odd, e0]
theorem lists_nil (w : World) : ListsIn w none none none none [] [] [] [] :=
  ⟨ints_nil _ _, ints_nil _ _, nths_nil _ _, ints_nil _ _, by decide, by decide, by decide, by decide⟩
theorem lists_one (w : World) (b : Nat) (x : Int) (hb : b < w.heap.size) (hc : w.cell? ⟨b, 0, none⟩ = some (.int .i64 x)) : ListsIn w none (some ⟨b, 0, none⟩) none none [] [x] [] [] :=
  ⟨ints_nil _ _, fun k h => by
    obtain rfl : k = 0 := by simpa using h
    exact ⟨_, rfl, hb, hc⟩, nths_nil _ _, ints_nil _ _, by decide, by simp [maxLen], by decide, by decide⟩

set_option maxHeartbeats 1000000 in
theorem awake2 (w : World) (hM : Months w) : Calls Tryz.prog 43 #[] w fun e w' => e = .returned (.bool true) ∧ Below w.heap.size w w' := by
  go_enter Tryz.func43, Tryz.ntmps43
  go_wp2_with fail
  refine (awake _ hM).mono ?_
  rintro e w1 ⟨rfl, b1⟩
  go_wp2_with fail
  refine (check_any 1 1 0 0 none (some ⟨w1.heap.size, 0, none⟩) none none 0 1 0 0 [] [1] [] [] _ ?hl).mono ?_
  case hl =>
    refine lists_one _ _ 1 ?_ ?_
    · simp; omega
    · first | (simp; done) | (go_simp; done)
  rintro e w2 ⟨rfl, b2⟩
  rw [chk_a]
  have B2 : Below w1.heap.size w1 w2 := ((((Below.refl _ _).alloc (Nat.le_refl _) _).alloc (by simp) _).alloc (by simp; omega) _).trans (b2.mono (by simp; omega))
  have cs : ∀ i, w2.cell? ⟨w1.heap.size + 1 + 1, i, none⟩ = _ := fun i => b2.cell (p := ⟨w1.heap.size + 1 + 1, i, none⟩) (by simp)
  clear b2
  go_wp2_with fail
  refine (check_any 0 1 0 0 none none none none 0 0 0 0 [] [] [] [] _ (lists_nil _)).mono ?_
  rintro e w3 ⟨rfl, b3⟩
  rw [chk_b]
  go_wp2
  go_ret
  exact ⟨rfl, b1.trans ((B2.trans (b3.mono B2.size)).mono b1.size)⟩
end Go.Proofs.YtkcolbeemmnolaaGreatDoor
/-
  A rule in a block of the call's own: made, stored whole, loaded; calls known by their text.
-/
namespace Go.Proofs.YtkcolbeemmnolaaGreatDoor
open Go.RowKit
theorem Blk.rule {w : World} {b : Nat} {f iv c u : Int} {sM sD sW sP : Value} (h : Blk w b 36 #[.int .i64 f, .int .i64 iv, .int .i64 c, .int .i64 u, sM, sD, sW, sP]) : RuleAt w b f iv c u sM sD sW sP :=
  ⟨h.lt, h.cell 0, h.cell 1, h.cell 2, h.cell 3, h.cell 4, h.cell 5, h.cell 6, h.cell 7⟩
theorem Blk.setRow {w : World} {b : Nat} {t : TypeId} {old cs : Array Value} (h : Blk w b t old) : Blk (w.setRow b cs) b t cs := setRow_heap w b old cs t _ h
theorem exc_setRow (w : World) (b : Nat) (cs : Array Value) (B : Nat) : Exc B b w (w.setRow b cs) :=
  ⟨rfl, rfl, rfl, by simp, fun k _ hk => setRow_other w b k _ hk⟩
section
variable {w : World} {ρ : Operand → Value} {o : Oper} {x y z : Operand} {b : Nat} {v u : Value}
theorem k_allocR (ho : o.op = .alloc 36) :
    (execOp ρ o).run Tryz.prog w = .ok (.value (.pointer (some ⟨w.heap.size, 0, none⟩))) (w.alloc (.cells #[.int .i64 0, .int .i64 0, .int .i64 0, .int .i64 0, .slice none 0 0, .slice none 0 0, .slice none 0 0, .slice none 0 0] 36)) := by
  simp only [execOp, ho]
  go_simp
theorem k_storeR {old cs : Array Value} (ho : o.op = .store 36 x y) (hx : ρ x = .pointer (some ⟨b, 0, none⟩)) (hy : ρ y = .agg cs) (hb : Blk w b 36 old) (h8 : cs.size = 8) (ho8 : old.size = 8) (h1 : cs.all (·.oneCell') = true) :
    (execOp ρ o).run Tryz.prog w = .ok .skip (w.setRow b cs) := by
  have hr := run_storeVar_row (P := Tryz.prog) w b 36 36 old cs hb (by rw [h8]; kernel_rfl) (by rw [ho8, h8]) h1
  simp only [execOp, ho, hx, hy, Instr.storeAt, Instr.sureAddr, Sem.run_bind, Sem.run_pure, Result.andThen_ok, hr]
theorem k_buildR3 {f iv : Int} {A : Option Addr} {n c : Nat} (ho : o.op = .build 36 #[(0, x), (1, y), (4, z)]) (hx : ρ x = .int .i64 f) (hy : ρ y = .int .i64 iv) (hz : ρ z = .slice A n c) :
    (execOp ρ o).run Tryz.prog w = .ok (.value (.agg #[.int .i64 f, .int .i64 iv, .int .i64 0, .int .i64 0, .slice A n c, .slice none 0 0, .slice none 0 0, .slice none 0 0])) w := by
  simp only [execOp, ho]
  go_simp
theorem k_buildR2 {f iv : Int} (ho : o.op = .build 36 #[(0, x), (1, y)]) (hx : ρ x = .int .i64 f) (hy : ρ y = .int .i64 iv) :
    (execOp ρ o).run Tryz.prog w = .ok (.value (.agg #[.int .i64 f, .int .i64 iv, .int .i64 0, .int .i64 0, .slice none 0 0, .slice none 0 0, .slice none 0 0, .slice none 0 0])) w := by
  simp only [execOp, ho]
  go_simp
theorem k_callAwake (ho : o.op = .call ⟨.value (.func 43), #[], #[]⟩) (hf : ρ (.func 43) = .func (.func 43) #[] #[]) : (execOp ρ o).run Tryz.prog w = .ok (.enter 43 #[]) w := by
  simp only [execOp, ho]
  go_simp
end
theorem wrap_small {n : Int} (h1 : -9223372036854775808 ≤ n) (h2 : n ≤ 9223372036854775807) : IntKind.i64.wrap n = n := by
  unfold IntKind.wrap
  simp [IntKind.bits, IntKind.signed]
  omega
theorem awake2' (w : World) (hM : Months w) : Calls Tryz.prog 43 #[] w fun e w' => ∃ v, e = .returned v ∧ v = .bool true ∧ Below w.heap.size w w' :=
  (awake2 w hM).mono fun _ _ h => ⟨_, h.1, rfl, h.2⟩
end Go.Proofs.YtkcolbeemmnolaaGreatDoor
/-
  Operations on numbers, known by their text: what each answers.
-/
namespace Go.Proofs.YtkcolbeemmnolaaGreatDoor
open Go.RowKit
section
variable {w : World} {ρ : Operand → Value} {o : Oper} {x y : Operand} {n m r : Int} {q : Bool}
theorem o_addI (ho : o.op = .binOp .add 3 x y 3) (hx : ρ x = .int .i64 n) (hy : ρ y = .int .i64 m) (hr : IntKind.i64.wrap (n + m) = r) : (execOp ρ o).run Tryz.prog w = .ok (.value (.int .i64 r)) w := by
  subst hr
  simp only [execOp, ho, hx, hy]
  go_simp
theorem o_subI (ho : o.op = .binOp .sub 3 x y 3) (hx : ρ x = .int .i64 n) (hy : ρ y = .int .i64 m) (hr : IntKind.i64.wrap (n - m) = r) : (execOp ρ o).run Tryz.prog w = .ok (.value (.int .i64 r)) w := by
  subst hr
  simp only [execOp, ho, hx, hy]
  go_simp
theorem o_mulI (ho : o.op = .binOp .mul 3 x y 3) (hx : ρ x = .int .i64 n) (hy : ρ y = .int .i64 m) (hr : IntKind.i64.wrap (n * m) = r) : (execOp ρ o).run Tryz.prog w = .ok (.value (.int .i64 r)) w := by
  subst hr
  simp only [execOp, ho, hx, hy]
  go_simp
theorem o_addU (ho : o.op = .binOp .add 32 x y 32) (hx : ρ x = .int .i64 n) (hy : ρ y = .int .i64 m) (hr : IntKind.i64.wrap (n + m) = r) : (execOp ρ o).run Tryz.prog w = .ok (.value (.int .i64 r)) w := by
  subst hr
  simp only [execOp, ho, hx, hy]
  go_simp
theorem o_remI (ho : o.op = .binOp .rem 3 x y 3) (hx : ρ x = .int .i64 n) (hy : ρ y = .int .i64 m) (hm : m ≠ 0) (hr : n.tmod m = r) : (execOp ρ o).run Tryz.prog w = .ok (.value (.int .i64 r)) w := by
  subst hr
  simp only [execOp, ho, hx, hy]
  go_simp
theorem o_quoI (ho : o.op = .binOp .quo 3 x y 3) (hx : ρ x = .int .i64 n) (hy : ρ y = .int .i64 m) (hm : m ≠ 0) (hr : IntKind.i64.wrap (n.tdiv m) = r) : (execOp ρ o).run Tryz.prog w = .ok (.value (.int .i64 r)) w := by
  subst hr
  simp only [execOp, ho, hx, hy]
  go_simp
theorem o_remB (ho : o.op = .binOp .rem 5 x y 5) (hx : ρ x = .int .u8 n) (hy : ρ y = .int .u8 m) (hm : m ≠ 0) (hr : n.tmod m = r) : (execOp ρ o).run Tryz.prog w = .ok (.value (.int .u8 r)) w := by
  subst hr
  simp only [execOp, ho, hx, hy]
  go_simp
theorem o_remQ (ho : o.op = .binOp .rem 23 x y 23) (hx : ρ x = .int .u32 n) (hy : ρ y = .int .u32 m) (hm : m ≠ 0) (hr : n.tmod m = r) : (execOp ρ o).run Tryz.prog w = .ok (.value (.int .u32 r)) w := by
  subst hr
  simp only [execOp, ho, hx, hy]
  go_simp
theorem o_ltI (ho : o.op = .binOp .lss 3 x y 3) (hx : ρ x = .int .i64 n) (hy : ρ y = .int .i64 m) (hr : (decide (n < m)) = q) : (execOp ρ o).run Tryz.prog w = .ok (.value (.bool q)) w := by
  subst hr
  simp only [execOp, ho, hx, hy]
  go_simp
theorem o_gtI (ho : o.op = .binOp .gtr 3 x y 3) (hx : ρ x = .int .i64 n) (hy : ρ y = .int .i64 m) (hr : (decide (m < n)) = q) : (execOp ρ o).run Tryz.prog w = .ok (.value (.bool q)) w := by
  subst hr
  simp only [execOp, ho, hx, hy]
  go_simp
theorem o_eqI (ho : o.op = .binOp .eql 3 x y 3) (hx : ρ x = .int .i64 n) (hy : ρ y = .int .i64 m) (hr : (n == m) = q) : (execOp ρ o).run Tryz.prog w = .ok (.value (.bool q)) w := by
  subst hr
  simp only [execOp, ho, hx, hy]
  go_simp
theorem o_neI (ho : o.op = .binOp .neq 3 x y 3) (hx : ρ x = .int .i64 n) (hy : ρ y = .int .i64 m) (hr : (n != m) = q) : (execOp ρ o).run Tryz.prog w = .ok (.value (.bool q)) w := by
  subst hr
  simp only [execOp, ho, hx, hy]
  go_simp
theorem o_ltB (ho : o.op = .binOp .lss 5 x y 5) (hx : ρ x = .int .u8 n) (hy : ρ y = .int .u8 m) (hr : (decide (n < m)) = q) : (execOp ρ o).run Tryz.prog w = .ok (.value (.bool q)) w := by
  subst hr
  simp only [execOp, ho, hx, hy]
  go_simp
theorem o_gtB (ho : o.op = .binOp .gtr 5 x y 5) (hx : ρ x = .int .u8 n) (hy : ρ y = .int .u8 m) (hr : (decide (m < n)) = q) : (execOp ρ o).run Tryz.prog w = .ok (.value (.bool q)) w := by
  subst hr
  simp only [execOp, ho, hx, hy]
  go_simp
theorem o_eqB (ho : o.op = .binOp .eql 5 x y 5) (hx : ρ x = .int .u8 n) (hy : ρ y = .int .u8 m) (hr : (n == m) = q) : (execOp ρ o).run Tryz.prog w = .ok (.value (.bool q)) w := by
  subst hr
  simp only [execOp, ho, hx, hy]
  go_simp
theorem o_neB (ho : o.op = .binOp .neq 5 x y 5) (hx : ρ x = .int .u8 n) (hy : ρ y = .int .u8 m) (hr : (n != m) = q) : (execOp ρ o).run Tryz.prog w = .ok (.value (.bool q)) w := by
  subst hr
  simp only [execOp, ho, hx, hy]
  go_simp
theorem o_ltF (ho : o.op = .binOp .lss 31 x y 31) (hx : ρ x = .int .i64 n) (hy : ρ y = .int .i64 m) (hr : (decide (n < m)) = q) : (execOp ρ o).run Tryz.prog w = .ok (.value (.bool q)) w := by
  subst hr
  simp only [execOp, ho, hx, hy]
  go_simp
theorem o_gtF (ho : o.op = .binOp .gtr 31 x y 31) (hx : ρ x = .int .i64 n) (hy : ρ y = .int .i64 m) (hr : (decide (m < n)) = q) : (execOp ρ o).run Tryz.prog w = .ok (.value (.bool q)) w := by
  subst hr
  simp only [execOp, ho, hx, hy]
  go_simp
theorem o_eqF (ho : o.op = .binOp .eql 31 x y 31) (hx : ρ x = .int .i64 n) (hy : ρ y = .int .i64 m) (hr : (n == m) = q) : (execOp ρ o).run Tryz.prog w = .ok (.value (.bool q)) w := by
  subst hr
  simp only [execOp, ho, hx, hy]
  go_simp
theorem o_neF (ho : o.op = .binOp .neq 31 x y 31) (hx : ρ x = .int .i64 n) (hy : ρ y = .int .i64 m) (hr : (n != m) = q) : (execOp ρ o).run Tryz.prog w = .ok (.value (.bool q)) w := by
  subst hr
  simp only [execOp, ho, hx, hy]
  go_simp
theorem o_convBI (ho : o.op = .convert 5 3 x) (hx : ρ x = .int .u8 n) (hr : IntKind.i64.wrap n = r) : (execOp ρ o).run Tryz.prog w = .ok (.value (.int .i64 r)) w := by
  subst hr
  simp only [execOp, ho, hx]
  go_simp
theorem o_convBF (ho : o.op = .convert 5 31 x) (hx : ρ x = .int .u8 n) (hr : IntKind.i64.wrap n = r) : (execOp ρ o).run Tryz.prog w = .ok (.value (.int .i64 r)) w := by
  subst hr
  simp only [execOp, ho, hx]
  go_simp
theorem o_convHI (ho : o.op = .convert 22 3 x) (hx : ρ x = .int .u16 n) (hr : IntKind.i64.wrap n = r) : (execOp ρ o).run Tryz.prog w = .ok (.value (.int .i64 r)) w := by
  subst hr
  simp only [execOp, ho, hx]
  go_simp
theorem o_convQU (ho : o.op = .convert 23 32 x) (hx : ρ x = .int .u32 n) (hr : IntKind.i64.wrap n = r) : (execOp ρ o).run Tryz.prog w = .ok (.value (.int .i64 r)) w := by
  subst hr
  simp only [execOp, ho, hx]
  go_simp
theorem o_convCI (ho : o.op = .convert 55 3 x) (hx : ρ x = .int .i8 n) (hr : IntKind.i64.wrap n = r) : (execOp ρ o).run Tryz.prog w = .ok (.value (.int .i64 r)) w := by
  subst hr
  simp only [execOp, ho, hx]
  go_simp
theorem o_convSI (ho : o.op = .convert 64 3 x) (hx : ρ x = .int .i16 n) (hr : IntKind.i64.wrap n = r) : (execOp ρ o).run Tryz.prog w = .ok (.value (.int .i64 r)) w := by
  subst hr
  simp only [execOp, ho, hx]
  go_simp
theorem o_not {b : Bool} (ho : o.op = .unOp .not 4 x) (hx : ρ x = .bool b) (hr : (!b) = q) : (execOp ρ o).run Tryz.prog w = .ok (.value (.bool q)) w := by
  subst hr
  simp only [execOp, ho, hx]
  go_simp
end
end Go.Proofs.YtkcolbeemmnolaaGreatDoor
namespace Go.Proofs.YtkcolbeemmnolaaGreatDoor
open Go.RowKit
section
variable {w : World} {ρ : Operand → Value} {o : Oper} {x y : Operand} {v u : Value}
theorem c_Contains (ho : o.op = .call ⟨.value (.func 37), #[x, y], #[33, 3]⟩) (hf : ρ (.func 37) = .func (.func 37) #[] #[]) (hx : ρ x = v) (hy : ρ y = u) : (execOp ρ o).run Tryz.prog w = .ok (.enter 37 #[v, u]) w := by
  simp only [execOp, ho]
  go_simp
theorem c_Sort (ho : o.op = .call ⟨.value (.func 14), #[x], #[33]⟩) (hf : ρ (.func 14) = .func (.func 14) #[] #[]) (hx : ρ x = v) : (execOp ρ o).run Tryz.prog w = .ok (.enter 14 #[v]) w := by
  simp only [execOp, ho]
  go_simp
theorem c_Compact (ho : o.op = .call ⟨.value (.func 15), #[x], #[33]⟩) (hf : ρ (.func 15) = .func (.func 15) #[] #[]) (hx : ρ x = v) : (execOp ρ o).run Tryz.prog w = .ok (.enter 15 #[v]) w := by
  simp only [execOp, ho]
  go_simp
theorem c_Few (ho : o.op = .call ⟨.value (.func 16), #[x, y], #[33, 3]⟩) (hf : ρ (.func 16) = .func (.func 16) #[] #[]) (hx : ρ x = v) (hy : ρ y = u) : (execOp ρ o).run Tryz.prog w = .ok (.enter 16 #[v, u]) w := by
  simp only [execOp, ho]
  go_simp
theorem c_ContainsN (ho : o.op = .call ⟨.value (.func 17), #[x, y], #[34, 60]⟩) (hf : ρ (.func 17) = .func (.func 17) #[] #[]) (hx : ρ x = v) (hy : ρ y = u) : (execOp ρ o).run Tryz.prog w = .ok (.enter 17 #[v, u]) w := by
  simp only [execOp, ho]
  go_simp
theorem c_SortN (ho : o.op = .call ⟨.value (.func 18), #[x, y], #[34, 63]⟩) (hf : ρ (.func 18) = .func (.func 18) #[] #[]) (hx : ρ x = v) (hy : ρ y = u) : (execOp ρ o).run Tryz.prog w = .ok (.enter 18 #[v, u]) w := by
  simp only [execOp, ho]
  go_simp
theorem c_Make (ho : o.op = .call ⟨.value (.func 6), #[x], #[29]⟩) (hf : ρ (.func 6) = .func (.func 6) #[] #[]) (hx : ρ x = v) : (execOp ρ o).run Tryz.prog w = .ok (.enter 6 #[v]) w := by
  simp only [execOp, ho]
  go_simp
theorem c_Light (ho : o.op = .call ⟨.value (.func 5), #[x], #[29]⟩) (hf : ρ (.func 5) = .func (.func 5) #[] #[]) (hx : ρ x = v) : (execOp ρ o).run Tryz.prog w = .ok (.enter 5 #[v]) w := by
  simp only [execOp, ho]
  go_simp
theorem c_Lists (ho : o.op = .call ⟨.value (.func 115), #[x], #[36]⟩) (hf : ρ (.func 115) = .func (.func 115) #[] #[]) (hx : ρ x = v) : (execOp ρ o).run Tryz.prog w = .ok (.enter 115 #[v]) w := by
  simp only [execOp, ho]
  go_simp
end
end Go.Proofs.YtkcolbeemmnolaaGreatDoor
