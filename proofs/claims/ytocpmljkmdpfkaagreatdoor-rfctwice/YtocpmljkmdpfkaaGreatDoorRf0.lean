/-
  The tables that rfc reads; the operations on texts, known by their text.
-/
import Derived.Test.YtocpmljkmdpfkaaGreatDoorMemR
import Derived.Test.YtocpmljkmdpfkaaGreatDoorKop
import Derived.Test.YtocpmljkmdpfkaaGreatDoorKmk
import Derived.Test.YtocpmljkmdpfkaaGreatDoorRfcM
import Derived.Lib.SmallJoins
import Derived.Shelf.Strconv.Itoa3
namespace Go.Proofs.YtocpmljkmdpfkaaGreatDoor
open Go.RowKit Go.Sort
/-- what the package-level variables hold -/
structure Tabs (w : World) : Prop where
  mon : Months w
  pn : ∀ i, i < 8 → w.cell? ⟨0, i, none⟩ = some (.string ⟨(Rfc.nm i).toArray⟩)
  fq : ∀ i, i < 4 → w.cell? ⟨3, i, none⟩ = some (.string ⟨(Rfc.fq i).toArray⟩)
  wd : ∀ i, i < 7 → w.cell? ⟨4, i, none⟩ = some (.string ⟨(Rfc.wd i).toArray⟩)
  pow : Lib.TabIs Tryz.prog w "internal/strconv.uint64pow10" .u64 Lib.pow10Tab
  max : ∃ m : Int, w.cell? ⟨5, 0, none⟩ = some (.int .i64 m)
  eS : ∃ v, w.cell? ⟨8, 0, none⟩ = some v ∧ (v = .nilIface ∨ ∃ te pe, v = .iface te pe)
  eR : ∃ v, w.cell? ⟨9, 0, none⟩ = some v ∧ (v = .nilIface ∨ ∃ te pe, v = .iface te pe)
theorem cell_stays {w w' : World} {p : Addr} {v : Value} (h : w.cell? p = some v) (b : Below w.heap.size w w') : w'.cell? p = some v :=
  (b.cell (World.block_lt_of_cell? _ _ h)).trans h
theorem Tabs.below {w w' : World} (h : Tabs w) (b : Below w.heap.size w w') : Tabs w' where
  mon := h.mon.grown b
  pn i hi := cell_stays (h.pn i hi) b
  fq i hi := cell_stays (h.fq i hi) b
  wd i hi := cell_stays (h.wd i hi) b
  pow := Go.Joins.tab_stays (g := 7) (by kernel_rfl) h.pow b (Nat.le_refl _)
  max := by obtain ⟨m, hm⟩ := h.max; exact ⟨m, cell_stays hm b⟩
  eS := by obtain ⟨v, hv, e⟩ := h.eS; exact ⟨v, cell_stays hv b, e⟩
  eR := by obtain ⟨v, hv, e⟩ := h.eR; exact ⟨v, cell_stays hv b, e⟩
theorem below_grow {w : World} {k : Nat} {os : Array Obj} : Below w.heap.size w (grow (w.drewN k) os) :=
  ⟨rfl, rfl, rfl, by simp, fun i hi => Go.Sort.heap_grow_old _ _ (by simpa using hi)⟩
section
variable {w : World} {ρ : Operand → Value} {o : Oper} {x y : Operand} {b i n k c : Nat} {m p q : Int} {A : Option Addr} {ad : Addr} {v : Value} {s t : ByteArray} {r : Bool}
theorem k_loadStr (ho : o.op = .load 9 x) (hx : ρ x = .pointer (some ad)) (hc : w.cell? ad = some (.string s)) : (execOp ρ o).run Tryz.prog w = .ok (.value (.string s)) w := by
  simp only [execOp, ho, hx]
  go_simp
theorem o_addStr {u : ByteArray} (ho : o.op = .binOp .add 9 x y 9) (hx : ρ x = .string s) (hy : ρ y = .string t) (hl : s.size + t.size ≤ 1000000) (hu : s ++ t = u) : (execOp ρ o).run Tryz.prog w = .ok (.value (.string u)) w := by
  subst hu
  simp only [execOp, ho, hx, hy]
  go_simp
  omega
theorem k_wdAt (ho : o.op = .indexAddr 156 (.global 4) y) (hg : ρ (.global 4) = .pointer (some ⟨4, 0, none⟩)) (hy : ρ y = .int .i64 i) (hi : i < 7) : (execOp ρ o).run Tryz.prog w = .ok (.value (.pointer (some ⟨4, i, none⟩))) w := by
  simp only [execOp, ho]
  go_simp
  intro h
  omega
theorem k_fqAt (ho : o.op = .indexAddr 103 (.global 3) y) (hg : ρ (.global 3) = .pointer (some ⟨3, 0, none⟩)) (hy : ρ y = .int .i64 i) (hi : i < 4) : (execOp ρ o).run Tryz.prog w = .ok (.value (.pointer (some ⟨3, i, none⟩))) w := by
  simp only [execOp, ho]
  go_simp
  intro h
  omega
theorem o_neStr (ho : o.op = .binOp .neq 9 x y 9) (hx : ρ x = .string s) (hy : ρ y = .string t) (hr : (s.toList != t.toList) = r) : (execOp ρ o).run Tryz.prog w = .ok (.value (.bool r)) w := by
  subst hr
  simp only [execOp, ho, hx, hy]
  go_simp
  simp [bne]
end
end Go.Proofs.YtocpmljkmdpfkaaGreatDoor
