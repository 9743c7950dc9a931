/-
  Texts read: the names of parts and periods, numbers.
-/
import Derived.Test.YtocpmljkmdpfkaaGreatDoorRf4
namespace Go.Proofs.YtocpmljkmdpfkaaGreatDoor
open Go.RowKit
namespace Rfc
/-- the first of k names from the one at i on that is s -/
def idx (g : Nat → List UInt8) (s : List UInt8) : Nat → Nat → Option Nat
  | _, 0 => none
  | i, k + 1 => if g i = s then some i else idx g s (i + 1) k
def part (s : List UInt8) : Option Nat := idx nm s 0 8
def pfreq (s : List UInt8) : Option Nat := idx fq s 0 4
def pnum (s : List UInt8) : Option Int := match Lib.atoiAll s with
  | .ok v => if Lib.itoa v = s then some v else none
  | _ => none
def pnz (s : List UInt8) : Option Int := match pnum s with
  | some n => if n = 0 then none else some n
  | none => none
theorem idx_here {g : Nat → List UInt8} {s : List UInt8} {i n : Nat} (hi : i < n) (h : g i = s) : idx g s i (n - i) = some i := by
  rw [show n - i = (n - (i + 1)) + 1 by omega, idx, if_pos h]
theorem idx_next {g : Nat → List UInt8} {s : List UInt8} {i n : Nat} (hi : i < n) (h : g i ≠ s) : idx g s i (n - i) = idx g s (i + 1) (n - (i + 1)) := by
  rw [show n - i = (n - (i + 1)) + 1 by omega, idx, if_neg h]
theorem idx_end {g : Nat → List UInt8} {s : List UInt8} {n : Nat} : idx g s n (n - n) = none := by rw [Nat.sub_self, idx]
theorem pnum_ok {s : List UInt8} {v : Int} (h : Lib.atoiAll s = .ok v) : pnum s = if Lib.itoa v = s then some v else none := by simp [pnum, h]
theorem pnum_no {s : List UInt8} (h : ∀ v, Lib.atoiAll s ≠ .ok v) : pnum s = none := by
  unfold pnum
  split
  · rename_i v e; exact (h v e).elim
  · rfl
theorem atoi_bd {s : List UInt8} {v : Int} (h : Lib.atoiAll s = .ok v) : -9223372036854775808 ≤ v ∧ v ≤ 9223372036854775807 := by
  unfold Lib.atoiAll at h
  split at h
  · cases h
  · simp only at h
    split at h
    · cases h
    · cases h
    · split at h
      · cases h
      · split at h
        · cases h
        · rename_i h1 h2
          have e := Lib.NumEnd.ok.inj h
          split at e <;> omega
end Rfc
/-- a number read, or none -/
def ot (o : Option Nat) : Value := .tuple #[.int .i64 ((o.getD 0 : Nat) : Int), .bool o.isSome]
def ov (o : Option Int) : Value := .tuple #[.int .i64 (o.getD 0), .bool o.isSome]
theorem results2 {fn : Func} {t u : Tmp} (h : fn.results = #[.tmp t, .tmp u]) (tmps : Array Value) (P : Program) (w : World) : (results fn tmps).run P w = .ok (.tuple #[tmps.getD t undef, tmps.getD u undef]) w := by
  simp [results, h]
theorem bytes_below' (w : World) (e : TypeId) (q : ByteArray) : Below w.heap.size w (Lib.bytesWorld w e q) :=
  ⟨rfl, rfl, rfl, by rw [Lib.bytesWorld_size]; omega, fun k hk => Lib.bytesWorld_at_old w e q k hk⟩
section
variable {w : World} {ρ : Operand → Value} {o : Oper} {x y z : Operand} {v u r : Value} {n m : Int} {q : Bool} {i : Nat} {b b' : ByteArray}
theorem o_eqStr (ho : o.op = .binOp .eql 9 x y 9) (hx : ρ x = .string b) (hy : ρ y = .string b') (hr : (b.toList == b'.toList) = q) : (execOp ρ o).run Tryz.prog w = .ok (.value (.bool q)) w := by
  subst hr
  simp only [execOp, ho, hx, hy]
  go_simp
theorem k_extract {vs : Array Value} (ho : o.op = .extract x i) (hx : ρ x = .tuple vs) (hi : vs[i]? = some v) : (execOp ρ o).run Tryz.prog w = .ok (.value v) w := by
  simp only [execOp, ho, hx]
  go_simp
theorem o_neNil (ho : o.op = .binOp .neq 92 x (.const .nilIface) 92) (hx : ρ x = .nilIface) (hy : ρ (.const .nilIface) = .nilIface) : (execOp ρ o).run Tryz.prog w = .ok (.value (.bool false)) w := by
  simp only [execOp, ho, hx, hy]
  go_simp
theorem o_neErr {t : TypeId} {p : Value} (ho : o.op = .binOp .neq 92 x (.const .nilIface) 92) (hx : ρ x = .iface t p) (hy : ρ (.const .nilIface) = .nilIface) : (execOp ρ o).run Tryz.prog w = .ok (.value (.bool true)) w := by
  simp only [execOp, ho, hx, hy]
  go_simp
theorem c_Atoi (ho : o.op = .call ⟨.value (.func 76), #[x], #[9]⟩) (hf : ρ (.func 76) = .func (.func 76) #[] #[]) (hx : ρ x = v) : (execOp ρ o).run Tryz.prog w = .ok (.enter 76 #[v]) w := by
  simp only [execOp, ho]
  go_simp
theorem c_Itoa (ho : o.op = .call ⟨.value (.func 34), #[x], #[3]⟩) (hf : ρ (.func 34) = .func (.func 34) #[] #[]) (hx : ρ x = v) : (execOp ρ o).run Tryz.prog w = .ok (.enter 34 #[v]) w := by
  simp only [execOp, ho]
  go_simp
theorem c_pNum (ho : o.op = .call ⟨.value (.func 63), #[x], #[9]⟩) (hf : ρ (.func 63) = .func (.func 63) #[] #[]) (hx : ρ x = v) : (execOp ρ o).run Tryz.prog w = .ok (.enter 63 #[v]) w := by
  simp only [execOp, ho]
  go_simp
theorem idxFQ0 (w : World) : (Instr.index 103 (.agg #[.string ⟨(Rfc.fq 0).toArray⟩, .string ⟨(Rfc.fq 1).toArray⟩, .string ⟨(Rfc.fq 2).toArray⟩, .string ⟨(Rfc.fq 3).toArray⟩]) (.int .i64 0)).run Tryz.prog w = .ok (.string ⟨(Rfc.fq 0).toArray⟩) w := by kernel_rfl
theorem idxFQ1 (w : World) : (Instr.index 103 (.agg #[.string ⟨(Rfc.fq 0).toArray⟩, .string ⟨(Rfc.fq 1).toArray⟩, .string ⟨(Rfc.fq 2).toArray⟩, .string ⟨(Rfc.fq 3).toArray⟩]) (.int .i64 1)).run Tryz.prog w = .ok (.string ⟨(Rfc.fq 1).toArray⟩) w := by kernel_rfl
theorem idxFQ2 (w : World) : (Instr.index 103 (.agg #[.string ⟨(Rfc.fq 0).toArray⟩, .string ⟨(Rfc.fq 1).toArray⟩, .string ⟨(Rfc.fq 2).toArray⟩, .string ⟨(Rfc.fq 3).toArray⟩]) (.int .i64 2)).run Tryz.prog w = .ok (.string ⟨(Rfc.fq 2).toArray⟩) w := by kernel_rfl
theorem idxFQ3 (w : World) : (Instr.index 103 (.agg #[.string ⟨(Rfc.fq 0).toArray⟩, .string ⟨(Rfc.fq 1).toArray⟩, .string ⟨(Rfc.fq 2).toArray⟩, .string ⟨(Rfc.fq 3).toArray⟩]) (.int .i64 3)).run Tryz.prog w = .ok (.string ⟨(Rfc.fq 3).toArray⟩) w := by kernel_rfl
theorem idxFQ (i : Nat) (hi : i < 4) (w : World) : (Instr.index 103 (.agg #[.string ⟨(Rfc.fq 0).toArray⟩, .string ⟨(Rfc.fq 1).toArray⟩, .string ⟨(Rfc.fq 2).toArray⟩, .string ⟨(Rfc.fq 3).toArray⟩]) (.int .i64 i)).run Tryz.prog w = .ok (.string ⟨(Rfc.fq i).toArray⟩) w := by
  match i, hi with
  | 0, _ => exact idxFQ0 w
  | 1, _ => exact idxFQ1 w
  | 2, _ => exact idxFQ2 w
  | 3, _ => exact idxFQ3 w
theorem k_idxFQ (ho : o.op = .index 103 x y) (hx : ρ x = .agg #[.string ⟨(Rfc.fq 0).toArray⟩, .string ⟨(Rfc.fq 1).toArray⟩, .string ⟨(Rfc.fq 2).toArray⟩, .string ⟨(Rfc.fq 3).toArray⟩]) (hy : ρ y = .int .i64 i) (hi : i < 4) : (execOp ρ o).run Tryz.prog w = .ok (.value (.string ⟨(Rfc.fq i).toArray⟩)) w := by
  have hr := idxFQ i hi w
  simp only [execOp, ho, hx, hy, Sem.run_bind, hr, Result.andThen_ok, Sem.run_pure]
theorem k_loadFQ (ho : o.op = .load 103 (.global 3)) (hg : ρ (.global 3) = .pointer (some ⟨3, 0, none⟩)) (hT : Tabs w) : (execOp ρ o).run Tryz.prog w = .ok (.value (.agg #[.string ⟨(Rfc.fq 0).toArray⟩, .string ⟨(Rfc.fq 1).toArray⟩, .string ⟨(Rfc.fq 2).toArray⟩, .string ⟨(Rfc.fq 3).toArray⟩])) w := by
  have c0 := hT.fq 0 (by omega); have c1 := hT.fq 1 (by omega); have c2 := hT.fq 2 (by omega); have c3 := hT.fq 3 (by omega)
  clear hT
  simp only [execOp, ho]
  go_simp
theorem idxWD0 (w : World) : (Instr.index 156 (.agg #[.string ⟨(Rfc.wd 0).toArray⟩, .string ⟨(Rfc.wd 1).toArray⟩, .string ⟨(Rfc.wd 2).toArray⟩, .string ⟨(Rfc.wd 3).toArray⟩, .string ⟨(Rfc.wd 4).toArray⟩, .string ⟨(Rfc.wd 5).toArray⟩, .string ⟨(Rfc.wd 6).toArray⟩]) (.int .i64 0)).run Tryz.prog w = .ok (.string ⟨(Rfc.wd 0).toArray⟩) w := by kernel_rfl
theorem idxWD1 (w : World) : (Instr.index 156 (.agg #[.string ⟨(Rfc.wd 0).toArray⟩, .string ⟨(Rfc.wd 1).toArray⟩, .string ⟨(Rfc.wd 2).toArray⟩, .string ⟨(Rfc.wd 3).toArray⟩, .string ⟨(Rfc.wd 4).toArray⟩, .string ⟨(Rfc.wd 5).toArray⟩, .string ⟨(Rfc.wd 6).toArray⟩]) (.int .i64 1)).run Tryz.prog w = .ok (.string ⟨(Rfc.wd 1).toArray⟩) w := by kernel_rfl
theorem idxWD2 (w : World) : (Instr.index 156 (.agg #[.string ⟨(Rfc.wd 0).toArray⟩, .string ⟨(Rfc.wd 1).toArray⟩, .string ⟨(Rfc.wd 2).toArray⟩, .string ⟨(Rfc.wd 3).toArray⟩, .string ⟨(Rfc.wd 4).toArray⟩, .string ⟨(Rfc.wd 5).toArray⟩, .string ⟨(Rfc.wd 6).toArray⟩]) (.int .i64 2)).run Tryz.prog w = .ok (.string ⟨(Rfc.wd 2).toArray⟩) w := by kernel_rfl
theorem idxWD3 (w : World) : (Instr.index 156 (.agg #[.string ⟨(Rfc.wd 0).toArray⟩, .string ⟨(Rfc.wd 1).toArray⟩, .string ⟨(Rfc.wd 2).toArray⟩, .string ⟨(Rfc.wd 3).toArray⟩, .string ⟨(Rfc.wd 4).toArray⟩, .string ⟨(Rfc.wd 5).toArray⟩, .string ⟨(Rfc.wd 6).toArray⟩]) (.int .i64 3)).run Tryz.prog w = .ok (.string ⟨(Rfc.wd 3).toArray⟩) w := by kernel_rfl
theorem idxWD4 (w : World) : (Instr.index 156 (.agg #[.string ⟨(Rfc.wd 0).toArray⟩, .string ⟨(Rfc.wd 1).toArray⟩, .string ⟨(Rfc.wd 2).toArray⟩, .string ⟨(Rfc.wd 3).toArray⟩, .string ⟨(Rfc.wd 4).toArray⟩, .string ⟨(Rfc.wd 5).toArray⟩, .string ⟨(Rfc.wd 6).toArray⟩]) (.int .i64 4)).run Tryz.prog w = .ok (.string ⟨(Rfc.wd 4).toArray⟩) w := by kernel_rfl
theorem idxWD5 (w : World) : (Instr.index 156 (.agg #[.string ⟨(Rfc.wd 0).toArray⟩, .string ⟨(Rfc.wd 1).toArray⟩, .string ⟨(Rfc.wd 2).toArray⟩, .string ⟨(Rfc.wd 3).toArray⟩, .string ⟨(Rfc.wd 4).toArray⟩, .string ⟨(Rfc.wd 5).toArray⟩, .string ⟨(Rfc.wd 6).toArray⟩]) (.int .i64 5)).run Tryz.prog w = .ok (.string ⟨(Rfc.wd 5).toArray⟩) w := by kernel_rfl
theorem idxWD6 (w : World) : (Instr.index 156 (.agg #[.string ⟨(Rfc.wd 0).toArray⟩, .string ⟨(Rfc.wd 1).toArray⟩, .string ⟨(Rfc.wd 2).toArray⟩, .string ⟨(Rfc.wd 3).toArray⟩, .string ⟨(Rfc.wd 4).toArray⟩, .string ⟨(Rfc.wd 5).toArray⟩, .string ⟨(Rfc.wd 6).toArray⟩]) (.int .i64 6)).run Tryz.prog w = .ok (.string ⟨(Rfc.wd 6).toArray⟩) w := by kernel_rfl
theorem idxWD (i : Nat) (hi : i < 7) (w : World) : (Instr.index 156 (.agg #[.string ⟨(Rfc.wd 0).toArray⟩, .string ⟨(Rfc.wd 1).toArray⟩, .string ⟨(Rfc.wd 2).toArray⟩, .string ⟨(Rfc.wd 3).toArray⟩, .string ⟨(Rfc.wd 4).toArray⟩, .string ⟨(Rfc.wd 5).toArray⟩, .string ⟨(Rfc.wd 6).toArray⟩]) (.int .i64 i)).run Tryz.prog w = .ok (.string ⟨(Rfc.wd i).toArray⟩) w := by
  match i, hi with
  | 0, _ => exact idxWD0 w
  | 1, _ => exact idxWD1 w
  | 2, _ => exact idxWD2 w
  | 3, _ => exact idxWD3 w
  | 4, _ => exact idxWD4 w
  | 5, _ => exact idxWD5 w
  | 6, _ => exact idxWD6 w
theorem k_idxWD (ho : o.op = .index 156 x y) (hx : ρ x = .agg #[.string ⟨(Rfc.wd 0).toArray⟩, .string ⟨(Rfc.wd 1).toArray⟩, .string ⟨(Rfc.wd 2).toArray⟩, .string ⟨(Rfc.wd 3).toArray⟩, .string ⟨(Rfc.wd 4).toArray⟩, .string ⟨(Rfc.wd 5).toArray⟩, .string ⟨(Rfc.wd 6).toArray⟩]) (hy : ρ y = .int .i64 i) (hi : i < 7) : (execOp ρ o).run Tryz.prog w = .ok (.value (.string ⟨(Rfc.wd i).toArray⟩)) w := by
  have hr := idxWD i hi w
  simp only [execOp, ho, hx, hy, Sem.run_bind, hr, Result.andThen_ok, Sem.run_pure]
theorem k_loadWD (ho : o.op = .load 156 (.global 4)) (hg : ρ (.global 4) = .pointer (some ⟨4, 0, none⟩)) (hT : Tabs w) : (execOp ρ o).run Tryz.prog w = .ok (.value (.agg #[.string ⟨(Rfc.wd 0).toArray⟩, .string ⟨(Rfc.wd 1).toArray⟩, .string ⟨(Rfc.wd 2).toArray⟩, .string ⟨(Rfc.wd 3).toArray⟩, .string ⟨(Rfc.wd 4).toArray⟩, .string ⟨(Rfc.wd 5).toArray⟩, .string ⟨(Rfc.wd 6).toArray⟩])) w := by
  have c0 := hT.wd 0 (by omega); have c1 := hT.wd 1 (by omega); have c2 := hT.wd 2 (by omega); have c3 := hT.wd 3 (by omega); have c4 := hT.wd 4 (by omega); have c5 := hT.wd 5 (by omega); have c6 := hT.wd 6 (by omega)
  clear hT
  simp only [execOp, ho]
  go_simp
end
theorem ba_list (l : List UInt8) : (⟨l.toArray⟩ : ByteArray).toList = l := by rw [ByteArray.toList_eq]
theorem ba_data (l : List UInt8) : (⟨l.toArray⟩ : ByteArray).data.toList = l := by simp
theorem ba_size (l : List UInt8) : (⟨l.toArray⟩ : ByteArray).size = l.length := by show l.toArray.size = _; simp
theorem atoi_ok (s : List UInt8) (n : Int) (w : World) (hl : s.length ≤ 100000) (h : Lib.atoiAll s = .ok n) : Calls Tryz.prog 76 #[.string ⟨s.toArray⟩] w fun e w' => ∃ v, e = .returned v ∧ v = .tuple #[.int .i64 n, .nilIface] ∧ Below w.heap.size w w' :=
  (Tryz.strconv_Atoi_ok ⟨s.toArray⟩ (by rw [ba_size]; omega) n (by rw [ba_data]; exact h) w).mono fun e w' ⟨he, hw⟩ => ⟨_, he, rfl, by
    rcases hw with rfl | ⟨t, rfl⟩
    · exact Below.refl _ _
    · exact bytes_below' _ _ _⟩
theorem atoi_no (s : List UInt8) (w : World) (hT : Tabs w) (hl : s.length ≤ 100000) (h : ∀ v, Lib.atoiAll s ≠ .ok v) : Calls Tryz.prog 76 #[.string ⟨s.toArray⟩] w fun e w' => ∃ v, e = .returned v ∧ (∃ n t p, v = .tuple #[.int .i64 n, .iface t p]) ∧ Below w.heap.size w w' := by
  rcases hc : Lib.atoiAll s with v | _ | _
  · exact (h v hc).elim
  · obtain ⟨ev, hv, hev⟩ := hT.eS
    exact (Any.strconv_Atoi_syntax Tryz.laysC172 ⟨s.toArray⟩ (by rw [ba_size]; omega) (by rw [ba_data]; exact hc) ev w hv hev).mono fun e w' ⟨N, he, _, _, hb⟩ => ⟨_, he, ⟨_, _, _, rfl⟩, hb⟩
  · obtain ⟨ev, hv, hev⟩ := hT.eR
    exact (Tryz.strconv_Atoi_range ⟨s.toArray⟩ (by rw [ba_size]; omega) (by rw [ba_data]; exact hc) ev w hv hev).mono fun e w' ⟨N, he, _, _, hb⟩ => ⟨_, he, ⟨_, _, _, rfl⟩, hb⟩

noncomputable def poBody : Code := Tryz.f29.body.getD .skip
set_option maxRecDepth 100000 in
set_option maxHeartbeats 1000000 in
theorem po_any (s : List UInt8) (w : World) (hT : Tabs w) :
    Calls Tryz.prog 29 #[.string ⟨s.toArray⟩] w fun e w' => ∃ v, e = .returned v ∧ v = ot (Rfc.part s) ∧ Below w.heap.size w w' := by
  refine calls_of_wp Tryz.func29 (show Tryz.f29.body = some poBody from rfl) ?_
  generalize hAA : (Act.mk (#[.string ⟨s.toArray⟩] ++ Array.replicate (Tryz.f29.ntmps - (#[.string ⟨s.toArray⟩] : Array Value).size) undef) []) = a
  have hs : a.tmps.size = 16 := by rw [← hAA]; simp [Tryz.ntmps29]
  have hd : a.defers = [] := by rw [← hAA]
  have h0 : a.tmps.getD 0 undef = .string ⟨s.toArray⟩ := by rw [← hAA]; simp
  clear hAA
  have hfin : ∀ (a' : Act) (w' : World) (x y : Value), a'.defers = [] → a'.tmps.getD 2 undef = x → a'.tmps.getD 3 undef = y → .tuple #[x, y] = ot (Rfc.part s) → Below w.heap.size w w' → (bodyPost Tryz.prog Tryz.f29 fun e w' => ∃ v, e = .returned v ∧ v = ot (Rfc.part s) ∧ Below w.heap.size w w') .ret a' w' := by
    intro a' w' x y k1 k2 k3 k4 k5
    exact ⟨k1, _, results2 rfl _ _ _, _, rfl, by rw [k2, k3, k4], k5⟩
  generalize (bodyPost Tryz.prog Tryz.f29 fun e w' => ∃ v, e = .returned v ∧ v = ot (Rfc.part s) ∧ Below w.heap.size w w') = Q at hfin
  unfold poBody
  conv => arg 2; whnf
  refine wp_seq ?_
  refine wp_region (show wpOps _ _ _ [0, 1] _ _ from ?_)
  refine opL 0 2 (v := .int .i64 0) (w' := w) (by kernel_rfl) (frZ hs) ?_ ?_
  · exact frY rfl (k_assign rfl rfl)
  refine frN1 hs hd h0 ?_; clear hs hd h0; intro a hs hd h0 h2
  refine opL 1 3 (v := .bool false) (w' := w) (by kernel_rfl) (frZ hs) ?_ ?_
  · exact frY rfl (k_assign rfl rfl)
  revert hs hd h0 h2; refine frM2 ?_; intro a hs hd h0 h2 h3
  refine wp_seq ?_
  refine wp_seq ?_
  refine wp_region (show wpOps _ _ _ [0, 1] _ _ from ?_)
  refine opL 0 6 (v := .agg #[.string ⟨(Rfc.nm 0).toArray⟩, .string ⟨(Rfc.nm 1).toArray⟩, .string ⟨(Rfc.nm 2).toArray⟩, .string ⟨(Rfc.nm 3).toArray⟩, .string ⟨(Rfc.nm 4).toArray⟩, .string ⟨(Rfc.nm 5).toArray⟩, .string ⟨(Rfc.nm 6).toArray⟩, .string ⟨(Rfc.nm 7).toArray⟩]) (w' := w) (by kernel_rfl) (frZ hs) ?_ ?_
  · exact frY rfl (k_loadPN rfl rfl hT)
  revert hs hd h0 h2 h3; refine frM3 ?_; intro a hs hd h0 h2 h3 h6
  refine opL 1 7 (v := .int .i64 0) (w' := w) (by kernel_rfl) (frZ hs) ?_ ?_
  · exact frY rfl (k_move rfl rfl)
  revert hs hd h0 h2 h3 h6; refine frM4 ?_; intro a hs hd h0 h2 h3 h6 h7
  refine wp_block ?_
  refine wp_loop (fun a wx => wx = w ∧ ∃ i, i ≤ 8 ∧ a.defers = [] ∧ a.tmps.size = 16 ∧ a.tmps.getD 0 undef = .string ⟨s.toArray⟩ ∧ a.tmps.getD 6 undef = .agg #[.string ⟨(Rfc.nm 0).toArray⟩, .string ⟨(Rfc.nm 1).toArray⟩, .string ⟨(Rfc.nm 2).toArray⟩, .string ⟨(Rfc.nm 3).toArray⟩, .string ⟨(Rfc.nm 4).toArray⟩, .string ⟨(Rfc.nm 5).toArray⟩, .string ⟨(Rfc.nm 6).toArray⟩, .string ⟨(Rfc.nm 7).toArray⟩] ∧ a.tmps.getD 7 undef = .int .i64 (i : Nat) ∧ Rfc.part s = Rfc.idx Rfc.nm s i (8 - i)) (fun a _ => (8 - intOf (a.tmps.getD 7 undef)).toNat) ⟨rfl, 0, Nat.zero_le _, hd, hs, h0, h6, h7, rfl⟩ ?_
  clear hs hd h0 h2 h3 h6 h7 a
  rintro a wx ⟨rfl, i, hi, hd, hs, h0, h6, h7, hidx⟩
  have e7 := h7
  rw [e7]
  clear e7
  by_cases hlt : i < 8
  · by_cases he : Rfc.nm i = s
    ·
      refine wp_seq ?_
      refine wp_region (show wpOps _ _ _ [0] _ _ from ?_)
      refine opL 0 8 (v := .bool true) (w' := wx) (by kernel_rfl) (frZ hs) ?_ ?_
      · exact frY rfl (o_ltI rfl (ev_tmp h7) rfl (decide_eq_true (by omega)))
      refine frN3 hs hd h0 h6 h7 ?_; clear hs hd h0 h6 h7; intro a hs hd h0 h6 h7 h8
      refine wp_seq ?_
      refine wp_cond_true (ev_tmp h8) ?_
      refine wp_skip ?_
      refine wp_seq ?_
      refine wp_block ?_
      refine wp_seq ?_
      refine wp_region (show wpOps _ _ _ [0, 1, 2, 3] _ _ from ?_)
      refine opL 0 9 (v := .int .i64 i) (w' := wx) (by kernel_rfl) (frZ hs) ?_ ?_
      · exact frY rfl (k_move rfl (ev_tmp h7))
      revert hs hd h0 h6 h7 h8; refine frM4 ?_; intro a hs hd h0 h6 h7 h8 h9
      refine opL 1 10 (v := .string ⟨(Rfc.nm i).toArray⟩) (w' := wx) (by kernel_rfl) (frZ hs) ?_ ?_
      · exact frY rfl (k_idxPN rfl (ev_tmp h6) (ev_tmp h7) hlt)
      revert hs hd h0 h6 h7 h8 h9; refine frM5 ?_; intro a hs hd h0 h6 h7 h8 h9 h10
      refine opL 2 4 (v := .int .i64 i) (w' := wx) (by kernel_rfl) (frZ hs) ?_ ?_
      · exact frY rfl (k_assign rfl (ev_tmp h9))
      clear h9; revert hs hd h0 h6 h7 h8 h10; refine frM5 ?_; intro a hs hd h0 h6 h7 h8 h10 h4
      refine opL 3 5 (v := .string ⟨(Rfc.nm i).toArray⟩) (w' := wx) (by kernel_rfl) (frZ hs) ?_ ?_
      · exact frY rfl (k_assign rfl (ev_tmp h10))
      clear h10; revert hs hd h0 h6 h7 h8 h4; refine frM5 ?_; intro a hs hd h0 h6 h7 h8 h4 h5
      refine wp_seq ?_
      refine wp_region (show wpOps _ _ _ [0, 1, 2] _ _ from ?_)
      refine opL 0 11 (v := .string ⟨(Rfc.nm i).toArray⟩) (w' := wx) (by kernel_rfl) (frZ hs) ?_ ?_
      · exact frY rfl (k_move rfl (ev_tmp h5))
      revert hs hd h0 h6 h7 h8 h4 h5; refine frM6 ?_; intro a hs hd h0 h6 h7 h8 h4 h5 h11
      refine opL 1 12 (v := .string ⟨s.toArray⟩) (w' := wx) (by kernel_rfl) (frZ hs) ?_ ?_
      · exact frY rfl (k_move rfl (ev_tmp h0))
      revert hs hd h0 h6 h7 h8 h4 h5 h11; refine frM7 ?_; intro a hs hd h0 h6 h7 h8 h4 h5 h11 h12
      refine opL 2 13 (v := .bool true) (w' := wx) (by kernel_rfl) (frZ hs) ?_ ?_
      · exact frY rfl (o_eqStr rfl (ev_tmp h11) (ev_tmp h12) (by rw [ba_list, ba_list]; simp [he]))
      clear h11 h12; revert hs hd h0 h6 h7 h8 h4 h5; refine frM6 ?_; intro a hs hd h0 h6 h7 h8 h4 h5 h13
      refine wp_cond_true (ev_tmp h13) ?_
      refine wp_seq ?_
      refine wp_region (show wpOps _ _ _ [0, 1, 2] _ _ from ?_)
      refine opL 0 14 (v := .int .i64 i) (w' := wx) (by kernel_rfl) (frZ hs) ?_ ?_
      · exact frY rfl (k_move rfl (ev_tmp h4))
      revert hs hd h0 h6 h7 h8 h4 h5 h13; refine frM7 ?_; intro a hs hd h0 h6 h7 h8 h4 h5 h13 h14
      refine opL 1 2 (v := .int .i64 i) (w' := wx) (by kernel_rfl) (frZ hs) ?_ ?_
      · exact frY rfl (k_assign rfl (ev_tmp h14))
      clear h14; revert hs hd h0 h6 h7 h8 h4 h5 h13; refine frM7 ?_; intro a hs hd h0 h6 h7 h8 h4 h5 h13 h2
      refine opL 2 3 (v := .bool true) (w' := wx) (by kernel_rfl) (frZ hs) ?_ ?_
      · exact frY rfl (k_assign rfl rfl)
      revert hs hd h0 h6 h7 h8 h4 h5 h13 h2; refine frM8 ?_; intro a hs hd h0 h6 h7 h8 h4 h5 h13 h2 h3
      refine wp_ret ?_
      exact hfin a wx _ _ hd h2 h3 (by rw [hidx, Rfc.idx_here hlt he]; rfl) (Below.refl _ _)
    ·
      refine wp_seq ?_
      refine wp_region (show wpOps _ _ _ [0] _ _ from ?_)
      refine opL 0 8 (v := .bool true) (w' := wx) (by kernel_rfl) (frZ hs) ?_ ?_
      · exact frY rfl (o_ltI rfl (ev_tmp h7) rfl (decide_eq_true (by omega)))
      refine frN3 hs hd h0 h6 h7 ?_; clear hs hd h0 h6 h7; intro a hs hd h0 h6 h7 h8
      refine wp_seq ?_
      refine wp_cond_true (ev_tmp h8) ?_
      refine wp_skip ?_
      refine wp_seq ?_
      refine wp_block ?_
      refine wp_seq ?_
      refine wp_region (show wpOps _ _ _ [0, 1, 2, 3] _ _ from ?_)
      refine opL 0 9 (v := .int .i64 i) (w' := wx) (by kernel_rfl) (frZ hs) ?_ ?_
      · exact frY rfl (k_move rfl (ev_tmp h7))
      revert hs hd h0 h6 h7 h8; refine frM4 ?_; intro a hs hd h0 h6 h7 h8 h9
      refine opL 1 10 (v := .string ⟨(Rfc.nm i).toArray⟩) (w' := wx) (by kernel_rfl) (frZ hs) ?_ ?_
      · exact frY rfl (k_idxPN rfl (ev_tmp h6) (ev_tmp h7) hlt)
      revert hs hd h0 h6 h7 h8 h9; refine frM5 ?_; intro a hs hd h0 h6 h7 h8 h9 h10
      refine opL 2 4 (v := .int .i64 i) (w' := wx) (by kernel_rfl) (frZ hs) ?_ ?_
      · exact frY rfl (k_assign rfl (ev_tmp h9))
      clear h9; revert hs hd h0 h6 h7 h8 h10; refine frM5 ?_; intro a hs hd h0 h6 h7 h8 h10 h4
      refine opL 3 5 (v := .string ⟨(Rfc.nm i).toArray⟩) (w' := wx) (by kernel_rfl) (frZ hs) ?_ ?_
      · exact frY rfl (k_assign rfl (ev_tmp h10))
      clear h10; revert hs hd h0 h6 h7 h8 h4; refine frM5 ?_; intro a hs hd h0 h6 h7 h8 h4 h5
      refine wp_seq ?_
      refine wp_region (show wpOps _ _ _ [0, 1, 2] _ _ from ?_)
      refine opL 0 11 (v := .string ⟨(Rfc.nm i).toArray⟩) (w' := wx) (by kernel_rfl) (frZ hs) ?_ ?_
      · exact frY rfl (k_move rfl (ev_tmp h5))
      revert hs hd h0 h6 h7 h8 h4 h5; refine frM6 ?_; intro a hs hd h0 h6 h7 h8 h4 h5 h11
      refine opL 1 12 (v := .string ⟨s.toArray⟩) (w' := wx) (by kernel_rfl) (frZ hs) ?_ ?_
      · exact frY rfl (k_move rfl (ev_tmp h0))
      revert hs hd h0 h6 h7 h8 h4 h5 h11; refine frM7 ?_; intro a hs hd h0 h6 h7 h8 h4 h5 h11 h12
      refine opL 2 13 (v := .bool false) (w' := wx) (by kernel_rfl) (frZ hs) ?_ ?_
      · exact frY rfl (o_eqStr rfl (ev_tmp h11) (ev_tmp h12) (by rw [ba_list, ba_list]; simp [he]))
      clear h11 h12; revert hs hd h0 h6 h7 h8 h4 h5; refine frM6 ?_; intro a hs hd h0 h6 h7 h8 h4 h5 h13
      refine wp_cond_false (ev_tmp h13) ?_
      refine wp_skip ?_
      refine wp_region (show wpOps _ _ _ [0, 1] _ _ from ?_)
      refine opL 0 15 (v := .int .i64 (i + 1 : Nat)) (w' := wx) (by kernel_rfl) (frZ hs) ?_ ?_
      · exact frY rfl (o_addI rfl (ev_tmp h7) rfl (wrap_small (n := (i : Int) + 1) (by omega) (by omega)))
      revert hs hd h0 h6 h7 h8 h4 h5 h13; refine frM7 ?_; intro a hs hd h0 h6 h7 h8 h4 h5 h13 h15
      refine opL 1 7 (v := .int .i64 (i + 1 : Nat)) (w' := wx) (by kernel_rfl) (frZ hs) ?_ ?_
      · exact frY rfl (k_move rfl (ev_tmp h15))
      clear h7 h15; revert hs hd h0 h6 h8 h4 h5 h13; refine frM6 ?_; intro a hs hd h0 h6 h8 h4 h5 h13 h7
      refine ⟨⟨rfl, i + 1, hlt, hd, hs, h0, h6, h7, by rw [hidx, Rfc.idx_next hlt he]⟩, ?_⟩
      rw [h7]
      simp only [intOf]
      omega
  obtain rfl : i = 8 := by omega
  clear h6
  refine wp_seq ?_
  refine wp_region (show wpOps _ _ _ [0] _ _ from ?_)
  refine opL 0 8 (v := .bool false) (w' := wx) (by kernel_rfl) (frZ hs) ?_ ?_
  · exact frY rfl (o_ltI rfl (ev_tmp h7) rfl (decide_eq_false (by decide)))
  refine frN2 hs hd h0 h7 ?_; clear hs hd h0 h7; intro a hs hd h0 h7 h8
  refine wp_seq ?_
  refine wp_cond_false (ev_tmp h8) ?_
  refine wp_exit ?_
  change Code.wp _ _ _ _ _
  refine wp_seq ?_
  refine wp_region (show wpOps _ _ _ [0, 1] _ _ from ?_)
  refine opL 0 2 (v := .int .i64 0) (w' := wx) (by kernel_rfl) (frZ hs) ?_ ?_
  · exact frY rfl (k_assign rfl rfl)
  refine frN3 hs hd h0 h7 h8 ?_; clear hs hd h0 h7 h8; intro a hs hd h0 h7 h8 h2
  refine opL 1 3 (v := .bool false) (w' := wx) (by kernel_rfl) (frZ hs) ?_ ?_
  · exact frY rfl (k_assign rfl rfl)
  revert hs hd h0 h7 h8 h2; refine frM4 ?_; intro a hs hd h0 h7 h8 h2 h3
  refine wp_ret ?_
  exact hfin a wx _ _ hd h2 h3 (by rw [hidx, Rfc.idx_end]; rfl) (Below.refl _ _)

noncomputable def pfBody : Code := Tryz.f62.body.getD .skip
set_option maxRecDepth 100000 in
set_option maxHeartbeats 1000000 in
theorem pf_any (s : List UInt8) (w : World) (hT : Tabs w) :
    Calls Tryz.prog 62 #[.string ⟨s.toArray⟩] w fun e w' => ∃ v, e = .returned v ∧ v = ot (Rfc.pfreq s) ∧ Below w.heap.size w w' := by
  refine calls_of_wp Tryz.func62 (show Tryz.f62.body = some pfBody from rfl) ?_
  generalize hAA : (Act.mk (#[.string ⟨s.toArray⟩] ++ Array.replicate (Tryz.f62.ntmps - (#[.string ⟨s.toArray⟩] : Array Value).size) undef) []) = a
  have hs : a.tmps.size = 16 := by rw [← hAA]; simp [Tryz.ntmps62]
  have hd : a.defers = [] := by rw [← hAA]
  have h0 : a.tmps.getD 0 undef = .string ⟨s.toArray⟩ := by rw [← hAA]; simp
  clear hAA
  have hfin : ∀ (a' : Act) (w' : World) (x y : Value), a'.defers = [] → a'.tmps.getD 2 undef = x → a'.tmps.getD 3 undef = y → .tuple #[x, y] = ot (Rfc.pfreq s) → Below w.heap.size w w' → (bodyPost Tryz.prog Tryz.f62 fun e w' => ∃ v, e = .returned v ∧ v = ot (Rfc.pfreq s) ∧ Below w.heap.size w w') .ret a' w' := by
    intro a' w' x y k1 k2 k3 k4 k5
    exact ⟨k1, _, results2 rfl _ _ _, _, rfl, by rw [k2, k3, k4], k5⟩
  generalize (bodyPost Tryz.prog Tryz.f62 fun e w' => ∃ v, e = .returned v ∧ v = ot (Rfc.pfreq s) ∧ Below w.heap.size w w') = Q at hfin
  unfold pfBody
  conv => arg 2; whnf
  refine wp_seq ?_
  refine wp_region (show wpOps _ _ _ [0, 1] _ _ from ?_)
  refine opL 0 2 (v := .int .i64 0) (w' := w) (by kernel_rfl) (frZ hs) ?_ ?_
  · exact frY rfl (k_assign rfl rfl)
  refine frN1 hs hd h0 ?_; clear hs hd h0; intro a hs hd h0 h2
  refine opL 1 3 (v := .bool false) (w' := w) (by kernel_rfl) (frZ hs) ?_ ?_
  · exact frY rfl (k_assign rfl rfl)
  revert hs hd h0 h2; refine frM2 ?_; intro a hs hd h0 h2 h3
  refine wp_seq ?_
  refine wp_seq ?_
  refine wp_region (show wpOps _ _ _ [0, 1] _ _ from ?_)
  refine opL 0 6 (v := .agg #[.string ⟨(Rfc.fq 0).toArray⟩, .string ⟨(Rfc.fq 1).toArray⟩, .string ⟨(Rfc.fq 2).toArray⟩, .string ⟨(Rfc.fq 3).toArray⟩]) (w' := w) (by kernel_rfl) (frZ hs) ?_ ?_
  · exact frY rfl (k_loadFQ rfl rfl hT)
  revert hs hd h0 h2 h3; refine frM3 ?_; intro a hs hd h0 h2 h3 h6
  refine opL 1 7 (v := .int .i64 0) (w' := w) (by kernel_rfl) (frZ hs) ?_ ?_
  · exact frY rfl (k_move rfl rfl)
  revert hs hd h0 h2 h3 h6; refine frM4 ?_; intro a hs hd h0 h2 h3 h6 h7
  refine wp_block ?_
  refine wp_loop (fun a wx => wx = w ∧ ∃ i, i ≤ 4 ∧ a.defers = [] ∧ a.tmps.size = 16 ∧ a.tmps.getD 0 undef = .string ⟨s.toArray⟩ ∧ a.tmps.getD 6 undef = .agg #[.string ⟨(Rfc.fq 0).toArray⟩, .string ⟨(Rfc.fq 1).toArray⟩, .string ⟨(Rfc.fq 2).toArray⟩, .string ⟨(Rfc.fq 3).toArray⟩] ∧ a.tmps.getD 7 undef = .int .i64 (i : Nat) ∧ Rfc.pfreq s = Rfc.idx Rfc.fq s i (4 - i)) (fun a _ => (4 - intOf (a.tmps.getD 7 undef)).toNat) ⟨rfl, 0, Nat.zero_le _, hd, hs, h0, h6, h7, rfl⟩ ?_
  clear hs hd h0 h2 h3 h6 h7 a
  rintro a wx ⟨rfl, i, hi, hd, hs, h0, h6, h7, hidx⟩
  have e7 := h7
  rw [e7]
  clear e7
  by_cases hlt : i < 4
  · by_cases he : Rfc.fq i = s
    ·
      refine wp_seq ?_
      refine wp_region (show wpOps _ _ _ [0] _ _ from ?_)
      refine opL 0 8 (v := .bool true) (w' := wx) (by kernel_rfl) (frZ hs) ?_ ?_
      · exact frY rfl (o_ltI rfl (ev_tmp h7) rfl (decide_eq_true (by omega)))
      refine frN3 hs hd h0 h6 h7 ?_; clear hs hd h0 h6 h7; intro a hs hd h0 h6 h7 h8
      refine wp_seq ?_
      refine wp_cond_true (ev_tmp h8) ?_
      refine wp_skip ?_
      refine wp_seq ?_
      refine wp_block ?_
      refine wp_seq ?_
      refine wp_region (show wpOps _ _ _ [0, 1, 2, 3] _ _ from ?_)
      refine opL 0 9 (v := .int .i64 i) (w' := wx) (by kernel_rfl) (frZ hs) ?_ ?_
      · exact frY rfl (k_move rfl (ev_tmp h7))
      revert hs hd h0 h6 h7 h8; refine frM4 ?_; intro a hs hd h0 h6 h7 h8 h9
      refine opL 1 10 (v := .string ⟨(Rfc.fq i).toArray⟩) (w' := wx) (by kernel_rfl) (frZ hs) ?_ ?_
      · exact frY rfl (k_idxFQ rfl (ev_tmp h6) (ev_tmp h7) hlt)
      revert hs hd h0 h6 h7 h8 h9; refine frM5 ?_; intro a hs hd h0 h6 h7 h8 h9 h10
      refine opL 2 4 (v := .int .i64 i) (w' := wx) (by kernel_rfl) (frZ hs) ?_ ?_
      · exact frY rfl (k_assign rfl (ev_tmp h9))
      clear h9; revert hs hd h0 h6 h7 h8 h10; refine frM5 ?_; intro a hs hd h0 h6 h7 h8 h10 h4
      refine opL 3 5 (v := .string ⟨(Rfc.fq i).toArray⟩) (w' := wx) (by kernel_rfl) (frZ hs) ?_ ?_
      · exact frY rfl (k_assign rfl (ev_tmp h10))
      clear h10; revert hs hd h0 h6 h7 h8 h4; refine frM5 ?_; intro a hs hd h0 h6 h7 h8 h4 h5
      refine wp_seq ?_
      refine wp_region (show wpOps _ _ _ [0, 1, 2] _ _ from ?_)
      refine opL 0 11 (v := .string ⟨(Rfc.fq i).toArray⟩) (w' := wx) (by kernel_rfl) (frZ hs) ?_ ?_
      · exact frY rfl (k_move rfl (ev_tmp h5))
      revert hs hd h0 h6 h7 h8 h4 h5; refine frM6 ?_; intro a hs hd h0 h6 h7 h8 h4 h5 h11
      refine opL 1 12 (v := .string ⟨s.toArray⟩) (w' := wx) (by kernel_rfl) (frZ hs) ?_ ?_
      · exact frY rfl (k_move rfl (ev_tmp h0))
      revert hs hd h0 h6 h7 h8 h4 h5 h11; refine frM7 ?_; intro a hs hd h0 h6 h7 h8 h4 h5 h11 h12
      refine opL 2 13 (v := .bool true) (w' := wx) (by kernel_rfl) (frZ hs) ?_ ?_
      · exact frY rfl (o_eqStr rfl (ev_tmp h11) (ev_tmp h12) (by rw [ba_list, ba_list]; simp [he]))
      clear h11 h12; revert hs hd h0 h6 h7 h8 h4 h5; refine frM6 ?_; intro a hs hd h0 h6 h7 h8 h4 h5 h13
      refine wp_cond_true (ev_tmp h13) ?_
      refine wp_seq ?_
      refine wp_region (show wpOps _ _ _ [0, 1, 2] _ _ from ?_)
      refine opL 0 14 (v := .int .i64 i) (w' := wx) (by kernel_rfl) (frZ hs) ?_ ?_
      · exact frY rfl (k_move rfl (ev_tmp h4))
      revert hs hd h0 h6 h7 h8 h4 h5 h13; refine frM7 ?_; intro a hs hd h0 h6 h7 h8 h4 h5 h13 h14
      refine opL 1 2 (v := .int .i64 i) (w' := wx) (by kernel_rfl) (frZ hs) ?_ ?_
      · exact frY rfl (k_assign rfl (ev_tmp h14))
      clear h14; revert hs hd h0 h6 h7 h8 h4 h5 h13; refine frM7 ?_; intro a hs hd h0 h6 h7 h8 h4 h5 h13 h2
      refine opL 2 3 (v := .bool true) (w' := wx) (by kernel_rfl) (frZ hs) ?_ ?_
      · exact frY rfl (k_assign rfl rfl)
      revert hs hd h0 h6 h7 h8 h4 h5 h13 h2; refine frM8 ?_; intro a hs hd h0 h6 h7 h8 h4 h5 h13 h2 h3
      refine wp_ret ?_
      exact hfin a wx _ _ hd h2 h3 (by rw [hidx, Rfc.idx_here hlt he]; rfl) (Below.refl _ _)
    ·
      refine wp_seq ?_
      refine wp_region (show wpOps _ _ _ [0] _ _ from ?_)
      refine opL 0 8 (v := .bool true) (w' := wx) (by kernel_rfl) (frZ hs) ?_ ?_
      · exact frY rfl (o_ltI rfl (ev_tmp h7) rfl (decide_eq_true (by omega)))
      refine frN3 hs hd h0 h6 h7 ?_; clear hs hd h0 h6 h7; intro a hs hd h0 h6 h7 h8
      refine wp_seq ?_
      refine wp_cond_true (ev_tmp h8) ?_
      refine wp_skip ?_
      refine wp_seq ?_
      refine wp_block ?_
      refine wp_seq ?_
      refine wp_region (show wpOps _ _ _ [0, 1, 2, 3] _ _ from ?_)
      refine opL 0 9 (v := .int .i64 i) (w' := wx) (by kernel_rfl) (frZ hs) ?_ ?_
      · exact frY rfl (k_move rfl (ev_tmp h7))
      revert hs hd h0 h6 h7 h8; refine frM4 ?_; intro a hs hd h0 h6 h7 h8 h9
      refine opL 1 10 (v := .string ⟨(Rfc.fq i).toArray⟩) (w' := wx) (by kernel_rfl) (frZ hs) ?_ ?_
      · exact frY rfl (k_idxFQ rfl (ev_tmp h6) (ev_tmp h7) hlt)
      revert hs hd h0 h6 h7 h8 h9; refine frM5 ?_; intro a hs hd h0 h6 h7 h8 h9 h10
      refine opL 2 4 (v := .int .i64 i) (w' := wx) (by kernel_rfl) (frZ hs) ?_ ?_
      · exact frY rfl (k_assign rfl (ev_tmp h9))
      clear h9; revert hs hd h0 h6 h7 h8 h10; refine frM5 ?_; intro a hs hd h0 h6 h7 h8 h10 h4
      refine opL 3 5 (v := .string ⟨(Rfc.fq i).toArray⟩) (w' := wx) (by kernel_rfl) (frZ hs) ?_ ?_
      · exact frY rfl (k_assign rfl (ev_tmp h10))
      clear h10; revert hs hd h0 h6 h7 h8 h4; refine frM5 ?_; intro a hs hd h0 h6 h7 h8 h4 h5
      refine wp_seq ?_
      refine wp_region (show wpOps _ _ _ [0, 1, 2] _ _ from ?_)
      refine opL 0 11 (v := .string ⟨(Rfc.fq i).toArray⟩) (w' := wx) (by kernel_rfl) (frZ hs) ?_ ?_
      · exact frY rfl (k_move rfl (ev_tmp h5))
      revert hs hd h0 h6 h7 h8 h4 h5; refine frM6 ?_; intro a hs hd h0 h6 h7 h8 h4 h5 h11
      refine opL 1 12 (v := .string ⟨s.toArray⟩) (w' := wx) (by kernel_rfl) (frZ hs) ?_ ?_
      · exact frY rfl (k_move rfl (ev_tmp h0))
      revert hs hd h0 h6 h7 h8 h4 h5 h11; refine frM7 ?_; intro a hs hd h0 h6 h7 h8 h4 h5 h11 h12
      refine opL 2 13 (v := .bool false) (w' := wx) (by kernel_rfl) (frZ hs) ?_ ?_
      · exact frY rfl (o_eqStr rfl (ev_tmp h11) (ev_tmp h12) (by rw [ba_list, ba_list]; simp [he]))
      clear h11 h12; revert hs hd h0 h6 h7 h8 h4 h5; refine frM6 ?_; intro a hs hd h0 h6 h7 h8 h4 h5 h13
      refine wp_cond_false (ev_tmp h13) ?_
      refine wp_skip ?_
      refine wp_region (show wpOps _ _ _ [0, 1] _ _ from ?_)
      refine opL 0 15 (v := .int .i64 (i + 1 : Nat)) (w' := wx) (by kernel_rfl) (frZ hs) ?_ ?_
      · exact frY rfl (o_addI rfl (ev_tmp h7) rfl (wrap_small (n := (i : Int) + 1) (by omega) (by omega)))
      revert hs hd h0 h6 h7 h8 h4 h5 h13; refine frM7 ?_; intro a hs hd h0 h6 h7 h8 h4 h5 h13 h15
      refine opL 1 7 (v := .int .i64 (i + 1 : Nat)) (w' := wx) (by kernel_rfl) (frZ hs) ?_ ?_
      · exact frY rfl (k_move rfl (ev_tmp h15))
      clear h7 h15; revert hs hd h0 h6 h8 h4 h5 h13; refine frM6 ?_; intro a hs hd h0 h6 h8 h4 h5 h13 h7
      refine ⟨⟨rfl, i + 1, hlt, hd, hs, h0, h6, h7, by rw [hidx, Rfc.idx_next hlt he]⟩, ?_⟩
      rw [h7]
      simp only [intOf]
      omega
  obtain rfl : i = 4 := by omega
  clear h6
  refine wp_seq ?_
  refine wp_region (show wpOps _ _ _ [0] _ _ from ?_)
  refine opL 0 8 (v := .bool false) (w' := wx) (by kernel_rfl) (frZ hs) ?_ ?_
  · exact frY rfl (o_ltI rfl (ev_tmp h7) rfl (decide_eq_false (by decide)))
  refine frN2 hs hd h0 h7 ?_; clear hs hd h0 h7; intro a hs hd h0 h7 h8
  refine wp_seq ?_
  refine wp_cond_false (ev_tmp h8) ?_
  refine wp_exit ?_
  change Code.wp _ _ _ _ _
  refine wp_seq ?_
  refine wp_region (show wpOps _ _ _ [0, 1] _ _ from ?_)
  refine opL 0 2 (v := .int .i64 0) (w' := wx) (by kernel_rfl) (frZ hs) ?_ ?_
  · exact frY rfl (k_assign rfl rfl)
  refine frN3 hs hd h0 h7 h8 ?_; clear hs hd h0 h7 h8; intro a hs hd h0 h7 h8 h2
  refine opL 1 3 (v := .bool false) (w' := wx) (by kernel_rfl) (frZ hs) ?_ ?_
  · exact frY rfl (k_assign rfl rfl)
  revert hs hd h0 h7 h8 h2; refine frM4 ?_; intro a hs hd h0 h7 h8 h2 h3
  refine wp_ret ?_
  exact hfin a wx _ _ hd h2 h3 (by rw [hidx, Rfc.idx_end]; rfl) (Below.refl _ _)
noncomputable def pnBody : Code := Tryz.f63.body.getD .skip

set_option maxRecDepth 100000 in
set_option maxHeartbeats 1000000 in
theorem pn_no (s : List UInt8) (w : World) (hT : Tabs w) (hl : s.length ≤ 100000) (h : ∀ v, Lib.atoiAll s ≠ .ok v) :
    Calls Tryz.prog 63 #[.string ⟨s.toArray⟩] w fun e w' => ∃ v, e = .returned v ∧ v = ov (Rfc.pnum s) ∧ Below w.heap.size w w' := by
  refine calls_of_wp Tryz.func63 (show Tryz.f63.body = some pnBody from rfl) ?_
  generalize hAA : (Act.mk (#[.string ⟨s.toArray⟩] ++ Array.replicate (Tryz.f63.ntmps - (#[.string ⟨s.toArray⟩] : Array Value).size) undef) []) = a
  have hs : a.tmps.size = 20 := by rw [← hAA]; simp [Tryz.ntmps63]
  have hd : a.defers = [] := by rw [← hAA]
  have h0 : a.tmps.getD 0 undef = .string ⟨s.toArray⟩ := by rw [← hAA]; simp
  clear hAA
  have hfin : ∀ (a' : Act) (w' : World) (x y : Value), a'.defers = [] → a'.tmps.getD 2 undef = x → a'.tmps.getD 3 undef = y → .tuple #[x, y] = ov (Rfc.pnum s) → Below w.heap.size w w' → (bodyPost Tryz.prog Tryz.f63 fun e w' => ∃ v, e = .returned v ∧ v = ov (Rfc.pnum s) ∧ Below w.heap.size w w') .ret a' w' := by
    intro a' w' x y k1 k2 k3 k4 k5
    exact ⟨k1, _, results2 rfl _ _ _, _, rfl, by rw [k2, k3, k4], k5⟩
  generalize (bodyPost Tryz.prog Tryz.f63 fun e w' => ∃ v, e = .returned v ∧ v = ov (Rfc.pnum s) ∧ Below w.heap.size w w') = Q at hfin
  unfold pnBody
  conv => arg 2; whnf
  refine wp_seq ?_
  refine wp_region (show wpOps _ _ _ [0, 1] _ _ from ?_)
  refine opL 0 2 (v := .int .i64 0) (w' := w) (by kernel_rfl) (frZ hs) ?_ ?_
  · exact frY rfl (k_assign rfl rfl)
  refine frN1 hs hd h0 ?_; clear hs hd h0; intro a hs hd h0 h2
  refine opL 1 3 (v := .bool false) (w' := w) (by kernel_rfl) (frZ hs) ?_ ?_
  · exact frY rfl (k_assign rfl rfl)
  revert hs hd h0 h2; refine frM2 ?_; intro a hs hd h0 h2 h3
  refine wp_seq ?_
  refine wp_region (show wpOps _ _ _ [0, 1, 2, 3, 4, 5, 6] _ _ from ?_)
  refine opL 0 7 (v := .string ⟨s.toArray⟩) (w' := w) (by kernel_rfl) (frZ hs) ?_ ?_
  · exact frY rfl (k_move rfl (ev_tmp h0))
  revert hs hd h0 h2 h3; refine frM3 ?_; intro a hs hd h0 h2 h3 h7
  have hc := atoi_no s w hT hl h
  have hx := fun ops Q rest d a i h1 h2 h3 => opL_call (P := Tryz.prog) (ops := ops) (Q := Q) (a := a) (w := w) (rest := rest) i d h1 h2 h3 hc
  refine hx _ _ _ 8 _ 1 ?z145a ?z145b ?z145 ?z146
  case z145a => kernel_rfl
  case z145b => (rw [hs]; decide)
  case z145 => exact frY rfl (c_Atoi rfl rfl (ev_tmp h7))
  case z146 =>
  rintro _ w1 a ⟨⟨n, tp, pv, rfl⟩, l1⟩ F0
  replace hs := F0.z.trans hs
  replace hd := F0.e.trans hd
  replace h0 := (F0.n 0 (by decide)).trans h0
  replace h2 := (F0.n 2 (by decide)).trans h2
  replace h3 := (F0.n 3 (by decide)).trans h3
  clear h7
  have h8 := F0.s
  clear F0
  clear hx hc
  refine opL 2 6 (v := .tuple #[.int .i64 n, .iface tp pv]) (w' := w1) (by kernel_rfl) (frZ hs) ?_ ?_
  · exact frY rfl (k_move rfl (ev_tmp h8))
  refine frN3 hs hd h0 h2 h3 ?_; clear hs hd h0 h2 h3 h8; intro a hs hd h0 h2 h3 h6
  refine opL 3 9 (v := .int .i64 n) (w' := w1) (by kernel_rfl) (frZ hs) ?_ ?_
  · exact frY rfl (k_extract rfl (ev_tmp h6) rfl)
  revert hs hd h0 h2 h3 h6; refine frM4 ?_; intro a hs hd h0 h2 h3 h6 h9
  refine opL 4 10 (v := .iface tp pv) (w' := w1) (by kernel_rfl) (frZ hs) ?_ ?_
  · exact frY rfl (k_extract rfl (ev_tmp h6) rfl)
  clear h6; revert hs hd h0 h2 h3 h9; refine frM4 ?_; intro a hs hd h0 h2 h3 h9 h10
  refine opL 5 4 (v := .int .i64 n) (w' := w1) (by kernel_rfl) (frZ hs) ?_ ?_
  · exact frY rfl (k_assign rfl (ev_tmp h9))
  clear h9; revert hs hd h0 h2 h3 h10; refine frM4 ?_; intro a hs hd h0 h2 h3 h10 h4
  refine opL 6 5 (v := .iface tp pv) (w' := w1) (by kernel_rfl) (frZ hs) ?_ ?_
  · exact frY rfl (k_assign rfl (ev_tmp h10))
  clear h10; revert hs hd h0 h2 h3 h4; refine frM4 ?_; intro a hs hd h0 h2 h3 h4 h5
  refine wp_seq ?_
  refine wp_seq ?_
  refine wp_region (show wpOps _ _ _ [0, 1, 2, 3, 4, 5, 6, 7] _ _ from ?_)
  refine opL 0 11 (v := .iface tp pv) (w' := w1) (by kernel_rfl) (frZ hs) ?_ ?_
  · exact frY rfl (k_move rfl (ev_tmp h5))
  revert hs hd h0 h2 h3 h4 h5; refine frM5 ?_; intro a hs hd h0 h2 h3 h4 h5 h11
  refine opL 1 12 (v := .bool true) (w' := w1) (by kernel_rfl) (frZ hs) ?_ ?_
  · exact frY rfl (o_neErr rfl (ev_tmp h11) rfl)
  clear h11; revert hs hd h0 h2 h3 h4 h5; refine frM5 ?_; intro a hs hd h0 h2 h3 h4 h5 h12
  refine opL 2 13 (v := .bool true) (w' := w1) (by kernel_rfl) (frZ hs) ?_ ?_
  · exact frY rfl (k_move rfl (ev_tmp h12))
  clear h12; revert hs hd h0 h2 h3 h4 h5; refine frM5 ?_; intro a hs hd h0 h2 h3 h4 h5 h13
  refine opL_not 3 14 (by kernel_rfl) (frZ hs) ?z163 ?z164
  case z163 => (intro o ho; obtain rfl := Option.some.inj ho; exact wanted_at (b := true) (want := false) rfl (by kernel_rfl) h13)
  case z164 =>
  refine frN6 hs hd h0 h2 h3 h4 h5 h13 ?_; clear hs hd h0 h2 h3 h4 h5 h13; intro a hs hd h0 h2 h3 h4 h5 h13 h14
  refine opL_not 4 15 (by kernel_rfl) (frZ hs) ?z165 ?z166
  case z165 => (intro o ho; obtain rfl := Option.some.inj ho; exact wanted_at (b := true) (want := false) rfl (by kernel_rfl) h13)
  case z166 =>
  refine frN6 hs hd h0 h2 h3 h4 h5 h13 ?_; clear hs hd h0 h2 h3 h4 h5 h13 h14; intro a hs hd h0 h2 h3 h4 h5 h13 h15
  refine opL_not 5 16 (by kernel_rfl) (frZ hs) ?z167 ?z168
  case z167 => (intro o ho; obtain rfl := Option.some.inj ho; exact wanted_at (b := true) (want := false) rfl (by kernel_rfl) h13)
  case z168 =>
  refine frN7 hs hd h0 h2 h3 h4 h5 h13 h15 ?_; clear hs hd h0 h2 h3 h4 h5 h13 h15; intro a hs hd h0 h2 h3 h4 h5 h13 h15 h16
  refine opL_not 6 17 (by kernel_rfl) (frZ hs) ?z169 ?z170
  case z169 => (intro o ho; obtain rfl := Option.some.inj ho; exact wanted_at (b := true) (want := false) rfl (by kernel_rfl) h13)
  case z170 =>
  refine frN6 hs hd h0 h2 h3 h4 h5 h13 ?_; clear hs hd h0 h2 h3 h4 h5 h13 h15 h16; intro a hs hd h0 h2 h3 h4 h5 h13 h17
  refine opL 7 18 (v := .bool true) (w' := w1) (by kernel_rfl) (frZ hs) ?_ ?_
  · exact frY rfl (k_pick_yes rfl (ev_tmp h13) rfl)
  clear h13 h17; revert hs hd h0 h2 h3 h4 h5; refine frM5 ?_; intro a hs hd h0 h2 h3 h4 h5 h18
  refine wp_cond_true (ev_tmp h18) ?_
  refine wp_seq ?_
  refine wp_region (show wpOps _ _ _ [0, 1] _ _ from ?_)
  refine opL 0 2 (v := .int .i64 0) (w' := w1) (by kernel_rfl) (frZ hs) ?_ ?_
  · exact frY rfl (k_assign rfl rfl)
  clear h2; revert hs hd h0 h3 h4 h5 h18; refine frM5 ?_; intro a hs hd h0 h3 h4 h5 h18 h2
  refine opL 1 3 (v := .bool false) (w' := w1) (by kernel_rfl) (frZ hs) ?_ ?_
  · exact frY rfl (k_assign rfl rfl)
  clear h3; revert hs hd h0 h4 h5 h18 h2; refine frM5 ?_; intro a hs hd h0 h4 h5 h18 h2 h3
  refine wp_ret ?_
  exact hfin a _ _ _ hd h2 h3 (by rw [Rfc.pnum_no h]; rfl) l1

set_option maxRecDepth 100000 in
set_option maxHeartbeats 1000000 in
theorem pn_same (s : List UInt8) (w : World) (hT : Tabs w) (hl : s.length ≤ 100000) (n : Int) (h : Lib.atoiAll s = .ok n) (he : Lib.itoa n = s) :
    Calls Tryz.prog 63 #[.string ⟨s.toArray⟩] w fun e w' => ∃ v, e = .returned v ∧ v = ov (Rfc.pnum s) ∧ Below w.heap.size w w' := by
  refine calls_of_wp Tryz.func63 (show Tryz.f63.body = some pnBody from rfl) ?_
  generalize hAA : (Act.mk (#[.string ⟨s.toArray⟩] ++ Array.replicate (Tryz.f63.ntmps - (#[.string ⟨s.toArray⟩] : Array Value).size) undef) []) = a
  have hs : a.tmps.size = 20 := by rw [← hAA]; simp [Tryz.ntmps63]
  have hd : a.defers = [] := by rw [← hAA]
  have h0 : a.tmps.getD 0 undef = .string ⟨s.toArray⟩ := by rw [← hAA]; simp
  clear hAA
  have hfin : ∀ (a' : Act) (w' : World) (x y : Value), a'.defers = [] → a'.tmps.getD 2 undef = x → a'.tmps.getD 3 undef = y → .tuple #[x, y] = ov (Rfc.pnum s) → Below w.heap.size w w' → (bodyPost Tryz.prog Tryz.f63 fun e w' => ∃ v, e = .returned v ∧ v = ov (Rfc.pnum s) ∧ Below w.heap.size w w') .ret a' w' := by
    intro a' w' x y k1 k2 k3 k4 k5
    exact ⟨k1, _, results2 rfl _ _ _, _, rfl, by rw [k2, k3, k4], k5⟩
  generalize (bodyPost Tryz.prog Tryz.f63 fun e w' => ∃ v, e = .returned v ∧ v = ov (Rfc.pnum s) ∧ Below w.heap.size w w') = Q at hfin
  unfold pnBody
  conv => arg 2; whnf
  refine wp_seq ?_
  refine wp_region (show wpOps _ _ _ [0, 1] _ _ from ?_)
  refine opL 0 2 (v := .int .i64 0) (w' := w) (by kernel_rfl) (frZ hs) ?_ ?_
  · exact frY rfl (k_assign rfl rfl)
  refine frN1 hs hd h0 ?_; clear hs hd h0; intro a hs hd h0 h2
  refine opL 1 3 (v := .bool false) (w' := w) (by kernel_rfl) (frZ hs) ?_ ?_
  · exact frY rfl (k_assign rfl rfl)
  revert hs hd h0 h2; refine frM2 ?_; intro a hs hd h0 h2 h3
  refine wp_seq ?_
  refine wp_region (show wpOps _ _ _ [0, 1, 2, 3, 4, 5, 6] _ _ from ?_)
  refine opL 0 7 (v := .string ⟨s.toArray⟩) (w' := w) (by kernel_rfl) (frZ hs) ?_ ?_
  · exact frY rfl (k_move rfl (ev_tmp h0))
  revert hs hd h0 h2 h3; refine frM3 ?_; intro a hs hd h0 h2 h3 h7
  have hc := atoi_ok s n w hl h
  have hx := fun ops Q rest d a i h1 h2 h3 => opL_call (P := Tryz.prog) (ops := ops) (Q := Q) (a := a) (w := w) (rest := rest) i d h1 h2 h3 hc
  refine hx _ _ _ 8 _ 1 ?z183a ?z183b ?z183 ?z184
  case z183a => kernel_rfl
  case z183b => (rw [hs]; decide)
  case z183 => exact frY rfl (c_Atoi rfl rfl (ev_tmp h7))
  case z184 =>
  rintro _ w1 a ⟨rfl, l1⟩ F0
  replace hs := F0.z.trans hs
  replace hd := F0.e.trans hd
  replace h0 := (F0.n 0 (by decide)).trans h0
  replace h2 := (F0.n 2 (by decide)).trans h2
  replace h3 := (F0.n 3 (by decide)).trans h3
  clear h7
  have h8 := F0.s
  clear F0
  clear hx hc
  refine opL 2 6 (v := .tuple #[.int .i64 n, .nilIface]) (w' := w1) (by kernel_rfl) (frZ hs) ?_ ?_
  · exact frY rfl (k_move rfl (ev_tmp h8))
  refine frN3 hs hd h0 h2 h3 ?_; clear hs hd h0 h2 h3 h8; intro a hs hd h0 h2 h3 h6
  refine opL 3 9 (v := .int .i64 n) (w' := w1) (by kernel_rfl) (frZ hs) ?_ ?_
  · exact frY rfl (k_extract rfl (ev_tmp h6) rfl)
  revert hs hd h0 h2 h3 h6; refine frM4 ?_; intro a hs hd h0 h2 h3 h6 h9
  refine opL 4 10 (v := .nilIface) (w' := w1) (by kernel_rfl) (frZ hs) ?_ ?_
  · exact frY rfl (k_extract rfl (ev_tmp h6) rfl)
  clear h6; revert hs hd h0 h2 h3 h9; refine frM4 ?_; intro a hs hd h0 h2 h3 h9 h10
  refine opL 5 4 (v := .int .i64 n) (w' := w1) (by kernel_rfl) (frZ hs) ?_ ?_
  · exact frY rfl (k_assign rfl (ev_tmp h9))
  clear h9; revert hs hd h0 h2 h3 h10; refine frM4 ?_; intro a hs hd h0 h2 h3 h10 h4
  refine opL 6 5 (v := .nilIface) (w' := w1) (by kernel_rfl) (frZ hs) ?_ ?_
  · exact frY rfl (k_assign rfl (ev_tmp h10))
  clear h10; revert hs hd h0 h2 h3 h4; refine frM4 ?_; intro a hs hd h0 h2 h3 h4 h5
  refine wp_seq ?_
  refine wp_seq ?_
  refine wp_region (show wpOps _ _ _ [0, 1, 2, 3, 4, 5, 6, 7] _ _ from ?_)
  refine opL 0 11 (v := .nilIface) (w' := w1) (by kernel_rfl) (frZ hs) ?_ ?_
  · exact frY rfl (k_move rfl (ev_tmp h5))
  revert hs hd h0 h2 h3 h4 h5; refine frM5 ?_; intro a hs hd h0 h2 h3 h4 h5 h11
  refine opL 1 12 (v := .bool false) (w' := w1) (by kernel_rfl) (frZ hs) ?_ ?_
  · exact frY rfl (o_neNil rfl (ev_tmp h11) rfl)
  clear h11; revert hs hd h0 h2 h3 h4 h5; refine frM5 ?_; intro a hs hd h0 h2 h3 h4 h5 h12
  refine opL 2 13 (v := .bool false) (w' := w1) (by kernel_rfl) (frZ hs) ?_ ?_
  · exact frY rfl (k_move rfl (ev_tmp h12))
  clear h12; revert hs hd h0 h2 h3 h4 h5; refine frM5 ?_; intro a hs hd h0 h2 h3 h4 h5 h13
  refine opL 3 14 (v := .int .i64 n) (w' := w1) (by kernel_rfl) (frZ hs) ?z201 ?z202
  case z201 => (intro o ho; obtain rfl := Option.some.inj ho; exact ⟨wanted_at (b := false) (want := false) rfl (by kernel_rfl) h13, k_move rfl (ev_tmp h4)⟩)
  case z202 =>
  refine frN6 hs hd h0 h2 h3 h4 h5 h13 ?_; clear hs hd h0 h2 h3 h4 h5 h13; intro a hs hd h0 h2 h3 h4 h5 h13 h14
  have hc := itoa_any n w1 (hT.below l1) (Rfc.atoi_bd h)
  have hx := fun ops Q rest d a i h1 h2 h3 => opL_call (P := Tryz.prog) (ops := ops) (Q := Q) (a := a) (w := w1) (rest := rest) i d h1 h2 h3 hc
  refine hx _ _ _ 15 _ 4 ?z203a ?z203b ?z203 ?z204
  case z203a => kernel_rfl
  case z203b => (rw [hs]; decide)
  case z203 => (intro o ho; obtain rfl := Option.some.inj ho; exact ⟨wanted_at (b := false) (want := false) rfl (by kernel_rfl) h13, c_Itoa rfl rfl (ev_tmp h14)⟩)
  case z204 =>
  rintro _ w2 a ⟨rfl, l2⟩ F0
  replace hs := F0.z.trans hs
  replace hd := F0.e.trans hd
  replace h0 := (F0.n 0 (by decide)).trans h0
  replace h2 := (F0.n 2 (by decide)).trans h2
  replace h3 := (F0.n 3 (by decide)).trans h3
  replace h4 := (F0.n 4 (by decide)).trans h4
  replace h5 := (F0.n 5 (by decide)).trans h5
  replace h13 := (F0.n 13 (by decide)).trans h13
  clear h14
  have h15 := F0.s
  clear F0
  clear hx hc
  refine opL 5 16 (v := .string ⟨s.toArray⟩) (w' := w2) (by kernel_rfl) (frZ hs) ?z205 ?z206
  case z205 => (intro o ho; obtain rfl := Option.some.inj ho; exact ⟨wanted_at (b := false) (want := false) rfl (by kernel_rfl) h13, k_move rfl (ev_tmp h0)⟩)
  case z206 =>
  refine frN7 hs hd h0 h2 h3 h4 h5 h13 h15 ?_; clear hs hd h0 h2 h3 h4 h5 h13 h15; intro a hs hd h0 h2 h3 h4 h5 h13 h15 h16
  refine opL 6 17 (v := .bool false) (w' := w2) (by kernel_rfl) (frZ hs) ?z207 ?z208
  case z207 => (intro o ho; obtain rfl := Option.some.inj ho; exact ⟨wanted_at (b := false) (want := false) rfl (by kernel_rfl) h13, o_neStr rfl (ev_tmp h15) (ev_tmp h16) (by rw [ba_list, ba_list]; simp [he])⟩)
  case z208 =>
  refine frN6 hs hd h0 h2 h3 h4 h5 h13 ?_; clear hs hd h0 h2 h3 h4 h5 h13 h15 h16; intro a hs hd h0 h2 h3 h4 h5 h13 h17
  refine opL 7 18 (v := .bool false) (w' := w2) (by kernel_rfl) (frZ hs) ?_ ?_
  · exact frY rfl (k_pick_no rfl (ev_tmp h13) (ev_tmp h17))
  clear h13 h17; revert hs hd h0 h2 h3 h4 h5; refine frM5 ?_; intro a hs hd h0 h2 h3 h4 h5 h18
  refine wp_cond_false (ev_tmp h18) ?_
  refine wp_skip ?_
  refine wp_seq ?_
  refine wp_region (show wpOps _ _ _ [0, 1, 2] _ _ from ?_)
  refine opL 0 19 (v := .int .i64 n) (w' := w2) (by kernel_rfl) (frZ hs) ?_ ?_
  · exact frY rfl (k_move rfl (ev_tmp h4))
  revert hs hd h0 h2 h3 h4 h5 h18; refine frM6 ?_; intro a hs hd h0 h2 h3 h4 h5 h18 h19
  refine opL 1 2 (v := .int .i64 n) (w' := w2) (by kernel_rfl) (frZ hs) ?_ ?_
  · exact frY rfl (k_assign rfl (ev_tmp h19))
  clear h2 h19; revert hs hd h0 h3 h4 h5 h18; refine frM5 ?_; intro a hs hd h0 h3 h4 h5 h18 h2
  refine opL 2 3 (v := .bool true) (w' := w2) (by kernel_rfl) (frZ hs) ?_ ?_
  · exact frY rfl (k_assign rfl rfl)
  clear h3; revert hs hd h0 h4 h5 h18 h2; refine frM5 ?_; intro a hs hd h0 h4 h5 h18 h2 h3
  refine wp_ret ?_
  exact hfin a _ _ _ hd h2 h3 (by rw [Rfc.pnum_ok h, if_pos he]; rfl) (l1.trans (l2.mono l1.size))

set_option maxRecDepth 100000 in
set_option maxHeartbeats 1000000 in
theorem pn_other (s : List UInt8) (w : World) (hT : Tabs w) (hl : s.length ≤ 100000) (n : Int) (h : Lib.atoiAll s = .ok n) (he : ¬ Lib.itoa n = s) :
    Calls Tryz.prog 63 #[.string ⟨s.toArray⟩] w fun e w' => ∃ v, e = .returned v ∧ v = ov (Rfc.pnum s) ∧ Below w.heap.size w w' := by
  refine calls_of_wp Tryz.func63 (show Tryz.f63.body = some pnBody from rfl) ?_
  generalize hAA : (Act.mk (#[.string ⟨s.toArray⟩] ++ Array.replicate (Tryz.f63.ntmps - (#[.string ⟨s.toArray⟩] : Array Value).size) undef) []) = a
  have hs : a.tmps.size = 20 := by rw [← hAA]; simp [Tryz.ntmps63]
  have hd : a.defers = [] := by rw [← hAA]
  have h0 : a.tmps.getD 0 undef = .string ⟨s.toArray⟩ := by rw [← hAA]; simp
  clear hAA
  have hfin : ∀ (a' : Act) (w' : World) (x y : Value), a'.defers = [] → a'.tmps.getD 2 undef = x → a'.tmps.getD 3 undef = y → .tuple #[x, y] = ov (Rfc.pnum s) → Below w.heap.size w w' → (bodyPost Tryz.prog Tryz.f63 fun e w' => ∃ v, e = .returned v ∧ v = ov (Rfc.pnum s) ∧ Below w.heap.size w w') .ret a' w' := by
    intro a' w' x y k1 k2 k3 k4 k5
    exact ⟨k1, _, results2 rfl _ _ _, _, rfl, by rw [k2, k3, k4], k5⟩
  generalize (bodyPost Tryz.prog Tryz.f63 fun e w' => ∃ v, e = .returned v ∧ v = ov (Rfc.pnum s) ∧ Below w.heap.size w w') = Q at hfin
  unfold pnBody
  conv => arg 2; whnf
  refine wp_seq ?_
  refine wp_region (show wpOps _ _ _ [0, 1] _ _ from ?_)
  refine opL 0 2 (v := .int .i64 0) (w' := w) (by kernel_rfl) (frZ hs) ?_ ?_
  · exact frY rfl (k_assign rfl rfl)
  refine frN1 hs hd h0 ?_; clear hs hd h0; intro a hs hd h0 h2
  refine opL 1 3 (v := .bool false) (w' := w) (by kernel_rfl) (frZ hs) ?_ ?_
  · exact frY rfl (k_assign rfl rfl)
  revert hs hd h0 h2; refine frM2 ?_; intro a hs hd h0 h2 h3
  refine wp_seq ?_
  refine wp_region (show wpOps _ _ _ [0, 1, 2, 3, 4, 5, 6] _ _ from ?_)
  refine opL 0 7 (v := .string ⟨s.toArray⟩) (w' := w) (by kernel_rfl) (frZ hs) ?_ ?_
  · exact frY rfl (k_move rfl (ev_tmp h0))
  revert hs hd h0 h2 h3; refine frM3 ?_; intro a hs hd h0 h2 h3 h7
  have hc := atoi_ok s n w hl h
  have hx := fun ops Q rest d a i h1 h2 h3 => opL_call (P := Tryz.prog) (ops := ops) (Q := Q) (a := a) (w := w) (rest := rest) i d h1 h2 h3 hc
  refine hx _ _ _ 8 _ 1 ?z223a ?z223b ?z223 ?z224
  case z223a => kernel_rfl
  case z223b => (rw [hs]; decide)
  case z223 => exact frY rfl (c_Atoi rfl rfl (ev_tmp h7))
  case z224 =>
  rintro _ w1 a ⟨rfl, l1⟩ F0
  replace hs := F0.z.trans hs
  replace hd := F0.e.trans hd
  replace h0 := (F0.n 0 (by decide)).trans h0
  replace h2 := (F0.n 2 (by decide)).trans h2
  replace h3 := (F0.n 3 (by decide)).trans h3
  clear h7
  have h8 := F0.s
  clear F0
  clear hx hc
  refine opL 2 6 (v := .tuple #[.int .i64 n, .nilIface]) (w' := w1) (by kernel_rfl) (frZ hs) ?_ ?_
  · exact frY rfl (k_move rfl (ev_tmp h8))
  refine frN3 hs hd h0 h2 h3 ?_; clear hs hd h0 h2 h3 h8; intro a hs hd h0 h2 h3 h6
  refine opL 3 9 (v := .int .i64 n) (w' := w1) (by kernel_rfl) (frZ hs) ?_ ?_
  · exact frY rfl (k_extract rfl (ev_tmp h6) rfl)
  revert hs hd h0 h2 h3 h6; refine frM4 ?_; intro a hs hd h0 h2 h3 h6 h9
  refine opL 4 10 (v := .nilIface) (w' := w1) (by kernel_rfl) (frZ hs) ?_ ?_
  · exact frY rfl (k_extract rfl (ev_tmp h6) rfl)
  clear h6; revert hs hd h0 h2 h3 h9; refine frM4 ?_; intro a hs hd h0 h2 h3 h9 h10
  refine opL 5 4 (v := .int .i64 n) (w' := w1) (by kernel_rfl) (frZ hs) ?_ ?_
  · exact frY rfl (k_assign rfl (ev_tmp h9))
  clear h9; revert hs hd h0 h2 h3 h10; refine frM4 ?_; intro a hs hd h0 h2 h3 h10 h4
  refine opL 6 5 (v := .nilIface) (w' := w1) (by kernel_rfl) (frZ hs) ?_ ?_
  · exact frY rfl (k_assign rfl (ev_tmp h10))
  clear h10; revert hs hd h0 h2 h3 h4; refine frM4 ?_; intro a hs hd h0 h2 h3 h4 h5
  refine wp_seq ?_
  refine wp_seq ?_
  refine wp_region (show wpOps _ _ _ [0, 1, 2, 3, 4, 5, 6, 7] _ _ from ?_)
  refine opL 0 11 (v := .nilIface) (w' := w1) (by kernel_rfl) (frZ hs) ?_ ?_
  · exact frY rfl (k_move rfl (ev_tmp h5))
  revert hs hd h0 h2 h3 h4 h5; refine frM5 ?_; intro a hs hd h0 h2 h3 h4 h5 h11
  refine opL 1 12 (v := .bool false) (w' := w1) (by kernel_rfl) (frZ hs) ?_ ?_
  · exact frY rfl (o_neNil rfl (ev_tmp h11) rfl)
  clear h11; revert hs hd h0 h2 h3 h4 h5; refine frM5 ?_; intro a hs hd h0 h2 h3 h4 h5 h12
  refine opL 2 13 (v := .bool false) (w' := w1) (by kernel_rfl) (frZ hs) ?_ ?_
  · exact frY rfl (k_move rfl (ev_tmp h12))
  clear h12; revert hs hd h0 h2 h3 h4 h5; refine frM5 ?_; intro a hs hd h0 h2 h3 h4 h5 h13
  refine opL 3 14 (v := .int .i64 n) (w' := w1) (by kernel_rfl) (frZ hs) ?z241 ?z242
  case z241 => (intro o ho; obtain rfl := Option.some.inj ho; exact ⟨wanted_at (b := false) (want := false) rfl (by kernel_rfl) h13, k_move rfl (ev_tmp h4)⟩)
  case z242 =>
  refine frN6 hs hd h0 h2 h3 h4 h5 h13 ?_; clear hs hd h0 h2 h3 h4 h5 h13; intro a hs hd h0 h2 h3 h4 h5 h13 h14
  have hc := itoa_any n w1 (hT.below l1) (Rfc.atoi_bd h)
  have hx := fun ops Q rest d a i h1 h2 h3 => opL_call (P := Tryz.prog) (ops := ops) (Q := Q) (a := a) (w := w1) (rest := rest) i d h1 h2 h3 hc
  refine hx _ _ _ 15 _ 4 ?z243a ?z243b ?z243 ?z244
  case z243a => kernel_rfl
  case z243b => (rw [hs]; decide)
  case z243 => (intro o ho; obtain rfl := Option.some.inj ho; exact ⟨wanted_at (b := false) (want := false) rfl (by kernel_rfl) h13, c_Itoa rfl rfl (ev_tmp h14)⟩)
  case z244 =>
  rintro _ w2 a ⟨rfl, l2⟩ F0
  replace hs := F0.z.trans hs
  replace hd := F0.e.trans hd
  replace h0 := (F0.n 0 (by decide)).trans h0
  replace h2 := (F0.n 2 (by decide)).trans h2
  replace h3 := (F0.n 3 (by decide)).trans h3
  replace h4 := (F0.n 4 (by decide)).trans h4
  replace h5 := (F0.n 5 (by decide)).trans h5
  replace h13 := (F0.n 13 (by decide)).trans h13
  clear h14
  have h15 := F0.s
  clear F0
  clear hx hc
  refine opL 5 16 (v := .string ⟨s.toArray⟩) (w' := w2) (by kernel_rfl) (frZ hs) ?z245 ?z246
  case z245 => (intro o ho; obtain rfl := Option.some.inj ho; exact ⟨wanted_at (b := false) (want := false) rfl (by kernel_rfl) h13, k_move rfl (ev_tmp h0)⟩)
  case z246 =>
  refine frN7 hs hd h0 h2 h3 h4 h5 h13 h15 ?_; clear hs hd h0 h2 h3 h4 h5 h13 h15; intro a hs hd h0 h2 h3 h4 h5 h13 h15 h16
  refine opL 6 17 (v := .bool true) (w' := w2) (by kernel_rfl) (frZ hs) ?z247 ?z248
  case z247 => (intro o ho; obtain rfl := Option.some.inj ho; exact ⟨wanted_at (b := false) (want := false) rfl (by kernel_rfl) h13, o_neStr rfl (ev_tmp h15) (ev_tmp h16) (by rw [ba_list, ba_list]; simp [he])⟩)
  case z248 =>
  refine frN6 hs hd h0 h2 h3 h4 h5 h13 ?_; clear hs hd h0 h2 h3 h4 h5 h13 h15 h16; intro a hs hd h0 h2 h3 h4 h5 h13 h17
  refine opL 7 18 (v := .bool true) (w' := w2) (by kernel_rfl) (frZ hs) ?_ ?_
  · exact frY rfl (k_pick_no rfl (ev_tmp h13) (ev_tmp h17))
  clear h13 h17; revert hs hd h0 h2 h3 h4 h5; refine frM5 ?_; intro a hs hd h0 h2 h3 h4 h5 h18
  refine wp_cond_true (ev_tmp h18) ?_
  refine wp_seq ?_
  refine wp_region (show wpOps _ _ _ [0, 1] _ _ from ?_)
  refine opL 0 2 (v := .int .i64 0) (w' := w2) (by kernel_rfl) (frZ hs) ?_ ?_
  · exact frY rfl (k_assign rfl rfl)
  clear h2; revert hs hd h0 h3 h4 h5 h18; refine frM5 ?_; intro a hs hd h0 h3 h4 h5 h18 h2
  refine opL 1 3 (v := .bool false) (w' := w2) (by kernel_rfl) (frZ hs) ?_ ?_
  · exact frY rfl (k_assign rfl rfl)
  clear h3; revert hs hd h0 h4 h5 h18 h2; refine frM5 ?_; intro a hs hd h0 h4 h5 h18 h2 h3
  refine wp_ret ?_
  exact hfin a _ _ _ hd h2 h3 (by rw [Rfc.pnum_ok h, if_neg he]; rfl) (l1.trans (l2.mono l1.size))

theorem pn_any (s : List UInt8) (w : World) (hT : Tabs w) (hl : s.length ≤ 100000) :
    Calls Tryz.prog 63 #[.string ⟨s.toArray⟩] w fun e w' => ∃ v, e = .returned v ∧ v = ov (Rfc.pnum s) ∧ Below w.heap.size w w' := by
  rcases h : Lib.atoiAll s with n | _ | _
  · by_cases he : Lib.itoa n = s
    · exact pn_same s w hT hl n h he
    · exact pn_other s w hT hl n h he
  · exact pn_no s w hT hl (fun v e => by rw [h] at e; cases e)
  · exact pn_no s w hT hl (fun v e => by rw [h] at e; cases e)
noncomputable def pzBody : Code := Tryz.f64.body.getD .skip

set_option maxRecDepth 100000 in
set_option maxHeartbeats 1000000 in
theorem pz_none (s : List UInt8) (w : World) (hT : Tabs w) (hl : s.length ≤ 100000) (h : Rfc.pnum s = none) :
    Calls Tryz.prog 64 #[.string ⟨s.toArray⟩] w fun e w' => ∃ v, e = .returned v ∧ v = ov (Rfc.pnz s) ∧ Below w.heap.size w w' := by
  refine calls_of_wp Tryz.func64 (show Tryz.f64.body = some pzBody from rfl) ?_
  generalize hAA : (Act.mk (#[.string ⟨s.toArray⟩] ++ Array.replicate (Tryz.f64.ntmps - (#[.string ⟨s.toArray⟩] : Array Value).size) undef) []) = a
  have hs : a.tmps.size = 17 := by rw [← hAA]; simp [Tryz.ntmps64]
  have hd : a.defers = [] := by rw [← hAA]
  have h0 : a.tmps.getD 0 undef = .string ⟨s.toArray⟩ := by rw [← hAA]; simp
  clear hAA
  have hfin : ∀ (a' : Act) (w' : World) (x y : Value), a'.defers = [] → a'.tmps.getD 2 undef = x → a'.tmps.getD 3 undef = y → .tuple #[x, y] = ov (Rfc.pnz s) → Below w.heap.size w w' → (bodyPost Tryz.prog Tryz.f64 fun e w' => ∃ v, e = .returned v ∧ v = ov (Rfc.pnz s) ∧ Below w.heap.size w w') .ret a' w' := by
    intro a' w' x y k1 k2 k3 k4 k5
    exact ⟨k1, _, results2 rfl _ _ _, _, rfl, by rw [k2, k3, k4], k5⟩
  generalize (bodyPost Tryz.prog Tryz.f64 fun e w' => ∃ v, e = .returned v ∧ v = ov (Rfc.pnz s) ∧ Below w.heap.size w w') = Q at hfin
  unfold pzBody
  conv => arg 2; whnf
  refine wp_seq ?_
  refine wp_region (show wpOps _ _ _ [0, 1] _ _ from ?_)
  refine opL 0 2 (v := .int .i64 0) (w' := w) (by kernel_rfl) (frZ hs) ?_ ?_
  · exact frY rfl (k_assign rfl rfl)
  refine frN1 hs hd h0 ?_; clear hs hd h0; intro a hs hd h0 h2
  refine opL 1 3 (v := .bool false) (w' := w) (by kernel_rfl) (frZ hs) ?_ ?_
  · exact frY rfl (k_assign rfl rfl)
  revert hs hd h0 h2; refine frM2 ?_; intro a hs hd h0 h2 h3
  refine wp_seq ?_
  refine wp_region (show wpOps _ _ _ [0, 1, 2, 3, 4, 5, 6] _ _ from ?_)
  refine opL 0 7 (v := .string ⟨s.toArray⟩) (w' := w) (by kernel_rfl) (frZ hs) ?_ ?_
  · exact frY rfl (k_move rfl (ev_tmp h0))
  revert hs hd h0 h2 h3; refine frM3 ?_; intro a hs hd h0 h2 h3 h7
  have hc := pn_any s w hT hl
  have hx := fun ops Q rest d a i h1 h2 h3 => opL_call (P := Tryz.prog) (ops := ops) (Q := Q) (a := a) (w := w) (rest := rest) i d h1 h2 h3 hc
  refine hx _ _ _ 8 _ 1 ?z261a ?z261b ?z261 ?z262
  case z261a => kernel_rfl
  case z261b => (rw [hs]; decide)
  case z261 => exact frY rfl (c_pNum rfl rfl (ev_tmp h7))
  case z262 =>
  rintro _ w1 a ⟨rfl, l1⟩ F0
  rw [h] at F0
  replace hs := F0.z.trans hs
  replace hd := F0.e.trans hd
  replace h0 := (F0.n 0 (by decide)).trans h0
  replace h2 := (F0.n 2 (by decide)).trans h2
  replace h3 := (F0.n 3 (by decide)).trans h3
  clear h7
  have h8 := F0.s
  clear F0
  clear hx hc
  refine opL 2 6 (v := .tuple #[.int .i64 0, .bool false]) (w' := w1) (by kernel_rfl) (frZ hs) ?_ ?_
  · exact frY rfl (k_move rfl (ev_tmp h8))
  refine frN3 hs hd h0 h2 h3 ?_; clear hs hd h0 h2 h3 h8; intro a hs hd h0 h2 h3 h6
  refine opL 3 9 (v := .int .i64 0) (w' := w1) (by kernel_rfl) (frZ hs) ?_ ?_
  · exact frY rfl (k_extract rfl (ev_tmp h6) rfl)
  revert hs hd h0 h2 h3 h6; refine frM4 ?_; intro a hs hd h0 h2 h3 h6 h9
  refine opL 4 10 (v := .bool false) (w' := w1) (by kernel_rfl) (frZ hs) ?_ ?_
  · exact frY rfl (k_extract rfl (ev_tmp h6) rfl)
  clear h6; revert hs hd h0 h2 h3 h9; refine frM4 ?_; intro a hs hd h0 h2 h3 h9 h10
  refine opL 5 4 (v := .int .i64 0) (w' := w1) (by kernel_rfl) (frZ hs) ?_ ?_
  · exact frY rfl (k_assign rfl (ev_tmp h9))
  clear h9; revert hs hd h0 h2 h3 h10; refine frM4 ?_; intro a hs hd h0 h2 h3 h10 h4
  refine opL 6 5 (v := .bool false) (w' := w1) (by kernel_rfl) (frZ hs) ?_ ?_
  · exact frY rfl (k_assign rfl (ev_tmp h10))
  clear h10; revert hs hd h0 h2 h3 h4; refine frM4 ?_; intro a hs hd h0 h2 h3 h4 h5
  refine wp_seq ?_
  refine wp_region (show wpOps _ _ _ [0, 1, 2, 3, 4, 5, 6, 7] _ _ from ?_)
  refine opL 0 11 (v := .int .i64 0) (w' := w1) (by kernel_rfl) (frZ hs) ?_ ?_
  · exact frY rfl (k_move rfl (ev_tmp h4))
  revert hs hd h0 h2 h3 h4 h5; refine frM5 ?_; intro a hs hd h0 h2 h3 h4 h5 h11
  refine opL 1 12 (v := .bool false) (w' := w1) (by kernel_rfl) (frZ hs) ?_ ?_
  · exact frY rfl (k_move rfl (ev_tmp h5))
  revert hs hd h0 h2 h3 h4 h5 h11; refine frM6 ?_; intro a hs hd h0 h2 h3 h4 h5 h11 h12
  refine opL 2 13 (v := .bool false) (w' := w1) (by kernel_rfl) (frZ hs) ?_ ?_
  · exact frY rfl (k_move rfl (ev_tmp h12))
  clear h12; revert hs hd h0 h2 h3 h4 h5 h11; refine frM6 ?_; intro a hs hd h0 h2 h3 h4 h5 h11 h13
  refine opL_not 3 14 (by kernel_rfl) (frZ hs) ?z279 ?z280
  case z279 => (intro o ho; obtain rfl := Option.some.inj ho; exact wanted_at (b := false) (want := true) rfl (by kernel_rfl) h13)
  case z280 =>
  refine frN7 hs hd h0 h2 h3 h4 h5 h11 h13 ?_; clear hs hd h0 h2 h3 h4 h5 h11 h13; intro a hs hd h0 h2 h3 h4 h5 h11 h13 h14
  refine opL_not 4 15 (by kernel_rfl) (frZ hs) ?z281 ?z282
  case z281 => (intro o ho; obtain rfl := Option.some.inj ho; exact wanted_at (b := false) (want := true) rfl (by kernel_rfl) h13)
  case z282 =>
  refine frN7 hs hd h0 h2 h3 h4 h5 h11 h13 ?_; clear hs hd h0 h2 h3 h4 h5 h11 h13 h14; intro a hs hd h0 h2 h3 h4 h5 h11 h13 h15
  refine opL 5 16 (v := .bool false) (w' := w1) (by kernel_rfl) (frZ hs) ?_ ?_
  · exact frY rfl (k_pick_no rfl (ev_tmp h13) rfl)
  clear h13 h15; revert hs hd h0 h2 h3 h4 h5 h11; refine frM6 ?_; intro a hs hd h0 h2 h3 h4 h5 h11 h16
  refine opL 6 2 (v := .int .i64 0) (w' := w1) (by kernel_rfl) (frZ hs) ?_ ?_
  · exact frY rfl (k_assign rfl (ev_tmp h11))
  clear h2 h11; revert hs hd h0 h3 h4 h5 h16; refine frM5 ?_; intro a hs hd h0 h3 h4 h5 h16 h2
  refine opL 7 3 (v := .bool false) (w' := w1) (by kernel_rfl) (frZ hs) ?_ ?_
  · exact frY rfl (k_assign rfl (ev_tmp h16))
  clear h3 h16; revert hs hd h0 h4 h5 h2; refine frM4 ?_; intro a hs hd h0 h4 h5 h2 h3
  refine wp_ret ?_
  exact hfin a _ _ _ hd h2 h3 (by simp [Rfc.pnz, h, ov]) l1

set_option maxRecDepth 100000 in
set_option maxHeartbeats 1000000 in
theorem pz_zero (s : List UInt8) (w : World) (hT : Tabs w) (hl : s.length ≤ 100000) (h : Rfc.pnum s = some 0) :
    Calls Tryz.prog 64 #[.string ⟨s.toArray⟩] w fun e w' => ∃ v, e = .returned v ∧ v = ov (Rfc.pnz s) ∧ Below w.heap.size w w' := by
  refine calls_of_wp Tryz.func64 (show Tryz.f64.body = some pzBody from rfl) ?_
  generalize hAA : (Act.mk (#[.string ⟨s.toArray⟩] ++ Array.replicate (Tryz.f64.ntmps - (#[.string ⟨s.toArray⟩] : Array Value).size) undef) []) = a
  have hs : a.tmps.size = 17 := by rw [← hAA]; simp [Tryz.ntmps64]
  have hd : a.defers = [] := by rw [← hAA]
  have h0 : a.tmps.getD 0 undef = .string ⟨s.toArray⟩ := by rw [← hAA]; simp
  clear hAA
  have hfin : ∀ (a' : Act) (w' : World) (x y : Value), a'.defers = [] → a'.tmps.getD 2 undef = x → a'.tmps.getD 3 undef = y → .tuple #[x, y] = ov (Rfc.pnz s) → Below w.heap.size w w' → (bodyPost Tryz.prog Tryz.f64 fun e w' => ∃ v, e = .returned v ∧ v = ov (Rfc.pnz s) ∧ Below w.heap.size w w') .ret a' w' := by
    intro a' w' x y k1 k2 k3 k4 k5
    exact ⟨k1, _, results2 rfl _ _ _, _, rfl, by rw [k2, k3, k4], k5⟩
  generalize (bodyPost Tryz.prog Tryz.f64 fun e w' => ∃ v, e = .returned v ∧ v = ov (Rfc.pnz s) ∧ Below w.heap.size w w') = Q at hfin
  unfold pzBody
  conv => arg 2; whnf
  refine wp_seq ?_
  refine wp_region (show wpOps _ _ _ [0, 1] _ _ from ?_)
  refine opL 0 2 (v := .int .i64 0) (w' := w) (by kernel_rfl) (frZ hs) ?_ ?_
  · exact frY rfl (k_assign rfl rfl)
  refine frN1 hs hd h0 ?_; clear hs hd h0; intro a hs hd h0 h2
  refine opL 1 3 (v := .bool false) (w' := w) (by kernel_rfl) (frZ hs) ?_ ?_
  · exact frY rfl (k_assign rfl rfl)
  revert hs hd h0 h2; refine frM2 ?_; intro a hs hd h0 h2 h3
  refine wp_seq ?_
  refine wp_region (show wpOps _ _ _ [0, 1, 2, 3, 4, 5, 6] _ _ from ?_)
  refine opL 0 7 (v := .string ⟨s.toArray⟩) (w' := w) (by kernel_rfl) (frZ hs) ?_ ?_
  · exact frY rfl (k_move rfl (ev_tmp h0))
  revert hs hd h0 h2 h3; refine frM3 ?_; intro a hs hd h0 h2 h3 h7
  have hc := pn_any s w hT hl
  have hx := fun ops Q rest d a i h1 h2 h3 => opL_call (P := Tryz.prog) (ops := ops) (Q := Q) (a := a) (w := w) (rest := rest) i d h1 h2 h3 hc
  refine hx _ _ _ 8 _ 1 ?z295a ?z295b ?z295 ?z296
  case z295a => kernel_rfl
  case z295b => (rw [hs]; decide)
  case z295 => exact frY rfl (c_pNum rfl rfl (ev_tmp h7))
  case z296 =>
  rintro _ w1 a ⟨rfl, l1⟩ F0
  rw [h] at F0
  replace hs := F0.z.trans hs
  replace hd := F0.e.trans hd
  replace h0 := (F0.n 0 (by decide)).trans h0
  replace h2 := (F0.n 2 (by decide)).trans h2
  replace h3 := (F0.n 3 (by decide)).trans h3
  clear h7
  have h8 := F0.s
  clear F0
  clear hx hc
  refine opL 2 6 (v := .tuple #[.int .i64 0, .bool true]) (w' := w1) (by kernel_rfl) (frZ hs) ?_ ?_
  · exact frY rfl (k_move rfl (ev_tmp h8))
  refine frN3 hs hd h0 h2 h3 ?_; clear hs hd h0 h2 h3 h8; intro a hs hd h0 h2 h3 h6
  refine opL 3 9 (v := .int .i64 0) (w' := w1) (by kernel_rfl) (frZ hs) ?_ ?_
  · exact frY rfl (k_extract rfl (ev_tmp h6) rfl)
  revert hs hd h0 h2 h3 h6; refine frM4 ?_; intro a hs hd h0 h2 h3 h6 h9
  refine opL 4 10 (v := .bool true) (w' := w1) (by kernel_rfl) (frZ hs) ?_ ?_
  · exact frY rfl (k_extract rfl (ev_tmp h6) rfl)
  clear h6; revert hs hd h0 h2 h3 h9; refine frM4 ?_; intro a hs hd h0 h2 h3 h9 h10
  refine opL 5 4 (v := .int .i64 0) (w' := w1) (by kernel_rfl) (frZ hs) ?_ ?_
  · exact frY rfl (k_assign rfl (ev_tmp h9))
  clear h9; revert hs hd h0 h2 h3 h10; refine frM4 ?_; intro a hs hd h0 h2 h3 h10 h4
  refine opL 6 5 (v := .bool true) (w' := w1) (by kernel_rfl) (frZ hs) ?_ ?_
  · exact frY rfl (k_assign rfl (ev_tmp h10))
  clear h10; revert hs hd h0 h2 h3 h4; refine frM4 ?_; intro a hs hd h0 h2 h3 h4 h5
  refine wp_seq ?_
  refine wp_region (show wpOps _ _ _ [0, 1, 2, 3, 4, 5, 6, 7] _ _ from ?_)
  refine opL 0 11 (v := .int .i64 0) (w' := w1) (by kernel_rfl) (frZ hs) ?_ ?_
  · exact frY rfl (k_move rfl (ev_tmp h4))
  revert hs hd h0 h2 h3 h4 h5; refine frM5 ?_; intro a hs hd h0 h2 h3 h4 h5 h11
  refine opL 1 12 (v := .bool true) (w' := w1) (by kernel_rfl) (frZ hs) ?_ ?_
  · exact frY rfl (k_move rfl (ev_tmp h5))
  revert hs hd h0 h2 h3 h4 h5 h11; refine frM6 ?_; intro a hs hd h0 h2 h3 h4 h5 h11 h12
  refine opL 2 13 (v := .bool true) (w' := w1) (by kernel_rfl) (frZ hs) ?_ ?_
  · exact frY rfl (k_move rfl (ev_tmp h12))
  clear h12; revert hs hd h0 h2 h3 h4 h5 h11; refine frM6 ?_; intro a hs hd h0 h2 h3 h4 h5 h11 h13
  refine opL 3 14 (v := .int .i64 0) (w' := w1) (by kernel_rfl) (frZ hs) ?z313 ?z314
  case z313 => (intro o ho; obtain rfl := Option.some.inj ho; exact ⟨wanted_at (b := true) (want := true) rfl (by kernel_rfl) h13, k_move rfl (ev_tmp h4)⟩)
  case z314 =>
  refine frN7 hs hd h0 h2 h3 h4 h5 h11 h13 ?_; clear hs hd h0 h2 h3 h4 h5 h11 h13; intro a hs hd h0 h2 h3 h4 h5 h11 h13 h14
  refine opL 4 15 (v := .bool false) (w' := w1) (by kernel_rfl) (frZ hs) ?z315 ?z316
  case z315 => (intro o ho; obtain rfl := Option.some.inj ho; exact ⟨wanted_at (b := true) (want := true) rfl (by kernel_rfl) h13, o_neI rfl (ev_tmp h14) rfl rfl⟩)
  case z316 =>
  refine frN7 hs hd h0 h2 h3 h4 h5 h11 h13 ?_; clear hs hd h0 h2 h3 h4 h5 h11 h13 h14; intro a hs hd h0 h2 h3 h4 h5 h11 h13 h15
  refine opL 5 16 (v := .bool false) (w' := w1) (by kernel_rfl) (frZ hs) ?_ ?_
  · exact frY rfl (k_pick_yes rfl (ev_tmp h13) (ev_tmp h15))
  clear h13 h15; revert hs hd h0 h2 h3 h4 h5 h11; refine frM6 ?_; intro a hs hd h0 h2 h3 h4 h5 h11 h16
  refine opL 6 2 (v := .int .i64 0) (w' := w1) (by kernel_rfl) (frZ hs) ?_ ?_
  · exact frY rfl (k_assign rfl (ev_tmp h11))
  clear h2 h11; revert hs hd h0 h3 h4 h5 h16; refine frM5 ?_; intro a hs hd h0 h3 h4 h5 h16 h2
  refine opL 7 3 (v := .bool false) (w' := w1) (by kernel_rfl) (frZ hs) ?_ ?_
  · exact frY rfl (k_assign rfl (ev_tmp h16))
  clear h3 h16; revert hs hd h0 h4 h5 h2; refine frM4 ?_; intro a hs hd h0 h4 h5 h2 h3
  refine wp_ret ?_
  exact hfin a _ _ _ hd h2 h3 (by simp [Rfc.pnz, h, ov]) l1

set_option maxRecDepth 100000 in
set_option maxHeartbeats 1000000 in
theorem pz_some (s : List UInt8) (w : World) (hT : Tabs w) (hl : s.length ≤ 100000) (n : Int) (h : Rfc.pnum s = some n) (hn : n ≠ 0) :
    Calls Tryz.prog 64 #[.string ⟨s.toArray⟩] w fun e w' => ∃ v, e = .returned v ∧ v = ov (Rfc.pnz s) ∧ Below w.heap.size w w' := by
  refine calls_of_wp Tryz.func64 (show Tryz.f64.body = some pzBody from rfl) ?_
  generalize hAA : (Act.mk (#[.string ⟨s.toArray⟩] ++ Array.replicate (Tryz.f64.ntmps - (#[.string ⟨s.toArray⟩] : Array Value).size) undef) []) = a
  have hs : a.tmps.size = 17 := by rw [← hAA]; simp [Tryz.ntmps64]
  have hd : a.defers = [] := by rw [← hAA]
  have h0 : a.tmps.getD 0 undef = .string ⟨s.toArray⟩ := by rw [← hAA]; simp
  clear hAA
  have hfin : ∀ (a' : Act) (w' : World) (x y : Value), a'.defers = [] → a'.tmps.getD 2 undef = x → a'.tmps.getD 3 undef = y → .tuple #[x, y] = ov (Rfc.pnz s) → Below w.heap.size w w' → (bodyPost Tryz.prog Tryz.f64 fun e w' => ∃ v, e = .returned v ∧ v = ov (Rfc.pnz s) ∧ Below w.heap.size w w') .ret a' w' := by
    intro a' w' x y k1 k2 k3 k4 k5
    exact ⟨k1, _, results2 rfl _ _ _, _, rfl, by rw [k2, k3, k4], k5⟩
  generalize (bodyPost Tryz.prog Tryz.f64 fun e w' => ∃ v, e = .returned v ∧ v = ov (Rfc.pnz s) ∧ Below w.heap.size w w') = Q at hfin
  unfold pzBody
  conv => arg 2; whnf
  refine wp_seq ?_
  refine wp_region (show wpOps _ _ _ [0, 1] _ _ from ?_)
  refine opL 0 2 (v := .int .i64 0) (w' := w) (by kernel_rfl) (frZ hs) ?_ ?_
  · exact frY rfl (k_assign rfl rfl)
  refine frN1 hs hd h0 ?_; clear hs hd h0; intro a hs hd h0 h2
  refine opL 1 3 (v := .bool false) (w' := w) (by kernel_rfl) (frZ hs) ?_ ?_
  · exact frY rfl (k_assign rfl rfl)
  revert hs hd h0 h2; refine frM2 ?_; intro a hs hd h0 h2 h3
  refine wp_seq ?_
  refine wp_region (show wpOps _ _ _ [0, 1, 2, 3, 4, 5, 6] _ _ from ?_)
  refine opL 0 7 (v := .string ⟨s.toArray⟩) (w' := w) (by kernel_rfl) (frZ hs) ?_ ?_
  · exact frY rfl (k_move rfl (ev_tmp h0))
  revert hs hd h0 h2 h3; refine frM3 ?_; intro a hs hd h0 h2 h3 h7
  have hc := pn_any s w hT hl
  have hx := fun ops Q rest d a i h1 h2 h3 => opL_call (P := Tryz.prog) (ops := ops) (Q := Q) (a := a) (w := w) (rest := rest) i d h1 h2 h3 hc
  refine hx _ _ _ 8 _ 1 ?z329a ?z329b ?z329 ?z330
  case z329a => kernel_rfl
  case z329b => (rw [hs]; decide)
  case z329 => exact frY rfl (c_pNum rfl rfl (ev_tmp h7))
  case z330 =>
  rintro _ w1 a ⟨rfl, l1⟩ F0
  rw [h] at F0
  replace hs := F0.z.trans hs
  replace hd := F0.e.trans hd
  replace h0 := (F0.n 0 (by decide)).trans h0
  replace h2 := (F0.n 2 (by decide)).trans h2
  replace h3 := (F0.n 3 (by decide)).trans h3
  clear h7
  have h8 := F0.s
  clear F0
  clear hx hc
  refine opL 2 6 (v := .tuple #[.int .i64 n, .bool true]) (w' := w1) (by kernel_rfl) (frZ hs) ?_ ?_
  · exact frY rfl (k_move rfl (ev_tmp h8))
  refine frN3 hs hd h0 h2 h3 ?_; clear hs hd h0 h2 h3 h8; intro a hs hd h0 h2 h3 h6
  refine opL 3 9 (v := .int .i64 n) (w' := w1) (by kernel_rfl) (frZ hs) ?_ ?_
  · exact frY rfl (k_extract rfl (ev_tmp h6) rfl)
  revert hs hd h0 h2 h3 h6; refine frM4 ?_; intro a hs hd h0 h2 h3 h6 h9
  refine opL 4 10 (v := .bool true) (w' := w1) (by kernel_rfl) (frZ hs) ?_ ?_
  · exact frY rfl (k_extract rfl (ev_tmp h6) rfl)
  clear h6; revert hs hd h0 h2 h3 h9; refine frM4 ?_; intro a hs hd h0 h2 h3 h9 h10
  refine opL 5 4 (v := .int .i64 n) (w' := w1) (by kernel_rfl) (frZ hs) ?_ ?_
  · exact frY rfl (k_assign rfl (ev_tmp h9))
  clear h9; revert hs hd h0 h2 h3 h10; refine frM4 ?_; intro a hs hd h0 h2 h3 h10 h4
  refine opL 6 5 (v := .bool true) (w' := w1) (by kernel_rfl) (frZ hs) ?_ ?_
  · exact frY rfl (k_assign rfl (ev_tmp h10))
  clear h10; revert hs hd h0 h2 h3 h4; refine frM4 ?_; intro a hs hd h0 h2 h3 h4 h5
  refine wp_seq ?_
  refine wp_region (show wpOps _ _ _ [0, 1, 2, 3, 4, 5, 6, 7] _ _ from ?_)
  refine opL 0 11 (v := .int .i64 n) (w' := w1) (by kernel_rfl) (frZ hs) ?_ ?_
  · exact frY rfl (k_move rfl (ev_tmp h4))
  revert hs hd h0 h2 h3 h4 h5; refine frM5 ?_; intro a hs hd h0 h2 h3 h4 h5 h11
  refine opL 1 12 (v := .bool true) (w' := w1) (by kernel_rfl) (frZ hs) ?_ ?_
  · exact frY rfl (k_move rfl (ev_tmp h5))
  revert hs hd h0 h2 h3 h4 h5 h11; refine frM6 ?_; intro a hs hd h0 h2 h3 h4 h5 h11 h12
  refine opL 2 13 (v := .bool true) (w' := w1) (by kernel_rfl) (frZ hs) ?_ ?_
  · exact frY rfl (k_move rfl (ev_tmp h12))
  clear h12; revert hs hd h0 h2 h3 h4 h5 h11; refine frM6 ?_; intro a hs hd h0 h2 h3 h4 h5 h11 h13
  refine opL 3 14 (v := .int .i64 n) (w' := w1) (by kernel_rfl) (frZ hs) ?z347 ?z348
  case z347 => (intro o ho; obtain rfl := Option.some.inj ho; exact ⟨wanted_at (b := true) (want := true) rfl (by kernel_rfl) h13, k_move rfl (ev_tmp h4)⟩)
  case z348 =>
  refine frN7 hs hd h0 h2 h3 h4 h5 h11 h13 ?_; clear hs hd h0 h2 h3 h4 h5 h11 h13; intro a hs hd h0 h2 h3 h4 h5 h11 h13 h14
  refine opL 4 15 (v := .bool true) (w' := w1) (by kernel_rfl) (frZ hs) ?z349 ?z350
  case z349 => (intro o ho; obtain rfl := Option.some.inj ho; exact ⟨wanted_at (b := true) (want := true) rfl (by kernel_rfl) h13, o_neI rfl (ev_tmp h14) rfl (by simp [hn])⟩)
  case z350 =>
  refine frN7 hs hd h0 h2 h3 h4 h5 h11 h13 ?_; clear hs hd h0 h2 h3 h4 h5 h11 h13 h14; intro a hs hd h0 h2 h3 h4 h5 h11 h13 h15
  refine opL 5 16 (v := .bool true) (w' := w1) (by kernel_rfl) (frZ hs) ?_ ?_
  · exact frY rfl (k_pick_yes rfl (ev_tmp h13) (ev_tmp h15))
  clear h13 h15; revert hs hd h0 h2 h3 h4 h5 h11; refine frM6 ?_; intro a hs hd h0 h2 h3 h4 h5 h11 h16
  refine opL 6 2 (v := .int .i64 n) (w' := w1) (by kernel_rfl) (frZ hs) ?_ ?_
  · exact frY rfl (k_assign rfl (ev_tmp h11))
  clear h2 h11; revert hs hd h0 h3 h4 h5 h16; refine frM5 ?_; intro a hs hd h0 h3 h4 h5 h16 h2
  refine opL 7 3 (v := .bool true) (w' := w1) (by kernel_rfl) (frZ hs) ?_ ?_
  · exact frY rfl (k_assign rfl (ev_tmp h16))
  clear h3 h16; revert hs hd h0 h4 h5 h2; refine frM4 ?_; intro a hs hd h0 h4 h5 h2 h3
  refine wp_ret ?_
  exact hfin a _ _ _ hd h2 h3 (by simp [Rfc.pnz, h, ov, hn]) l1

theorem pz_any (s : List UInt8) (w : World) (hT : Tabs w) (hl : s.length ≤ 100000) :
    Calls Tryz.prog 64 #[.string ⟨s.toArray⟩] w fun e w' => ∃ v, e = .returned v ∧ v = ov (Rfc.pnz s) ∧ Below w.heap.size w w' := by
  cases h : Rfc.pnum s with
  | none => exact pz_none s w hT hl h
  | some n =>
    by_cases hn : n = 0
    · exact pz_zero s w hT hl (by rw [h, hn])
    · exact pz_some s w hT hl n h hn
end Go.Proofs.YtocpmljkmdpfkaaGreatDoor
