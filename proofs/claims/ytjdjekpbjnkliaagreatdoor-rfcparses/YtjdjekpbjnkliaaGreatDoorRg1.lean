/-
  Texts read: the names of parts and periods, numbers.
-/
import Derived.Test.YtjdjekpbjnkliaaGreatDoorRf2
import Derived.Test.YtjdjekpbjnkliaaGreatDoorRf4
namespace Go.Proofs.YtjdjekpbjnkliaaGreatDoor
open Go.RowKit
namespace Rfc
def idx (g : Nat → List UInt8) (s : List UInt8) : Nat → Nat → Option Nat
  | _, 0 => none
  | i, k + 1 => if g i = s then some i else idx g s (i + 1) k
def part (s : List UInt8) : Option Nat := idx nm s 0 8
def pfreq (s : List UInt8) : Option Nat := idx fq s 0 4
def pnum (s : List UInt8) : Option Int := match Lib.atoiAll s with
  | .ok v => if Lib.itoa v = s then some v else none
  | _ => none
def pnz (s : List UInt8) : Option Int := match pnum s with
  | some n => if n = 0 then none else some n
  | none => none
theorem idx_here {g : Nat → List UInt8} {s : List UInt8} {i n : Nat} (hi : i < n) (h : g i = s) : idx g s i (n - i) = some i := by
  rw [show n - i = (n - (i + 1)) + 1 by omega, idx, if_pos h]
theorem idx_next {g : Nat → List UInt8} {s : List UInt8} {i n : Nat} (hi : i < n) (h : g i ≠ s) : idx g s i (n - i) = idx g s (i + 1) (n - (i + 1)) := by
  rw [show n - i = (n - (i + 1)) + 1 by omega, idx, if_neg h]
theorem idx_end {g : Nat → List UInt8} {s : List UInt8} {n : Nat} : idx g s n (n - n) = none := by rw [Nat.sub_self, idx]
theorem pnum_ok {s : List UInt8} {v : Int} (h : Lib.atoiAll s = .ok v) : pnum s = if Lib.itoa v = s then some v else none := by simp [pnum, h]
theorem pnum_no {s : List UInt8} (h : ∀ v, Lib.atoiAll s ≠ .ok v) : pnum s = none := by
  unfold pnum
  split
  · rename_i v e; exact (h v e).elim
  · rfl
theorem atoi_bd {s : List UInt8} {v : Int} (h : Lib.atoiAll s = .ok v) : -9223372036854775808 ≤ v ∧ v ≤ 9223372036854775807 := by
  unfold Lib.atoiAll at h
  split at h
  · cases h
  · simp only at h
    split at h
    · cases h
    · cases h
    · split at h
      · cases h
      · split at h
        · cases h
        · rename_i h1 h2
          have e := Lib.NumEnd.ok.inj h
          split at e <;> omega
end Rfc
def ot (o : Option Nat) : Value := .tuple #[.int .i64 ((o.getD 0 : Nat) : Int), .bool o.isSome]
def ov (o : Option Int) : Value := .tuple #[.int .i64 (o.getD 0), .bool o.isSome]
theorem results2 {fn : Func} {t u : Tmp} (h : fn.results = #[.tmp t, .tmp u]) (tmps : Array Value) (P : Program) (w : World) : (results fn tmps).run P w = .ok (.tuple #[tmps.getD t undef, tmps.getD u undef]) w := by
  simp [results, h]
theorem bytes_below' (w : World) (e : TypeId) (q : ByteArray) : Below w.heap.size w (Lib.bytesWorld w e q) :=
  ⟨rfl, rfl, rfl, by rw [Lib.bytesWorld_size]; omega, fun k hk => Lib.bytesWorld_at_old w e q k hk⟩
section
variable {w : World} {ρ : Operand → Value} {o : Oper} {x y z : Operand} {v u r : Value} {n m : Int} {q : Bool} {i : Nat} {b b' : ByteArray}
theorem o_eqStr (ho : o.op = .binOp .eql 9 x y 9) (hx : ρ x = .string b) (hy : ρ y = .string b') (hr : (b.toList == b'.toList) = q) : (execOp ρ o).run Tryz.prog w = .ok (.value (.bool q)) w := by
  subst hr
  simp only [execOp, ho, hx, hy]
  go_simp
theorem k_extract {vs : Array Value} (ho : o.op = .extract x i) (hx : ρ x = .tuple vs) (hi : vs[i]? = some v) : (execOp ρ o).run Tryz.prog w = .ok (.value v) w := by
  simp only [execOp, ho, hx]
  go_simp
theorem o_neNil (ho : o.op = .binOp .neq 87 x (.const .nilIface) 87) (hx : ρ x = .nilIface) (hy : ρ (.const .nilIface) = .nilIface) : (execOp ρ o).run Tryz.prog w = .ok (.value (.bool false)) w := by
  simp only [execOp, ho, hx, hy]
  go_simp
theorem o_neErr {t : TypeId} {p : Value} (ho : o.op = .binOp .neq 87 x (.const .nilIface) 87) (hx : ρ x = .iface t p) (hy : ρ (.const .nilIface) = .nilIface) : (execOp ρ o).run Tryz.prog w = .ok (.value (.bool true)) w := by
  simp only [execOp, ho, hx, hy]
  go_simp
theorem c_Atoi (ho : o.op = .call ⟨.value (.func 57), #[x], #[9]⟩) (hf : ρ (.func 57) = .func (.func 57) #[] #[]) (hx : ρ x = v) : (execOp ρ o).run Tryz.prog w = .ok (.enter 57 #[v]) w := by
  simp only [execOp, ho]
  go_simp
theorem c_Itoa (ho : o.op = .call ⟨.value (.func 31), #[x], #[3]⟩) (hf : ρ (.func 31) = .func (.func 31) #[] #[]) (hx : ρ x = v) : (execOp ρ o).run Tryz.prog w = .ok (.enter 31 #[v]) w := by
  simp only [execOp, ho]
  go_simp
theorem c_pNum (ho : o.op = .call ⟨.value (.func 45), #[x], #[9]⟩) (hf : ρ (.func 45) = .func (.func 45) #[] #[]) (hx : ρ x = v) : (execOp ρ o).run Tryz.prog w = .ok (.enter 45 #[v]) w := by
  simp only [execOp, ho]
  go_simp
theorem idxFQ0 (w : World) : (Instr.index 123 (.agg #[.string ⟨(Rfc.fq 0).toArray⟩, .string ⟨(Rfc.fq 1).toArray⟩, .string ⟨(Rfc.fq 2).toArray⟩, .string ⟨(Rfc.fq 3).toArray⟩]) (.int .i64 0)).run Tryz.prog w = .ok (.string ⟨(Rfc.fq 0).toArray⟩) w := by kernel_rfl
theorem idxFQ1 (w : World) : (Instr.index 123 (.agg #[.string ⟨(Rfc.fq 0).toArray⟩, .string ⟨(Rfc.fq 1).toArray⟩, .string ⟨(Rfc.fq 2).toArray⟩, .string ⟨(Rfc.fq 3).toArray⟩]) (.int .i64 1)).run Tryz.prog w = .ok (.string ⟨(Rfc.fq 1).toArray⟩) w := by kernel_rfl
theorem idxFQ2 (w : World) : (Instr.index 123 (.agg #[.string ⟨(Rfc.fq 0).toArray⟩, .string ⟨(Rfc.fq 1).toArray⟩, .string ⟨(Rfc.fq 2).toArray⟩, .string ⟨(Rfc.fq 3).toArray⟩]) (.int .i64 2)).run Tryz.prog w = .ok (.string ⟨(Rfc.fq 2).toArray⟩) w := by kernel_rfl
theorem idxFQ3 (w : World) : (Instr.index 123 (.agg #[.string ⟨(Rfc.fq 0).toArray⟩, .string ⟨(Rfc.fq 1).toArray⟩, .string ⟨(Rfc.fq 2).toArray⟩, .string ⟨(Rfc.fq 3).toArray⟩]) (.int .i64 3)).run Tryz.prog w = .ok (.string ⟨(Rfc.fq 3).toArray⟩) w := by kernel_rfl
theorem idxFQ (i : Nat) (hi : i < 4) (w : World) : (Instr.index 123 (.agg #[.string ⟨(Rfc.fq 0).toArray⟩, .string ⟨(Rfc.fq 1).toArray⟩, .string ⟨(Rfc.fq 2).toArray⟩, .string ⟨(Rfc.fq 3).toArray⟩]) (.int .i64 i)).run Tryz.prog w = .ok (.string ⟨(Rfc.fq i).toArray⟩) w := by
  match i, hi with
  | 0, _ => exact idxFQ0 w
  | 1, _ => exact idxFQ1 w
  | 2, _ => exact idxFQ2 w
  | 3, _ => exact idxFQ3 w
theorem k_idxFQ (ho : o.op = .index 123 x y) (hx : ρ x = .agg #[.string ⟨(Rfc.fq 0).toArray⟩, .string ⟨(Rfc.fq 1).toArray⟩, .string ⟨(Rfc.fq 2).toArray⟩, .string ⟨(Rfc.fq 3).toArray⟩]) (hy : ρ y = .int .i64 i) (hi : i < 4) : (execOp ρ o).run Tryz.prog w = .ok (.value (.string ⟨(Rfc.fq i).toArray⟩)) w := by
  have hr := idxFQ i hi w
  simp only [execOp, ho, hx, hy, Sem.run_bind, hr, Result.andThen_ok, Sem.run_pure]
theorem k_loadFQ (ho : o.op = .load 123 (.global 3)) (hg : ρ (.global 3) = .pointer (some ⟨3, 0, none⟩)) (hT : Tabs w) : (execOp ρ o).run Tryz.prog w = .ok (.value (.agg #[.string ⟨(Rfc.fq 0).toArray⟩, .string ⟨(Rfc.fq 1).toArray⟩, .string ⟨(Rfc.fq 2).toArray⟩, .string ⟨(Rfc.fq 3).toArray⟩])) w := by
  have c0 := hT.fq 0 (by omega); have c1 := hT.fq 1 (by omega); have c2 := hT.fq 2 (by omega); have c3 := hT.fq 3 (by omega)
  clear hT
  simp only [execOp, ho]
  go_simp
theorem idxWD0 (w : World) : (Instr.index 130 (.agg #[.string ⟨(Rfc.wd 0).toArray⟩, .string ⟨(Rfc.wd 1).toArray⟩, .string ⟨(Rfc.wd 2).toArray⟩, .string ⟨(Rfc.wd 3).toArray⟩, .string ⟨(Rfc.wd 4).toArray⟩, .string ⟨(Rfc.wd 5).toArray⟩, .string ⟨(Rfc.wd 6).toArray⟩]) (.int .i64 0)).run Tryz.prog w = .ok (.string ⟨(Rfc.wd 0).toArray⟩) w := by kernel_rfl
theorem idxWD1 (w : World) : (Instr.index 130 (.agg #[.string ⟨(Rfc.wd 0).toArray⟩, .string ⟨(Rfc.wd 1).toArray⟩, .string ⟨(Rfc.wd 2).toArray⟩, .string ⟨(Rfc.wd 3).toArray⟩, .string ⟨(Rfc.wd 4).toArray⟩, .string ⟨(Rfc.wd 5).toArray⟩, .string ⟨(Rfc.wd 6).toArray⟩]) (.int .i64 1)).run Tryz.prog w = .ok (.string ⟨(Rfc.wd 1).toArray⟩) w := by kernel_rfl
theorem idxWD2 (w : World) : (Instr.index 130 (.agg #[.string ⟨(Rfc.wd 0).toArray⟩, .string ⟨(Rfc.wd 1).toArray⟩, .string ⟨(Rfc.wd 2).toArray⟩, .string ⟨(Rfc.wd 3).toArray⟩, .string ⟨(Rfc.wd 4).toArray⟩, .string ⟨(Rfc.wd 5).toArray⟩, .string ⟨(Rfc.wd 6).toArray⟩]) (.int .i64 2)).run Tryz.prog w = .ok (.string ⟨(Rfc.wd 2).toArray⟩) w := by kernel_rfl
theorem idxWD3 (w : World) : (Instr.index 130 (.agg #[.string ⟨(Rfc.wd 0).toArray⟩, .string ⟨(Rfc.wd 1).toArray⟩, .string ⟨(Rfc.wd 2).toArray⟩, .string ⟨(Rfc.wd 3).toArray⟩, .string ⟨(Rfc.wd 4).toArray⟩, .string ⟨(Rfc.wd 5).toArray⟩, .string ⟨(Rfc.wd 6).toArray⟩]) (.int .i64 3)).run Tryz.prog w = .ok (.string ⟨(Rfc.wd 3).toArray⟩) w := by kernel_rfl
theorem idxWD4 (w : World) : (Instr.index 130 (.agg #[.string ⟨(Rfc.wd 0).toArray⟩, .string ⟨(Rfc.wd 1).toArray⟩, .string ⟨(Rfc.wd 2).toArray⟩, .string ⟨(Rfc.wd 3).toArray⟩, .string ⟨(Rfc.wd 4).toArray⟩, .string ⟨(Rfc.wd 5).toArray⟩, .string ⟨(Rfc.wd 6).toArray⟩]) (.int .i64 4)).run Tryz.prog w = .ok (.string ⟨(Rfc.wd 4).toArray⟩) w := by kernel_rfl
theorem idxWD5 (w : World) : (Instr.index 130 (.agg #[.string ⟨(Rfc.wd 0).toArray⟩, .string ⟨(Rfc.wd 1).toArray⟩, .string ⟨(Rfc.wd 2).toArray⟩, .string ⟨(Rfc.wd 3).toArray⟩, .string ⟨(Rfc.wd 4).toArray⟩, .string ⟨(Rfc.wd 5).toArray⟩, .string ⟨(Rfc.wd 6).toArray⟩]) (.int .i64 5)).run Tryz.prog w = .ok (.string ⟨(Rfc.wd 5).toArray⟩) w := by kernel_rfl
theorem idxWD6 (w : World) : (Instr.index 130 (.agg #[.string ⟨(Rfc.wd 0).toArray⟩, .string ⟨(Rfc.wd 1).toArray⟩, .string ⟨(Rfc.wd 2).toArray⟩, .string ⟨(Rfc.wd 3).toArray⟩, .string ⟨(Rfc.wd 4).toArray⟩, .string ⟨(Rfc.wd 5).toArray⟩, .string ⟨(Rfc.wd 6).toArray⟩]) (.int .i64 6)).run Tryz.prog w = .ok (.string ⟨(Rfc.wd 6).toArray⟩) w := by kernel_rfl
theorem idxWD (i : Nat) (hi : i < 7) (w : World) : (Instr.index 130 (.agg #[.string ⟨(Rfc.wd 0).toArray⟩, .string ⟨(Rfc.wd 1).toArray⟩, .string ⟨(Rfc.wd 2).toArray⟩, .string ⟨(Rfc.wd 3).toArray⟩, .string ⟨(Rfc.wd 4).toArray⟩, .string ⟨(Rfc.wd 5).toArray⟩, .string ⟨(Rfc.wd 6).toArray⟩]) (.int .i64 i)).run Tryz.prog w = .ok (.string ⟨(Rfc.wd i).toArray⟩) w := by
  match i, hi with
  | 0, _ => exact idxWD0 w
  | 1, _ => exact idxWD1 w
  | 2, _ => exact idxWD2 w
  | 3, _ => exact idxWD3 w
  | 4, _ => exact idxWD4 w
  | 5, _ => exact idxWD5 w
  | 6, _ => exact idxWD6 w
theorem k_idxWD (ho : o.op = .index 130 x y) (hx : ρ x = .agg #[.string ⟨(Rfc.wd 0).toArray⟩, .string ⟨(Rfc.wd 1).toArray⟩, .string ⟨(Rfc.wd 2).toArray⟩, .string ⟨(Rfc.wd 3).toArray⟩, .string ⟨(Rfc.wd 4).toArray⟩, .string ⟨(Rfc.wd 5).toArray⟩, .string ⟨(Rfc.wd 6).toArray⟩]) (hy : ρ y = .int .i64 i) (hi : i < 7) : (execOp ρ o).run Tryz.prog w = .ok (.value (.string ⟨(Rfc.wd i).toArray⟩)) w := by
  have hr := idxWD i hi w
  simp only [execOp, ho, hx, hy, Sem.run_bind, hr, Result.andThen_ok, Sem.run_pure]
theorem k_loadWD (ho : o.op = .load 130 (.global 4)) (hg : ρ (.global 4) = .pointer (some ⟨4, 0, none⟩)) (hT : Tabs w) : (execOp ρ o).run Tryz.prog w = .ok (.value (.agg #[.string ⟨(Rfc.wd 0).toArray⟩, .string ⟨(Rfc.wd 1).toArray⟩, .string ⟨(Rfc.wd 2).toArray⟩, .string ⟨(Rfc.wd 3).toArray⟩, .string ⟨(Rfc.wd 4).toArray⟩, .string ⟨(Rfc.wd 5).toArray⟩, .string ⟨(Rfc.wd 6).toArray⟩])) w := by
  have c0 := hT.wd 0 (by omega); have c1 := hT.wd 1 (by omega); have c2 := hT.wd 2 (by omega); have c3 := hT.wd 3 (by omega); have c4 := hT.wd 4 (by omega); have c5 := hT.wd 5 (by omega); have c6 := hT.wd 6 (by omega)
  clear hT
  simp only [execOp, ho]
  go_simp
end
theorem ba_list (l : List UInt8) : (⟨l.toArray⟩ : ByteArray).toList = l := by rw [ByteArray.toList_eq]
theorem ba_data (l : List UInt8) : (⟨l.toArray⟩ : ByteArray).data.toList = l := by simp
theorem ba_size (l : List UInt8) : (⟨l.toArray⟩ : ByteArray).size = l.length := by show l.toArray.size = _; simp
theorem atoi_ok (s : List UInt8) (n : Int) (w : World) (hl : s.length ≤ 100000) (h : Lib.atoiAll s = .ok n) : Calls Tryz.prog 57 #[.string ⟨s.toArray⟩] w fun e w' => ∃ v, e = .returned v ∧ v = .tuple #[.int .i64 n, .nilIface] ∧ Below w.heap.size w w' :=
  (Tryz.strconv_Atoi_ok ⟨s.toArray⟩ (by rw [ba_size]; omega) n (by rw [ba_data]; exact h) w).mono fun e w' ⟨he, hw⟩ => ⟨_, he, rfl, by
    rcases hw with rfl | ⟨t, rfl⟩
    · exact Below.refl _ _
    · exact bytes_below' _ _ _⟩
theorem atoi_no (s : List UInt8) (w : World) (hT : Tabs w) (hl : s.length ≤ 100000) (h : ∀ v, Lib.atoiAll s ≠ .ok v) : Calls Tryz.prog 57 #[.string ⟨s.toArray⟩] w fun e w' => ∃ v, e = .returned v ∧ (∃ n t p, v = .tuple #[.int .i64 n, .iface t p]) ∧ Below w.heap.size w w' := by
  rcases hc : Lib.atoiAll s with v | _ | _
  · exact (h v hc).elim
  · obtain ⟨ev, hv, hev⟩ := hT.eS
    exact (Any.strconv_Atoi_syntax Tryz.laysC172 ⟨s.toArray⟩ (by rw [ba_size]; omega) (by rw [ba_data]; exact hc) ev w hv hev).mono fun e w' ⟨N, he, _, _, hb⟩ => ⟨_, he, ⟨_, _, _, rfl⟩, hb⟩
  · obtain ⟨ev, hv, hev⟩ := hT.eR
    exact (Tryz.strconv_Atoi_range ⟨s.toArray⟩ (by rw [ba_size]; omega) (by rw [ba_data]; exact hc) ev w hv hev).mono fun e w' ⟨N, he, _, _, hb⟩ => ⟨_, he, ⟨_, _, _, rfl⟩, hb⟩

noncomputable def poBody : Code := Tryz.f18.body.getD .skip
set_option maxRecDepth 100000 in
set_option maxHeartbeats 1000000 in
theorem po_any (s : List UInt8) (w : World) (hT : Tabs w) :
    Calls Tryz.prog 18 #[.string ⟨s.toArray⟩] w fun e w' => ∃ v, e = .returned v ∧ v = ot (Rfc.part s) ∧ Below w.heap.size w w' := by
  refine calls_of_wp Tryz.func18 (show Tryz.f18.body = some poBody from rfl) ?_
  generalize hAA : (Act.mk (#[.string ⟨s.toArray⟩] ++ Array.replicate (Tryz.f18.ntmps - (#[.string ⟨s.toArray⟩] : Array Value).size) undef) []) = a
  have hs : a.tmps.size = 16 := by rw [← hAA]; simp [Tryz.ntmps18]
  have hd : a.defers = [] := by rw [← hAA]
  have h0 : a.tmps.getD 0 undef = .string ⟨s.toArray⟩ := by rw [← hAA]; simp
  clear hAA
  have kk := (kn hs hd).p h0; clear hs hd h0
  have hfin : ∀ (a' : Act) (w' : World) (x y : Value), a'.defers = [] → a'.tmps.getD 2 undef = x → a'.tmps.getD 3 undef = y → .tuple #[x, y] = ot (Rfc.part s) → Below w.heap.size w w' → (bodyPost Tryz.prog Tryz.f18 fun e w' => ∃ v, e = .returned v ∧ v = ot (Rfc.part s) ∧ Below w.heap.size w w') .ret a' w' := by
    intro a' w' x y k1 k2 k3 k4 k5
    exact ⟨k1, _, results2 rfl _ _ _, _, rfl, by rw [k2, k3, k4], k5⟩
  generalize (bodyPost Tryz.prog Tryz.f18 fun e w' => ∃ v, e = .returned v ∧ v = ot (Rfc.part s) ∧ Below w.heap.size w w') = Q at hfin
  unfold poBody
  conv => arg 2; whnf
  refine wp_seq ?_
  refine wpr 2 ?_
  refine opk 0 2 (v := .int .i64 0) kk (frY rfl (k_assign rfl rfl)) ?_; clear kk; intro a kk
  refine opk 1 3 (v := .bool false) kk (frY rfl (k_assign rfl rfl)) ?_; clear kk; intro a kk
  refine wp_seq ?_
  refine wp_seq ?_
  refine wpr 2 ?_
  refine opk 0 6 (v := .agg #[.string ⟨(Rfc.nm 0).toArray⟩, .string ⟨(Rfc.nm 1).toArray⟩, .string ⟨(Rfc.nm 2).toArray⟩, .string ⟨(Rfc.nm 3).toArray⟩, .string ⟨(Rfc.nm 4).toArray⟩, .string ⟨(Rfc.nm 5).toArray⟩, .string ⟨(Rfc.nm 6).toArray⟩, .string ⟨(Rfc.nm 7).toArray⟩]) kk (frY rfl (k_loadPN rfl rfl hT)) ?_; clear kk; intro a kk
  refine opk 1 7 (v := .int .i64 0) kk (frY rfl (k_move rfl rfl)) ?_; clear kk; intro a kk
  refine wp_block ?_
  refine wp_loop (fun a wx => wx = w ∧ ∃ i, i ≤ 8 ∧ a.defers = [] ∧ a.tmps.size = 16 ∧ a.tmps.getD 0 undef = .string ⟨s.toArray⟩ ∧ a.tmps.getD 6 undef = .agg #[.string ⟨(Rfc.nm 0).toArray⟩, .string ⟨(Rfc.nm 1).toArray⟩, .string ⟨(Rfc.nm 2).toArray⟩, .string ⟨(Rfc.nm 3).toArray⟩, .string ⟨(Rfc.nm 4).toArray⟩, .string ⟨(Rfc.nm 5).toArray⟩, .string ⟨(Rfc.nm 6).toArray⟩, .string ⟨(Rfc.nm 7).toArray⟩] ∧ a.tmps.getD 7 undef = .int .i64 (i : Nat) ∧ Rfc.part s = Rfc.idx Rfc.nm s i (8 - i)) (fun a _ => (8 - intOf (a.tmps.getD 7 undef)).toNat) ⟨rfl, 0, Nat.zero_le _, kk.d, kk.z, (kk.g 0 rfl), (kk.g 6 rfl), (kk.g 7 rfl), rfl⟩ ?_
  clear kk a
  rintro a wx ⟨rfl, i, hi, hd, hs, h0, h6, h7, hidx⟩
  have kk := (((kn hs hd).p h0).p h6).p h7; clear hs hd h0 h6 h7
  have e7 := (kk.g 7 rfl)
  rw [e7]
  clear e7
  by_cases hlt : i < 8
  · by_cases he : Rfc.nm i = s
    ·
      refine wp_seq ?_
      refine wpr 1 ?_
      refine opk 0 8 (v := .bool true) kk (frY rfl (o_ltI rfl (kk.e 7 rfl) rfl (decide_eq_true (by omega)))) ?_; clear kk; intro a kk
      refine wp_seq ?_
      refine wp_cond_true (kk.e 8 rfl) ?_
      refine wp_skip ?_
      refine wp_seq ?_
      refine wp_block ?_
      refine wp_seq ?_
      refine wpr 4 ?_
      refine opk 0 9 kk (frY rfl (k_move rfl (kk.e 7 rfl))) ?_; clear kk; intro a kk
      refine opk 1 10 (v := .string ⟨(Rfc.nm i).toArray⟩) kk (frY rfl (k_idxPN rfl (kk.e 6 rfl) (kk.e 7 rfl) hlt)) ?_; clear kk; intro a kk
      refine opk 2 4 kk (frY rfl (k_assign rfl (kk.e 9 rfl))) ?_; clear kk; intro a kk
      refine opk 3 5 kk (frY rfl (k_assign rfl (kk.e 10 rfl))) ?_; clear kk; intro a kk
      refine wp_seq ?_
      refine wpr 3 ?_
      refine opk 0 11 kk (frY rfl (k_move rfl (kk.e 5 rfl))) ?_; clear kk; intro a kk
      refine opk 1 12 kk (frY rfl (k_move rfl (kk.e 0 rfl))) ?_; clear kk; intro a kk
      refine opk 2 13 (v := .bool true) kk (frY rfl (o_eqStr rfl (kk.e 11 rfl) (kk.e 12 rfl) (by rw [ba_list, ba_list]; simp [he]))) ?_; clear kk; intro a kk
      refine wp_cond_true (kk.e 13 rfl) ?_
      refine wp_seq ?_
      refine wpr 3 ?_
      refine opk 0 14 kk (frY rfl (k_move rfl (kk.e 4 rfl))) ?_; clear kk; intro a kk
      refine opk 1 2 kk (frY rfl (k_assign rfl (kk.e 14 rfl))) ?_; clear kk; intro a kk
      refine opk 2 3 (v := .bool true) kk (frY rfl (k_assign rfl rfl)) ?_; clear kk; intro a kk
      refine wp_ret ?_
      exact hfin a wx _ _ kk.d (kk.g 2 rfl) (kk.g 3 rfl) (by rw [hidx, Rfc.idx_here hlt he]; rfl) (Below.refl _ _)
    ·
      refine wp_seq ?_
      refine wpr 1 ?_
      refine opk 0 8 (v := .bool true) kk (frY rfl (o_ltI rfl (kk.e 7 rfl) rfl (decide_eq_true (by omega)))) ?_; clear kk; intro a kk
      refine wp_seq ?_
      refine wp_cond_true (kk.e 8 rfl) ?_
      refine wp_skip ?_
      refine wp_seq ?_
      refine wp_block ?_
      refine wp_seq ?_
      refine wpr 4 ?_
      refine opk 0 9 kk (frY rfl (k_move rfl (kk.e 7 rfl))) ?_; clear kk; intro a kk
      refine opk 1 10 (v := .string ⟨(Rfc.nm i).toArray⟩) kk (frY rfl (k_idxPN rfl (kk.e 6 rfl) (kk.e 7 rfl) hlt)) ?_; clear kk; intro a kk
      refine opk 2 4 kk (frY rfl (k_assign rfl (kk.e 9 rfl))) ?_; clear kk; intro a kk
      refine opk 3 5 kk (frY rfl (k_assign rfl (kk.e 10 rfl))) ?_; clear kk; intro a kk
      refine wp_seq ?_
      refine wpr 3 ?_
      refine opk 0 11 kk (frY rfl (k_move rfl (kk.e 5 rfl))) ?_; clear kk; intro a kk
      refine opk 1 12 kk (frY rfl (k_move rfl (kk.e 0 rfl))) ?_; clear kk; intro a kk
      refine opk 2 13 (v := .bool false) kk (frY rfl (o_eqStr rfl (kk.e 11 rfl) (kk.e 12 rfl) (by rw [ba_list, ba_list]; simp [he]))) ?_; clear kk; intro a kk
      refine wp_cond_false (kk.e 13 rfl) ?_
      refine wp_skip ?_
      refine wpr 2 ?_
      refine opk 0 15 (v := .int .i64 (i + 1 : Nat)) kk (frY rfl (o_addI rfl (kk.e 7 rfl) rfl (wrap_small (n := (i : Int) + 1) (by omega) (by omega)))) ?_; clear kk; intro a kk
      replace kk := kk.keep [15, 13, 5, 4, 8, 6, 0] rfl
      refine opk 1 7 kk (frY rfl (k_move rfl (kk.e 15 rfl))) ?_; clear kk; intro a kk
      refine ⟨⟨rfl, i + 1, hlt, kk.d, kk.z, (kk.g 0 rfl), (kk.g 6 rfl), (kk.g 7 rfl), by rw [hidx, Rfc.idx_next hlt he]⟩, ?_⟩
      rw [(kk.g 7 rfl)]
      simp only [intOf]
      omega
  obtain rfl : i = 8 := by omega
  refine wp_seq ?_
  refine wpr 1 ?_
  refine opk 0 8 (v := .bool false) kk (frY rfl (o_ltI rfl (kk.e 7 rfl) rfl (decide_eq_false (by decide)))) ?_; clear kk; intro a kk
  refine wp_seq ?_
  refine wp_cond_false (kk.e 8 rfl) ?_
  refine wp_exit ?_
  change Code.wp _ _ _ _ _
  refine wp_seq ?_
  refine wpr 2 ?_
  refine opk 0 2 (v := .int .i64 0) kk (frY rfl (k_assign rfl rfl)) ?_; clear kk; intro a kk
  refine opk 1 3 (v := .bool false) kk (frY rfl (k_assign rfl rfl)) ?_; clear kk; intro a kk
  refine wp_ret ?_
  exact hfin a wx _ _ kk.d (kk.g 2 rfl) (kk.g 3 rfl) (by rw [hidx, Rfc.idx_end]; rfl) (Below.refl _ _)

noncomputable def pfBody : Code := Tryz.f44.body.getD .skip
set_option maxRecDepth 100000 in
set_option maxHeartbeats 1000000 in
theorem pf_any (s : List UInt8) (w : World) (hT : Tabs w) :
    Calls Tryz.prog 44 #[.string ⟨s.toArray⟩] w fun e w' => ∃ v, e = .returned v ∧ v = ot (Rfc.pfreq s) ∧ Below w.heap.size w w' := by
  refine calls_of_wp Tryz.func44 (show Tryz.f44.body = some pfBody from rfl) ?_
  generalize hAA : (Act.mk (#[.string ⟨s.toArray⟩] ++ Array.replicate (Tryz.f44.ntmps - (#[.string ⟨s.toArray⟩] : Array Value).size) undef) []) = a
  have hs : a.tmps.size = 16 := by rw [← hAA]; simp [Tryz.ntmps44]
  have hd : a.defers = [] := by rw [← hAA]
  have h0 : a.tmps.getD 0 undef = .string ⟨s.toArray⟩ := by rw [← hAA]; simp
  clear hAA
  have kk := (kn hs hd).p h0; clear hs hd h0
  have hfin : ∀ (a' : Act) (w' : World) (x y : Value), a'.defers = [] → a'.tmps.getD 2 undef = x → a'.tmps.getD 3 undef = y → .tuple #[x, y] = ot (Rfc.pfreq s) → Below w.heap.size w w' → (bodyPost Tryz.prog Tryz.f44 fun e w' => ∃ v, e = .returned v ∧ v = ot (Rfc.pfreq s) ∧ Below w.heap.size w w') .ret a' w' := by
    intro a' w' x y k1 k2 k3 k4 k5
    exact ⟨k1, _, results2 rfl _ _ _, _, rfl, by rw [k2, k3, k4], k5⟩
  generalize (bodyPost Tryz.prog Tryz.f44 fun e w' => ∃ v, e = .returned v ∧ v = ot (Rfc.pfreq s) ∧ Below w.heap.size w w') = Q at hfin
  unfold pfBody
  conv => arg 2; whnf
  refine wp_seq ?_
  refine wpr 2 ?_
  refine opk 0 2 (v := .int .i64 0) kk (frY rfl (k_assign rfl rfl)) ?_; clear kk; intro a kk
  refine opk 1 3 (v := .bool false) kk (frY rfl (k_assign rfl rfl)) ?_; clear kk; intro a kk
  refine wp_seq ?_
  refine wp_seq ?_
  refine wpr 2 ?_
  refine opk 0 6 (v := .agg #[.string ⟨(Rfc.fq 0).toArray⟩, .string ⟨(Rfc.fq 1).toArray⟩, .string ⟨(Rfc.fq 2).toArray⟩, .string ⟨(Rfc.fq 3).toArray⟩]) kk (frY rfl (k_loadFQ rfl rfl hT)) ?_; clear kk; intro a kk
  refine opk 1 7 (v := .int .i64 0) kk (frY rfl (k_move rfl rfl)) ?_; clear kk; intro a kk
  refine wp_block ?_
  refine wp_loop (fun a wx => wx = w ∧ ∃ i, i ≤ 4 ∧ a.defers = [] ∧ a.tmps.size = 16 ∧ a.tmps.getD 0 undef = .string ⟨s.toArray⟩ ∧ a.tmps.getD 6 undef = .agg #[.string ⟨(Rfc.fq 0).toArray⟩, .string ⟨(Rfc.fq 1).toArray⟩, .string ⟨(Rfc.fq 2).toArray⟩, .string ⟨(Rfc.fq 3).toArray⟩] ∧ a.tmps.getD 7 undef = .int .i64 (i : Nat) ∧ Rfc.pfreq s = Rfc.idx Rfc.fq s i (4 - i)) (fun a _ => (4 - intOf (a.tmps.getD 7 undef)).toNat) ⟨rfl, 0, Nat.zero_le _, kk.d, kk.z, (kk.g 0 rfl), (kk.g 6 rfl), (kk.g 7 rfl), rfl⟩ ?_
  clear kk a
  rintro a wx ⟨rfl, i, hi, hd, hs, h0, h6, h7, hidx⟩
  have kk := (((kn hs hd).p h0).p h6).p h7; clear hs hd h0 h6 h7
  have e7 := (kk.g 7 rfl)
  rw [e7]
  clear e7
  by_cases hlt : i < 4
  · by_cases he : Rfc.fq i = s
    ·
      refine wp_seq ?_
      refine wpr 1 ?_
      refine opk 0 8 (v := .bool true) kk (frY rfl (o_ltI rfl (kk.e 7 rfl) rfl (decide_eq_true (by omega)))) ?_; clear kk; intro a kk
      refine wp_seq ?_
      refine wp_cond_true (kk.e 8 rfl) ?_
      refine wp_skip ?_
      refine wp_seq ?_
      refine wp_block ?_
      refine wp_seq ?_
      refine wpr 4 ?_
      refine opk 0 9 kk (frY rfl (k_move rfl (kk.e 7 rfl))) ?_; clear kk; intro a kk
      refine opk 1 10 (v := .string ⟨(Rfc.fq i).toArray⟩) kk (frY rfl (k_idxFQ rfl (kk.e 6 rfl) (kk.e 7 rfl) hlt)) ?_; clear kk; intro a kk
      refine opk 2 4 kk (frY rfl (k_assign rfl (kk.e 9 rfl))) ?_; clear kk; intro a kk
      refine opk 3 5 kk (frY rfl (k_assign rfl (kk.e 10 rfl))) ?_; clear kk; intro a kk
      refine wp_seq ?_
      refine wpr 3 ?_
      refine opk 0 11 kk (frY rfl (k_move rfl (kk.e 5 rfl))) ?_; clear kk; intro a kk
      refine opk 1 12 kk (frY rfl (k_move rfl (kk.e 0 rfl))) ?_; clear kk; intro a kk
      refine opk 2 13 (v := .bool true) kk (frY rfl (o_eqStr rfl (kk.e 11 rfl) (kk.e 12 rfl) (by rw [ba_list, ba_list]; simp [he]))) ?_; clear kk; intro a kk
      refine wp_cond_true (kk.e 13 rfl) ?_
      refine wp_seq ?_
      refine wpr 3 ?_
      refine opk 0 14 kk (frY rfl (k_move rfl (kk.e 4 rfl))) ?_; clear kk; intro a kk
      refine opk 1 2 kk (frY rfl (k_assign rfl (kk.e 14 rfl))) ?_; clear kk; intro a kk
      refine opk 2 3 (v := .bool true) kk (frY rfl (k_assign rfl rfl)) ?_; clear kk; intro a kk
      refine wp_ret ?_
      exact hfin a wx _ _ kk.d (kk.g 2 rfl) (kk.g 3 rfl) (by rw [hidx, Rfc.idx_here hlt he]; rfl) (Below.refl _ _)
    ·
      refine wp_seq ?_
      refine wpr 1 ?_
      refine opk 0 8 (v := .bool true) kk (frY rfl (o_ltI rfl (kk.e 7 rfl) rfl (decide_eq_true (by omega)))) ?_; clear kk; intro a kk
      refine wp_seq ?_
      refine wp_cond_true (kk.e 8 rfl) ?_
      refine wp_skip ?_
      refine wp_seq ?_
      refine wp_block ?_
      refine wp_seq ?_
      refine wpr 4 ?_
      refine opk 0 9 kk (frY rfl (k_move rfl (kk.e 7 rfl))) ?_; clear kk; intro a kk
      refine opk 1 10 (v := .string ⟨(Rfc.fq i).toArray⟩) kk (frY rfl (k_idxFQ rfl (kk.e 6 rfl) (kk.e 7 rfl) hlt)) ?_; clear kk; intro a kk
      refine opk 2 4 kk (frY rfl (k_assign rfl (kk.e 9 rfl))) ?_; clear kk; intro a kk
      refine opk 3 5 kk (frY rfl (k_assign rfl (kk.e 10 rfl))) ?_; clear kk; intro a kk
      refine wp_seq ?_
      refine wpr 3 ?_
      refine opk 0 11 kk (frY rfl (k_move rfl (kk.e 5 rfl))) ?_; clear kk; intro a kk
      refine opk 1 12 kk (frY rfl (k_move rfl (kk.e 0 rfl))) ?_; clear kk; intro a kk
      refine opk 2 13 (v := .bool false) kk (frY rfl (o_eqStr rfl (kk.e 11 rfl) (kk.e 12 rfl) (by rw [ba_list, ba_list]; simp [he]))) ?_; clear kk; intro a kk
      refine wp_cond_false (kk.e 13 rfl) ?_
      refine wp_skip ?_
      refine wpr 2 ?_
      refine opk 0 15 (v := .int .i64 (i + 1 : Nat)) kk (frY rfl (o_addI rfl (kk.e 7 rfl) rfl (wrap_small (n := (i : Int) + 1) (by omega) (by omega)))) ?_; clear kk; intro a kk
      replace kk := kk.keep [15, 13, 5, 4, 8, 6, 0] rfl
      refine opk 1 7 kk (frY rfl (k_move rfl (kk.e 15 rfl))) ?_; clear kk; intro a kk
      refine ⟨⟨rfl, i + 1, hlt, kk.d, kk.z, (kk.g 0 rfl), (kk.g 6 rfl), (kk.g 7 rfl), by rw [hidx, Rfc.idx_next hlt he]⟩, ?_⟩
      rw [(kk.g 7 rfl)]
      simp only [intOf]
      omega
  obtain rfl : i = 4 := by omega
  refine wp_seq ?_
  refine wpr 1 ?_
  refine opk 0 8 (v := .bool false) kk (frY rfl (o_ltI rfl (kk.e 7 rfl) rfl (decide_eq_false (by decide)))) ?_; clear kk; intro a kk
  refine wp_seq ?_
  refine wp_cond_false (kk.e 8 rfl) ?_
  refine wp_exit ?_
  change Code.wp _ _ _ _ _
  refine wp_seq ?_
  refine wpr 2 ?_
  refine opk 0 2 (v := .int .i64 0) kk (frY rfl (k_assign rfl rfl)) ?_; clear kk; intro a kk
  refine opk 1 3 (v := .bool false) kk (frY rfl (k_assign rfl rfl)) ?_; clear kk; intro a kk
  refine wp_ret ?_
  exact hfin a wx _ _ kk.d (kk.g 2 rfl) (kk.g 3 rfl) (by rw [hidx, Rfc.idx_end]; rfl) (Below.refl _ _)
noncomputable def pnBody : Code := Tryz.f45.body.getD .skip

set_option maxRecDepth 100000 in
set_option maxHeartbeats 1000000 in
theorem pn_no (s : List UInt8) (w : World) (hT : Tabs w) (hl : s.length ≤ 100000) (h : ∀ v, Lib.atoiAll s ≠ .ok v) :
    Calls Tryz.prog 45 #[.string ⟨s.toArray⟩] w fun e w' => ∃ v, e = .returned v ∧ v = ov (Rfc.pnum s) ∧ Below w.heap.size w w' := by
  refine calls_of_wp Tryz.func45 (show Tryz.f45.body = some pnBody from rfl) ?_
  generalize hAA : (Act.mk (#[.string ⟨s.toArray⟩] ++ Array.replicate (Tryz.f45.ntmps - (#[.string ⟨s.toArray⟩] : Array Value).size) undef) []) = a
  have hs : a.tmps.size = 20 := by rw [← hAA]; simp [Tryz.ntmps45]
  have hd : a.defers = [] := by rw [← hAA]
  have h0 : a.tmps.getD 0 undef = .string ⟨s.toArray⟩ := by rw [← hAA]; simp
  clear hAA
  have kk := (kn hs hd).p h0; clear hs hd h0
  have hfin : ∀ (a' : Act) (w' : World) (x y : Value), a'.defers = [] → a'.tmps.getD 2 undef = x → a'.tmps.getD 3 undef = y → .tuple #[x, y] = ov (Rfc.pnum s) → Below w.heap.size w w' → (bodyPost Tryz.prog Tryz.f45 fun e w' => ∃ v, e = .returned v ∧ v = ov (Rfc.pnum s) ∧ Below w.heap.size w w') .ret a' w' := by
    intro a' w' x y k1 k2 k3 k4 k5
    exact ⟨k1, _, results2 rfl _ _ _, _, rfl, by rw [k2, k3, k4], k5⟩
  generalize (bodyPost Tryz.prog Tryz.f45 fun e w' => ∃ v, e = .returned v ∧ v = ov (Rfc.pnum s) ∧ Below w.heap.size w w') = Q at hfin
  unfold pnBody
  conv => arg 2; whnf
  refine wp_seq ?_
  refine wpr 2 ?_
  refine opk 0 2 (v := .int .i64 0) kk (frY rfl (k_assign rfl rfl)) ?_; clear kk; intro a kk
  refine opk 1 3 (v := .bool false) kk (frY rfl (k_assign rfl rfl)) ?_; clear kk; intro a kk
  refine wp_seq ?_
  refine wpr 7 ?_
  refine opk 0 7 kk (frY rfl (k_move rfl (kk.e 0 rfl))) ?_; clear kk; intro a kk
  have hc := atoi_no s w hT hl h
  refine opkc 1 8 kk hc (frY rfl (c_Atoi rfl rfl (kk.e 7 rfl))) ?_; clear kk hc
  rintro _ w1 a ⟨⟨n, tp, pv, rfl⟩, l1⟩ F0
  have kk := F0; clear F0
  refine opk 2 6 kk (frY rfl (k_move rfl (kk.e 8 rfl))) ?_; clear kk; intro a kk
  refine opk 3 9 (v := .int .i64 n) kk (frY rfl (k_extract rfl (kk.e 6 rfl) rfl)) ?_; clear kk; intro a kk
  refine opk 4 10 (v := .iface tp pv) kk (frY rfl (k_extract rfl (kk.e 6 rfl) rfl)) ?_; clear kk; intro a kk
  refine opk 5 4 kk (frY rfl (k_assign rfl (kk.e 9 rfl))) ?_; clear kk; intro a kk
  refine opk 6 5 kk (frY rfl (k_assign rfl (kk.e 10 rfl))) ?_; clear kk; intro a kk
  refine wp_seq ?_
  refine wp_seq ?_
  refine wpr 8 ?_
  refine opk 0 11 kk (frY rfl (k_move rfl (kk.e 5 rfl))) ?_; clear kk; intro a kk
  refine opk 1 12 (v := .bool true) kk (frY rfl (o_neErr rfl (kk.e 11 rfl) rfl)) ?_; clear kk; intro a kk
  refine opk 2 13 kk (frY rfl (k_move rfl (kk.e 12 rfl))) ?_; clear kk; intro a kk
  refine opkn 3 14 kk (frX (wanted_at (b := true) (want := false) rfl (by kernel_rfl) (kk.g 13 rfl))) ?_; clear kk; intro a kk
  refine opkn 4 15 kk (frX (wanted_at (b := true) (want := false) rfl (by kernel_rfl) (kk.g 13 rfl))) ?_; clear kk; intro a kk
  refine opkn 5 16 kk (frX (wanted_at (b := true) (want := false) rfl (by kernel_rfl) (kk.g 13 rfl))) ?_; clear kk; intro a kk
  refine opkn 6 17 kk (frX (wanted_at (b := true) (want := false) rfl (by kernel_rfl) (kk.g 13 rfl))) ?_; clear kk; intro a kk
  refine opk 7 18 (v := .bool true) kk (frY rfl (k_pick_yes rfl (kk.e 13 rfl) rfl)) ?_; clear kk; intro a kk
  refine wp_cond_true (kk.e 18 rfl) ?_
  refine wp_seq ?_
  refine wpr 2 ?_
  replace kk := kk.keep [18, 5, 4, 3, 0] rfl
  refine opk 0 2 (v := .int .i64 0) kk (frY rfl (k_assign rfl rfl)) ?_; clear kk; intro a kk
  replace kk := kk.keep [2, 18, 5, 4, 0] rfl
  refine opk 1 3 (v := .bool false) kk (frY rfl (k_assign rfl rfl)) ?_; clear kk; intro a kk
  refine wp_ret ?_
  exact hfin a _ _ _ kk.d (kk.g 2 rfl) (kk.g 3 rfl) (by rw [Rfc.pnum_no h]; rfl) l1

set_option maxRecDepth 100000 in
set_option maxHeartbeats 1000000 in
theorem pn_same (s : List UInt8) (w : World) (hT : Tabs w) (hl : s.length ≤ 100000) (n : Int) (h : Lib.atoiAll s = .ok n) (he : Lib.itoa n = s) :
    Calls Tryz.prog 45 #[.string ⟨s.toArray⟩] w fun e w' => ∃ v, e = .returned v ∧ v = ov (Rfc.pnum s) ∧ Below w.heap.size w w' := by
  refine calls_of_wp Tryz.func45 (show Tryz.f45.body = some pnBody from rfl) ?_
  generalize hAA : (Act.mk (#[.string ⟨s.toArray⟩] ++ Array.replicate (Tryz.f45.ntmps - (#[.string ⟨s.toArray⟩] : Array Value).size) undef) []) = a
  have hs : a.tmps.size = 20 := by rw [← hAA]; simp [Tryz.ntmps45]
  have hd : a.defers = [] := by rw [← hAA]
  have h0 : a.tmps.getD 0 undef = .string ⟨s.toArray⟩ := by rw [← hAA]; simp
  clear hAA
  have kk := (kn hs hd).p h0; clear hs hd h0
  have hfin : ∀ (a' : Act) (w' : World) (x y : Value), a'.defers = [] → a'.tmps.getD 2 undef = x → a'.tmps.getD 3 undef = y → .tuple #[x, y] = ov (Rfc.pnum s) → Below w.heap.size w w' → (bodyPost Tryz.prog Tryz.f45 fun e w' => ∃ v, e = .returned v ∧ v = ov (Rfc.pnum s) ∧ Below w.heap.size w w') .ret a' w' := by
    intro a' w' x y k1 k2 k3 k4 k5
    exact ⟨k1, _, results2 rfl _ _ _, _, rfl, by rw [k2, k3, k4], k5⟩
  generalize (bodyPost Tryz.prog Tryz.f45 fun e w' => ∃ v, e = .returned v ∧ v = ov (Rfc.pnum s) ∧ Below w.heap.size w w') = Q at hfin
  unfold pnBody
  conv => arg 2; whnf
  refine wp_seq ?_
  refine wpr 2 ?_
  refine opk 0 2 (v := .int .i64 0) kk (frY rfl (k_assign rfl rfl)) ?_; clear kk; intro a kk
  refine opk 1 3 (v := .bool false) kk (frY rfl (k_assign rfl rfl)) ?_; clear kk; intro a kk
  refine wp_seq ?_
  refine wpr 7 ?_
  refine opk 0 7 kk (frY rfl (k_move rfl (kk.e 0 rfl))) ?_; clear kk; intro a kk
  have hc := atoi_ok s n w hl h
  refine opkc 1 8 kk hc (frY rfl (c_Atoi rfl rfl (kk.e 7 rfl))) ?_; clear kk hc
  rintro _ w1 a ⟨rfl, l1⟩ F0
  have kk := F0; clear F0
  refine opk 2 6 kk (frY rfl (k_move rfl (kk.e 8 rfl))) ?_; clear kk; intro a kk
  refine opk 3 9 (v := .int .i64 n) kk (frY rfl (k_extract rfl (kk.e 6 rfl) rfl)) ?_; clear kk; intro a kk
  refine opk 4 10 (v := .nilIface) kk (frY rfl (k_extract rfl (kk.e 6 rfl) rfl)) ?_; clear kk; intro a kk
  refine opk 5 4 kk (frY rfl (k_assign rfl (kk.e 9 rfl))) ?_; clear kk; intro a kk
  refine opk 6 5 kk (frY rfl (k_assign rfl (kk.e 10 rfl))) ?_; clear kk; intro a kk
  refine wp_seq ?_
  refine wp_seq ?_
  refine wpr 8 ?_
  refine opk 0 11 kk (frY rfl (k_move rfl (kk.e 5 rfl))) ?_; clear kk; intro a kk
  refine opk 1 12 (v := .bool false) kk (frY rfl (o_neNil rfl (kk.e 11 rfl) rfl)) ?_; clear kk; intro a kk
  refine opk 2 13 kk (frY rfl (k_move rfl (kk.e 12 rfl))) ?_; clear kk; intro a kk
  refine opk 3 14 kk (frY (wanted_at (b := false) (want := false) rfl (by kernel_rfl) (kk.g 13 rfl)) (k_move rfl (kk.e 4 rfl))) ?_; clear kk; intro a kk
  have hc := itoa_any n w1 (hT.below l1) (Rfc.atoi_bd h)
  refine opkc 4 15 kk hc (frY (wanted_at (b := false) (want := false) rfl (by kernel_rfl) (kk.g 13 rfl)) (c_Itoa rfl rfl (kk.e 14 rfl))) ?_; clear kk hc
  rintro _ w2 a ⟨rfl, l2⟩ F0
  have kk := F0; clear F0
  refine opk 5 16 kk (frY (wanted_at (b := false) (want := false) rfl (by kernel_rfl) (kk.g 13 rfl)) (k_move rfl (kk.e 0 rfl))) ?_; clear kk; intro a kk
  refine opk 6 17 (v := .bool false) kk (frY (wanted_at (b := false) (want := false) rfl (by kernel_rfl) (kk.g 13 rfl)) (o_neStr rfl (kk.e 15 rfl) (kk.e 16 rfl) (by rw [ba_list, ba_list]; simp [he]))) ?_; clear kk; intro a kk
  refine opk 7 18 (v := .bool false) kk (frY rfl (k_pick_no rfl (kk.e 13 rfl) (kk.e 17 rfl))) ?_; clear kk; intro a kk
  refine wp_cond_false (kk.e 18 rfl) ?_
  refine wp_skip ?_
  refine wp_seq ?_
  refine wpr 3 ?_
  refine opk 0 19 kk (frY rfl (k_move rfl (kk.e 4 rfl))) ?_; clear kk; intro a kk
  replace kk := kk.keep [19, 18, 5, 4, 3, 0] rfl
  refine opk 1 2 kk (frY rfl (k_assign rfl (kk.e 19 rfl))) ?_; clear kk; intro a kk
  replace kk := kk.keep [2, 18, 5, 4, 0] rfl
  refine opk 2 3 (v := .bool true) kk (frY rfl (k_assign rfl rfl)) ?_; clear kk; intro a kk
  refine wp_ret ?_
  exact hfin a _ _ _ kk.d (kk.g 2 rfl) (kk.g 3 rfl) (by rw [Rfc.pnum_ok h, if_pos he]; rfl) (l1.trans (l2.mono l1.size))

set_option maxRecDepth 100000 in
set_option maxHeartbeats 1000000 in
theorem pn_other (s : List UInt8) (w : World) (hT : Tabs w) (hl : s.length ≤ 100000) (n : Int) (h : Lib.atoiAll s = .ok n) (he : ¬ Lib.itoa n = s) :
    Calls Tryz.prog 45 #[.string ⟨s.toArray⟩] w fun e w' => ∃ v, e = .returned v ∧ v = ov (Rfc.pnum s) ∧ Below w.heap.size w w' := by
  refine calls_of_wp Tryz.func45 (show Tryz.f45.body = some pnBody from rfl) ?_
  generalize hAA : (Act.mk (#[.string ⟨s.toArray⟩] ++ Array.replicate (Tryz.f45.ntmps - (#[.string ⟨s.toArray⟩] : Array Value).size) undef) []) = a
  have hs : a.tmps.size = 20 := by rw [← hAA]; simp [Tryz.ntmps45]
  have hd : a.defers = [] := by rw [← hAA]
  have h0 : a.tmps.getD 0 undef = .string ⟨s.toArray⟩ := by rw [← hAA]; simp
  clear hAA
  have kk := (kn hs hd).p h0; clear hs hd h0
  have hfin : ∀ (a' : Act) (w' : World) (x y : Value), a'.defers = [] → a'.tmps.getD 2 undef = x → a'.tmps.getD 3 undef = y → .tuple #[x, y] = ov (Rfc.pnum s) → Below w.heap.size w w' → (bodyPost Tryz.prog Tryz.f45 fun e w' => ∃ v, e = .returned v ∧ v = ov (Rfc.pnum s) ∧ Below w.heap.size w w') .ret a' w' := by
    intro a' w' x y k1 k2 k3 k4 k5
    exact ⟨k1, _, results2 rfl _ _ _, _, rfl, by rw [k2, k3, k4], k5⟩
  generalize (bodyPost Tryz.prog Tryz.f45 fun e w' => ∃ v, e = .returned v ∧ v = ov (Rfc.pnum s) ∧ Below w.heap.size w w') = Q at hfin
  unfold pnBody
  conv => arg 2; whnf
  refine wp_seq ?_
  refine wpr 2 ?_
  refine opk 0 2 (v := .int .i64 0) kk (frY rfl (k_assign rfl rfl)) ?_; clear kk; intro a kk
  refine opk 1 3 (v := .bool false) kk (frY rfl (k_assign rfl rfl)) ?_; clear kk; intro a kk
  refine wp_seq ?_
  refine wpr 7 ?_
  refine opk 0 7 kk (frY rfl (k_move rfl (kk.e 0 rfl))) ?_; clear kk; intro a kk
  have hc := atoi_ok s n w hl h
  refine opkc 1 8 kk hc (frY rfl (c_Atoi rfl rfl (kk.e 7 rfl))) ?_; clear kk hc
  rintro _ w1 a ⟨rfl, l1⟩ F0
  have kk := F0; clear F0
  refine opk 2 6 kk (frY rfl (k_move rfl (kk.e 8 rfl))) ?_; clear kk; intro a kk
  refine opk 3 9 (v := .int .i64 n) kk (frY rfl (k_extract rfl (kk.e 6 rfl) rfl)) ?_; clear kk; intro a kk
  refine opk 4 10 (v := .nilIface) kk (frY rfl (k_extract rfl (kk.e 6 rfl) rfl)) ?_; clear kk; intro a kk
  refine opk 5 4 kk (frY rfl (k_assign rfl (kk.e 9 rfl))) ?_; clear kk; intro a kk
  refine opk 6 5 kk (frY rfl (k_assign rfl (kk.e 10 rfl))) ?_; clear kk; intro a kk
  refine wp_seq ?_
  refine wp_seq ?_
  refine wpr 8 ?_
  refine opk 0 11 kk (frY rfl (k_move rfl (kk.e 5 rfl))) ?_; clear kk; intro a kk
  refine opk 1 12 (v := .bool false) kk (frY rfl (o_neNil rfl (kk.e 11 rfl) rfl)) ?_; clear kk; intro a kk
  refine opk 2 13 kk (frY rfl (k_move rfl (kk.e 12 rfl))) ?_; clear kk; intro a kk
  refine opk 3 14 kk (frY (wanted_at (b := false) (want := false) rfl (by kernel_rfl) (kk.g 13 rfl)) (k_move rfl (kk.e 4 rfl))) ?_; clear kk; intro a kk
  have hc := itoa_any n w1 (hT.below l1) (Rfc.atoi_bd h)
  refine opkc 4 15 kk hc (frY (wanted_at (b := false) (want := false) rfl (by kernel_rfl) (kk.g 13 rfl)) (c_Itoa rfl rfl (kk.e 14 rfl))) ?_; clear kk hc
  rintro _ w2 a ⟨rfl, l2⟩ F0
  have kk := F0; clear F0
  refine opk 5 16 kk (frY (wanted_at (b := false) (want := false) rfl (by kernel_rfl) (kk.g 13 rfl)) (k_move rfl (kk.e 0 rfl))) ?_; clear kk; intro a kk
  refine opk 6 17 (v := .bool true) kk (frY (wanted_at (b := false) (want := false) rfl (by kernel_rfl) (kk.g 13 rfl)) (o_neStr rfl (kk.e 15 rfl) (kk.e 16 rfl) (by rw [ba_list, ba_list]; simp [he]))) ?_; clear kk; intro a kk
  refine opk 7 18 (v := .bool true) kk (frY rfl (k_pick_no rfl (kk.e 13 rfl) (kk.e 17 rfl))) ?_; clear kk; intro a kk
  refine wp_cond_true (kk.e 18 rfl) ?_
  refine wp_seq ?_
  refine wpr 2 ?_
  replace kk := kk.keep [18, 5, 4, 3, 0] rfl
  refine opk 0 2 (v := .int .i64 0) kk (frY rfl (k_assign rfl rfl)) ?_; clear kk; intro a kk
  replace kk := kk.keep [2, 18, 5, 4, 0] rfl
  refine opk 1 3 (v := .bool false) kk (frY rfl (k_assign rfl rfl)) ?_; clear kk; intro a kk
  refine wp_ret ?_
  exact hfin a _ _ _ kk.d (kk.g 2 rfl) (kk.g 3 rfl) (by rw [Rfc.pnum_ok h, if_neg he]; rfl) (l1.trans (l2.mono l1.size))

theorem pn_any (s : List UInt8) (w : World) (hT : Tabs w) (hl : s.length ≤ 100000) :
    Calls Tryz.prog 45 #[.string ⟨s.toArray⟩] w fun e w' => ∃ v, e = .returned v ∧ v = ov (Rfc.pnum s) ∧ Below w.heap.size w w' := by
  rcases h : Lib.atoiAll s with n | _ | _
  · by_cases he : Lib.itoa n = s
    · exact pn_same s w hT hl n h he
    · exact pn_other s w hT hl n h he
  · exact pn_no s w hT hl (fun v e => by rw [h] at e; cases e)
  · exact pn_no s w hT hl (fun v e => by rw [h] at e; cases e)
noncomputable def pzBody : Code := Tryz.f46.body.getD .skip

set_option maxRecDepth 100000 in
set_option maxHeartbeats 1000000 in
theorem pz_none (s : List UInt8) (w : World) (hT : Tabs w) (hl : s.length ≤ 100000) (h : Rfc.pnum s = none) :
    Calls Tryz.prog 46 #[.string ⟨s.toArray⟩] w fun e w' => ∃ v, e = .returned v ∧ v = ov (Rfc.pnz s) ∧ Below w.heap.size w w' := by
  refine calls_of_wp Tryz.func46 (show Tryz.f46.body = some pzBody from rfl) ?_
  generalize hAA : (Act.mk (#[.string ⟨s.toArray⟩] ++ Array.replicate (Tryz.f46.ntmps - (#[.string ⟨s.toArray⟩] : Array Value).size) undef) []) = a
  have hs : a.tmps.size = 17 := by rw [← hAA]; simp [Tryz.ntmps46]
  have hd : a.defers = [] := by rw [← hAA]
  have h0 : a.tmps.getD 0 undef = .string ⟨s.toArray⟩ := by rw [← hAA]; simp
  clear hAA
  have kk := (kn hs hd).p h0; clear hs hd h0
  have hfin : ∀ (a' : Act) (w' : World) (x y : Value), a'.defers = [] → a'.tmps.getD 2 undef = x → a'.tmps.getD 3 undef = y → .tuple #[x, y] = ov (Rfc.pnz s) → Below w.heap.size w w' → (bodyPost Tryz.prog Tryz.f46 fun e w' => ∃ v, e = .returned v ∧ v = ov (Rfc.pnz s) ∧ Below w.heap.size w w') .ret a' w' := by
    intro a' w' x y k1 k2 k3 k4 k5
    exact ⟨k1, _, results2 rfl _ _ _, _, rfl, by rw [k2, k3, k4], k5⟩
  generalize (bodyPost Tryz.prog Tryz.f46 fun e w' => ∃ v, e = .returned v ∧ v = ov (Rfc.pnz s) ∧ Below w.heap.size w w') = Q at hfin
  unfold pzBody
  conv => arg 2; whnf
  refine wp_seq ?_
  refine wpr 2 ?_
  refine opk 0 2 (v := .int .i64 0) kk (frY rfl (k_assign rfl rfl)) ?_; clear kk; intro a kk
  refine opk 1 3 (v := .bool false) kk (frY rfl (k_assign rfl rfl)) ?_; clear kk; intro a kk
  refine wp_seq ?_
  refine wpr 7 ?_
  refine opk 0 7 kk (frY rfl (k_move rfl (kk.e 0 rfl))) ?_; clear kk; intro a kk
  have hc := pn_any s w hT hl
  refine opkc 1 8 kk hc (frY rfl (c_pNum rfl rfl (kk.e 7 rfl))) ?_; clear kk hc
  rintro _ w1 a ⟨rfl, l1⟩ F0
  rw [h] at F0
  have kk := F0; clear F0
  refine opk 2 6 kk (frY rfl (k_move rfl (kk.e 8 rfl))) ?_; clear kk; intro a kk
  refine opk 3 9 (v := .int .i64 0) kk (frY rfl (k_extract rfl (kk.e 6 rfl) rfl)) ?_; clear kk; intro a kk
  refine opk 4 10 (v := .bool false) kk (frY rfl (k_extract rfl (kk.e 6 rfl) rfl)) ?_; clear kk; intro a kk
  refine opk 5 4 kk (frY rfl (k_assign rfl (kk.e 9 rfl))) ?_; clear kk; intro a kk
  refine opk 6 5 kk (frY rfl (k_assign rfl (kk.e 10 rfl))) ?_; clear kk; intro a kk
  refine wp_seq ?_
  refine wpr 8 ?_
  refine opk 0 11 kk (frY rfl (k_move rfl (kk.e 4 rfl))) ?_; clear kk; intro a kk
  refine opk 1 12 kk (frY rfl (k_move rfl (kk.e 5 rfl))) ?_; clear kk; intro a kk
  refine opk 2 13 kk (frY rfl (k_move rfl (kk.e 12 rfl))) ?_; clear kk; intro a kk
  refine opkn 3 14 kk (frX (wanted_at (b := false) (want := true) rfl (by kernel_rfl) (kk.g 13 rfl))) ?_; clear kk; intro a kk
  refine opkn 4 15 kk (frX (wanted_at (b := false) (want := true) rfl (by kernel_rfl) (kk.g 13 rfl))) ?_; clear kk; intro a kk
  refine opk 5 16 (v := .bool false) kk (frY rfl (k_pick_no rfl (kk.e 13 rfl) rfl)) ?_; clear kk; intro a kk
  replace kk := kk.keep [16, 11, 5, 4, 3, 0] rfl
  refine opk 6 2 kk (frY rfl (k_assign rfl (kk.e 11 rfl))) ?_; clear kk; intro a kk
  replace kk := kk.keep [2, 16, 5, 4, 0] rfl
  refine opk 7 3 kk (frY rfl (k_assign rfl (kk.e 16 rfl))) ?_; clear kk; intro a kk
  refine wp_ret ?_
  exact hfin a _ _ _ kk.d (kk.g 2 rfl) (kk.g 3 rfl) (by simp [Rfc.pnz, h, ov]) l1

set_option maxRecDepth 100000 in
set_option maxHeartbeats 1000000 in
theorem pz_zero (s : List UInt8) (w : World) (hT : Tabs w) (hl : s.length ≤ 100000) (h : Rfc.pnum s = some 0) :
    Calls Tryz.prog 46 #[.string ⟨s.toArray⟩] w fun e w' => ∃ v, e = .returned v ∧ v = ov (Rfc.pnz s) ∧ Below w.heap.size w w' := by
  refine calls_of_wp Tryz.func46 (show Tryz.f46.body = some pzBody from rfl) ?_
  generalize hAA : (Act.mk (#[.string ⟨s.toArray⟩] ++ Array.replicate (Tryz.f46.ntmps - (#[.string ⟨s.toArray⟩] : Array Value).size) undef) []) = a
  have hs : a.tmps.size = 17 := by rw [← hAA]; simp [Tryz.ntmps46]
  have hd : a.defers = [] := by rw [← hAA]
  have h0 : a.tmps.getD 0 undef = .string ⟨s.toArray⟩ := by rw [← hAA]; simp
  clear hAA
  have kk := (kn hs hd).p h0; clear hs hd h0
  have hfin : ∀ (a' : Act) (w' : World) (x y : Value), a'.defers = [] → a'.tmps.getD 2 undef = x → a'.tmps.getD 3 undef = y → .tuple #[x, y] = ov (Rfc.pnz s) → Below w.heap.size w w' → (bodyPost Tryz.prog Tryz.f46 fun e w' => ∃ v, e = .returned v ∧ v = ov (Rfc.pnz s) ∧ Below w.heap.size w w') .ret a' w' := by
    intro a' w' x y k1 k2 k3 k4 k5
    exact ⟨k1, _, results2 rfl _ _ _, _, rfl, by rw [k2, k3, k4], k5⟩
  generalize (bodyPost Tryz.prog Tryz.f46 fun e w' => ∃ v, e = .returned v ∧ v = ov (Rfc.pnz s) ∧ Below w.heap.size w w') = Q at hfin
  unfold pzBody
  conv => arg 2; whnf
  refine wp_seq ?_
  refine wpr 2 ?_
  refine opk 0 2 (v := .int .i64 0) kk (frY rfl (k_assign rfl rfl)) ?_; clear kk; intro a kk
  refine opk 1 3 (v := .bool false) kk (frY rfl (k_assign rfl rfl)) ?_; clear kk; intro a kk
  refine wp_seq ?_
  refine wpr 7 ?_
  refine opk 0 7 kk (frY rfl (k_move rfl (kk.e 0 rfl))) ?_; clear kk; intro a kk
  have hc := pn_any s w hT hl
  refine opkc 1 8 kk hc (frY rfl (c_pNum rfl rfl (kk.e 7 rfl))) ?_; clear kk hc
  rintro _ w1 a ⟨rfl, l1⟩ F0
  rw [h] at F0
  have kk := F0; clear F0
  refine opk 2 6 kk (frY rfl (k_move rfl (kk.e 8 rfl))) ?_; clear kk; intro a kk
  refine opk 3 9 (v := .int .i64 0) kk (frY rfl (k_extract rfl (kk.e 6 rfl) rfl)) ?_; clear kk; intro a kk
  refine opk 4 10 (v := .bool true) kk (frY rfl (k_extract rfl (kk.e 6 rfl) rfl)) ?_; clear kk; intro a kk
  refine opk 5 4 kk (frY rfl (k_assign rfl (kk.e 9 rfl))) ?_; clear kk; intro a kk
  refine opk 6 5 kk (frY rfl (k_assign rfl (kk.e 10 rfl))) ?_; clear kk; intro a kk
  refine wp_seq ?_
  refine wpr 8 ?_
  refine opk 0 11 kk (frY rfl (k_move rfl (kk.e 4 rfl))) ?_; clear kk; intro a kk
  refine opk 1 12 kk (frY rfl (k_move rfl (kk.e 5 rfl))) ?_; clear kk; intro a kk
  refine opk 2 13 kk (frY rfl (k_move rfl (kk.e 12 rfl))) ?_; clear kk; intro a kk
  refine opk 3 14 kk (frY (wanted_at (b := true) (want := true) rfl (by kernel_rfl) (kk.g 13 rfl)) (k_move rfl (kk.e 4 rfl))) ?_; clear kk; intro a kk
  refine opk 4 15 (v := .bool false) kk (frY (wanted_at (b := true) (want := true) rfl (by kernel_rfl) (kk.g 13 rfl)) (o_neI rfl (kk.e 14 rfl) rfl rfl)) ?_; clear kk; intro a kk
  refine opk 5 16 (v := .bool false) kk (frY rfl (k_pick_yes rfl (kk.e 13 rfl) (kk.e 15 rfl))) ?_; clear kk; intro a kk
  replace kk := kk.keep [16, 11, 5, 4, 3, 0] rfl
  refine opk 6 2 kk (frY rfl (k_assign rfl (kk.e 11 rfl))) ?_; clear kk; intro a kk
  replace kk := kk.keep [2, 16, 5, 4, 0] rfl
  refine opk 7 3 kk (frY rfl (k_assign rfl (kk.e 16 rfl))) ?_; clear kk; intro a kk
  refine wp_ret ?_
  exact hfin a _ _ _ kk.d (kk.g 2 rfl) (kk.g 3 rfl) (by simp [Rfc.pnz, h, ov]) l1

set_option maxRecDepth 100000 in
set_option maxHeartbeats 1000000 in
theorem pz_some (s : List UInt8) (w : World) (hT : Tabs w) (hl : s.length ≤ 100000) (n : Int) (h : Rfc.pnum s = some n) (hn : n ≠ 0) :
    Calls Tryz.prog 46 #[.string ⟨s.toArray⟩] w fun e w' => ∃ v, e = .returned v ∧ v = ov (Rfc.pnz s) ∧ Below w.heap.size w w' := by
  refine calls_of_wp Tryz.func46 (show Tryz.f46.body = some pzBody from rfl) ?_
  generalize hAA : (Act.mk (#[.string ⟨s.toArray⟩] ++ Array.replicate (Tryz.f46.ntmps - (#[.string ⟨s.toArray⟩] : Array Value).size) undef) []) = a
  have hs : a.tmps.size = 17 := by rw [← hAA]; simp [Tryz.ntmps46]
  have hd : a.defers = [] := by rw [← hAA]
  have h0 : a.tmps.getD 0 undef = .string ⟨s.toArray⟩ := by rw [← hAA]; simp
  clear hAA
  have kk := (kn hs hd).p h0; clear hs hd h0
  have hfin : ∀ (a' : Act) (w' : World) (x y : Value), a'.defers = [] → a'.tmps.getD 2 undef = x → a'.tmps.getD 3 undef = y → .tuple #[x, y] = ov (Rfc.pnz s) → Below w.heap.size w w' → (bodyPost Tryz.prog Tryz.f46 fun e w' => ∃ v, e = .returned v ∧ v = ov (Rfc.pnz s) ∧ Below w.heap.size w w') .ret a' w' := by
    intro a' w' x y k1 k2 k3 k4 k5
    exact ⟨k1, _, results2 rfl _ _ _, _, rfl, by rw [k2, k3, k4], k5⟩
  generalize (bodyPost Tryz.prog Tryz.f46 fun e w' => ∃ v, e = .returned v ∧ v = ov (Rfc.pnz s) ∧ Below w.heap.size w w') = Q at hfin
  unfold pzBody
  conv => arg 2; whnf
  refine wp_seq ?_
  refine wpr 2 ?_
  refine opk 0 2 (v := .int .i64 0) kk (frY rfl (k_assign rfl rfl)) ?_; clear kk; intro a kk
  refine opk 1 3 (v := .bool false) kk (frY rfl (k_assign rfl rfl)) ?_; clear kk; intro a kk
  refine wp_seq ?_
  refine wpr 7 ?_
  refine opk 0 7 kk (frY rfl (k_move rfl (kk.e 0 rfl))) ?_; clear kk; intro a kk
  have hc := pn_any s w hT hl
  refine opkc 1 8 kk hc (frY rfl (c_pNum rfl rfl (kk.e 7 rfl))) ?_; clear kk hc
  rintro _ w1 a ⟨rfl, l1⟩ F0
  rw [h] at F0
  have kk := F0; clear F0
  refine opk 2 6 kk (frY rfl (k_move rfl (kk.e 8 rfl))) ?_; clear kk; intro a kk
  refine opk 3 9 (v := .int .i64 n) kk (frY rfl (k_extract rfl (kk.e 6 rfl) rfl)) ?_; clear kk; intro a kk
  refine opk 4 10 (v := .bool true) kk (frY rfl (k_extract rfl (kk.e 6 rfl) rfl)) ?_; clear kk; intro a kk
  refine opk 5 4 kk (frY rfl (k_assign rfl (kk.e 9 rfl))) ?_; clear kk; intro a kk
  refine opk 6 5 kk (frY rfl (k_assign rfl (kk.e 10 rfl))) ?_; clear kk; intro a kk
  refine wp_seq ?_
  refine wpr 8 ?_
  refine opk 0 11 kk (frY rfl (k_move rfl (kk.e 4 rfl))) ?_; clear kk; intro a kk
  refine opk 1 12 kk (frY rfl (k_move rfl (kk.e 5 rfl))) ?_; clear kk; intro a kk
  refine opk 2 13 kk (frY rfl (k_move rfl (kk.e 12 rfl))) ?_; clear kk; intro a kk
  refine opk 3 14 kk (frY (wanted_at (b := true) (want := true) rfl (by kernel_rfl) (kk.g 13 rfl)) (k_move rfl (kk.e 4 rfl))) ?_; clear kk; intro a kk
  refine opk 4 15 (v := .bool true) kk (frY (wanted_at (b := true) (want := true) rfl (by kernel_rfl) (kk.g 13 rfl)) (o_neI rfl (kk.e 14 rfl) rfl (by simp [hn]))) ?_; clear kk; intro a kk
  refine opk 5 16 (v := .bool true) kk (frY rfl (k_pick_yes rfl (kk.e 13 rfl) (kk.e 15 rfl))) ?_; clear kk; intro a kk
  replace kk := kk.keep [16, 11, 5, 4, 3, 0] rfl
  refine opk 6 2 kk (frY rfl (k_assign rfl (kk.e 11 rfl))) ?_; clear kk; intro a kk
  replace kk := kk.keep [2, 16, 5, 4, 0] rfl
  refine opk 7 3 kk (frY rfl (k_assign rfl (kk.e 16 rfl))) ?_; clear kk; intro a kk
  refine wp_ret ?_
  exact hfin a _ _ _ kk.d (kk.g 2 rfl) (kk.g 3 rfl) (by simp [Rfc.pnz, h, ov, hn]) l1

theorem pz_any (s : List UInt8) (w : World) (hT : Tabs w) (hl : s.length ≤ 100000) :
    Calls Tryz.prog 46 #[.string ⟨s.toArray⟩] w fun e w' => ∃ v, e = .returned v ∧ v = ov (Rfc.pnz s) ∧ Below w.heap.size w w' := by
  cases h : Rfc.pnum s with
  | none => exact pz_none s w hT hl h
  | some n =>
    by_cases hn : n = 0
    · exact pz_zero s w hT hl (by rw [h, hn])
    · exact pz_some s w hT hl n h hn
end Go.Proofs.YtjdjekpbjnkliaaGreatDoor
