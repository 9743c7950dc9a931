/-
  The law's own number: a text's number, or none.
-/
import Derived.Test.YtjdjekpbjnkliaaGreatDoorRf2
import Derived.Test.YtjdjekpbjnkliaaGreatDoorRb5
import Derived.Test.YtjdjekpbjnkliaaGreatDoorW5
import Derived.Lib.ConvBytes
namespace Go.Proofs.YtjdjekpbjnkliaaGreatDoor
open Go.RowKit
def NumO (s : List UInt8) (v : Value) : Prop := ∃ x b, v = .tuple #[.int .i64 x, .bool b] ∧ (b = true → Rfc.pnum s = some x) ∧ (b = false → Rfc.pnum s = none)
theorem o_mulX {w : World} {ρ : Operand → Value} {o : Oper} {x y : Operand} {n m r : Int} (ho : o.op = .binOp .mul 140 x y 140) (hx : ρ x = .int .u64 n) (hy : ρ y = .int .u64 m) (hr : IntKind.u64.wrap (n * m) = r) : (execOp ρ o).run Tryz.prog w = .ok (.value (.int .u64 r)) w := by
  subst hr
  simp only [execOp, ho, hx, hy]
  go_simp
theorem o_addX {w : World} {ρ : Operand → Value} {o : Oper} {x y : Operand} {n m r : Int} (ho : o.op = .binOp .add 140 x y 140) (hx : ρ x = .int .u64 n) (hy : ρ y = .int .u64 m) (hr : IntKind.u64.wrap (n + m) = r) : (execOp ρ o).run Tryz.prog w = .ok (.value (.int .u64 r)) w := by
  subst hr
  simp only [execOp, ho, hx, hy]
  go_simp
theorem o_subB {w : World} {ρ : Operand → Value} {o : Oper} {x y : Operand} {n m r : Int} (ho : o.op = .binOp .sub 5 x y 5) (hx : ρ x = .int .u8 n) (hy : ρ y = .int .u8 m) (hr : IntKind.u8.wrap (n - m) = r) : (execOp ρ o).run Tryz.prog w = .ok (.value (.int .u8 r)) w := by
  subst hr
  simp only [execOp, ho, hx, hy]
  go_simp
theorem o_ltX {w : World} {ρ : Operand → Value} {o : Oper} {x y : Operand} {n m : Int} {q : Bool} (ho : o.op = .binOp .lss 140 x y 140) (hx : ρ x = .int .u64 n) (hy : ρ y = .int .u64 m) (hr : (decide (n < m)) = q) : (execOp ρ o).run Tryz.prog w = .ok (.value (.bool q)) w := by
  subst hr
  simp only [execOp, ho, hx, hy]
  go_simp
theorem o_leX {w : World} {ρ : Operand → Value} {o : Oper} {x y : Operand} {n m : Int} {q : Bool} (ho : o.op = .binOp .leq 140 x y 140) (hx : ρ x = .int .u64 n) (hy : ρ y = .int .u64 m) (hr : (decide (n ≤ m)) = q) : (execOp ρ o).run Tryz.prog w = .ok (.value (.bool q)) w := by
  subst hr
  simp only [execOp, ho, hx, hy]
  go_simp
theorem o_convBX {w : World} {ρ : Operand → Value} {o : Oper} {x : Operand} {n r : Int} (ho : o.op = .convert 5 140 x) (hx : ρ x = .int .u8 n) (hr : IntKind.u64.wrap n = r) : (execOp ρ o).run Tryz.prog w = .ok (.value (.int .u64 r)) w := by
  subst hr
  simp only [execOp, ho, hx]
  go_simp
theorem o_convXI {w : World} {ρ : Operand → Value} {o : Oper} {x : Operand} {n r : Int} (ho : o.op = .convert 140 3 x) (hx : ρ x = .int .u64 n) (hr : IntKind.i64.wrap n = r) : (execOp ρ o).run Tryz.prog w = .ok (.value (.int .i64 r)) w := by
  subst hr
  simp only [execOp, ho, hx]
  go_simp
theorem o_negX {w : World} {ρ : Operand → Value} {o : Oper} {x : Operand} {n r : Int} (ho : o.op = .unOp .neg 140 x) (hx : ρ x = .int .u64 n) (hr : IntKind.u64.wrap (-n) = r) : (execOp ρ o).run Tryz.prog w = .ok (.value (.int .u64 r)) w := by
  subst hr
  simp only [execOp, ho, hx]
  go_simp
theorem k_idx0 {w : World} {ρ : Operand → Value} {o : Oper} {x : Operand} {c : UInt8} {r : List UInt8} (ho : o.op = .index 9 x (.const (.int .i64 0))) (hx : ρ x = .string ⟨(c :: r).toArray⟩) (hc : ρ (.const (.int .i64 0)) = .int .i64 0) : (execOp ρ o).run Tryz.prog w = .ok (.value (.int .u8 c.toNat)) w := by
  have hr : (Instr.index 9 (.string ⟨(c :: r).toArray⟩) (.int .i64 0)).run Tryz.prog w = .ok (.int .u8 c.toNat) w := by
    rw [run_index_string w 9 _ _ _ Tryz.underlying9, dif_pos ⟨by omega, by rw [ba_len]; simp⟩]
    rfl
  simp only [execOp, ho, hx, hc, Sem.run_bind, hr, Result.andThen_ok, Sem.run_pure]
theorem k_convB {w : World} {ρ : Operand → Value} {o : Oper} {x : Operand} {l : List UInt8} (ho : o.op = .convert 9 36 x) (hx : ρ x = .string ⟨(l).toArray⟩) : (execOp ρ o).run Tryz.prog w = .ok (.value (.slice (some ⟨w.heap.size, 0, none⟩) l.length (grownCap w l.length 0 5))) (Lib.bytesWorld w 5 ⟨l.toArray⟩) := by
  have hr := Lib.run_convert_string_bytes (P := Tryz.prog) w 9 36 5 ⟨l.toArray⟩ Tryz.underlying9 Tryz.underlying36 Tryz.underlying5
  rw [ba_len] at hr
  simp only [execOp, ho, hx, Sem.run_bind, hr, Result.andThen_ok, Sem.run_pure]
theorem u64_small {n : Int} (h1 : 0 ≤ n) (h2 : n < 18446744073709551616) : IntKind.u64.wrap n = n := by
  unfold IntKind.wrap
  simp [IntKind.bits, IntKind.signed]
  omega
theorem u8_small {n : Int} (h1 : 0 ≤ n) (h2 : n < 256) : IntKind.u8.wrap n = n := by
  unfold IntKind.wrap
  simp [IntKind.bits, IntKind.signed]
  omega
theorem neg_wrap {n : Int} (h1 : 1 ≤ n) (h2 : n ≤ 9223372036854775808) : IntKind.i64.wrap (IntKind.u64.wrap (-n)) = -n := by
  unfold IntKind.wrap
  simp [IntKind.bits, IntKind.signed]
  omega
theorem tp_any (s : List UInt8) (w : World) : Calls Tryz.prog 97 #[.string ⟨(s).toArray⟩, .string ⟨#[45]⟩] w fun e w' => ∃ v, e = .returned v ∧ v = .string ⟨(Rfc.tp s).toArray⟩ ∧ w = w' :=
  (Tryz.strings_TrimPrefix ⟨s.toArray⟩ ⟨#[45]⟩ w).mono fun e w' ⟨he, hw⟩ => ⟨_, he, by rw [ba_data]; rfl, hw.symm⟩
theorem c_TrimP {w : World} {ρ : Operand → Value} {o : Oper} {x y : Operand} {v u : Value} (ho : o.op = .call ⟨.value (.func 97), #[x, y], #[9, 9]⟩) (hf : ρ (.func 97) = .func (.func 97) #[] #[]) (hx : ρ x = v) (hy : ρ y = u) : (execOp ρ o).run Tryz.prog w = .ok (.enter 97 #[v, u]) w := by
  simp only [execOp, ho]
  go_simp
noncomputable def lnbBody : Code := Tryz.f56.body.getD .skip
noncomputable def lnbRound : Code := (Tryz.f56.body.bind loopC).getD .skip
structure LnS (s : List UInt8) (a : Act) : Prop where
  hd : a.defers = []
  hs : a.tmps.size = 64
  h0 : a.tmps.getD 0 undef = .string ⟨(s).toArray⟩
  h4 : a.tmps.getD 4 undef = .string ⟨(Rfc.tp s).toArray⟩
structure LpB (s : List UInt8) (g cap i : Nat) (a : Act) : Prop where
  d : a.defers = []
  z : a.tmps.size = 64
  s0 : a.tmps.getD 0 undef = .string ⟨(s).toArray⟩
  s4 : a.tmps.getD 4 undef = .string ⟨(Rfc.tp s).toArray⟩
  s5 : a.tmps.getD 5 undef = .int .u64 (Rfc.dv ((Rfc.tp s).take i) : Nat)
  s33 : a.tmps.getD 33 undef = .slice (some ⟨g, 0, none⟩) (Rfc.tp s).length cap
  s34 : a.tmps.getD 34 undef = .int .i64 (Rfc.tp s).length
  s35 : a.tmps.getD 35 undef = .int .i64 i
  iN : i ≤ (Rfc.tp s).length
  dg : Rfc.Dig ((Rfc.tp s).take i)

set_option maxRecDepth 100000 in
set_option maxHeartbeats 1000000 in
theorem lnb_lt (s : List UInt8) (w wx : World) (g cap i : Nat) (a : Act) (Q : Exit → Act → World → Prop) (hfin : ∀ (a' : Act) (w' : World) (x : Int) (b : Bool), a'.defers = [] → a'.tmps.getD 2 undef = .int .i64 x → a'.tmps.getD 3 undef = .bool b → (b = true → Rfc.pnum s = some x) → (b = false → Rfc.pnum s = none) → Below w.heap.size w w' → Q .ret a' w') (hbl : Below w.heap.size w wx) (hcell0 : ∀ j (h : j < (Rfc.tp s).length), wx.cell? ((⟨g, 0, none⟩ : Addr).add j) = some (.int .u8 ((Rfc.tp s)[j].toNat : Nat))) (J : LpB s g cap i a) (hlt : i < (Rfc.tp s).length) (hc : (Rfc.tp s)[i].toNat < 48) :
    lnbRound.wp Tryz.prog (Exit.then (fun a' w' => (wx = w' ∧ ∃ i, LpB s g cap i a') ∧ ((Rfc.tp s).length - intOf (a'.tmps.getD 35 undef)).toNat < ((Rfc.tp s).length - intOf (a.tmps.getD 35 undef)).toNat) Q) a wx := by
  obtain ⟨hd, hs, h0, h4, h5, h33, h34, h35, hi, dg⟩ := J
  have kk := ((((((kn hs hd).p h0).p h4).p h5).p h33).p h34).p h35; clear hs hd h0 h4 h5 h33 h34 h35
  have hcell := hcell0 i hlt
  have hno : Rfc.pnum s = none := Rfc.pnum_none (fun h => by
    have := h.2.2.2 (Rfc.tp s)[i] (List.getElem_mem hlt)
    omega)
  have e35 := (kk.g 35 rfl)
  rw [e35]
  clear e35
  unfold lnbRound
  conv => arg 2; whnf
  refine wp_seq ?_
  refine wpr 1 ?_
  refine opk 0 36 (v := .bool true) kk (frY rfl (o_ltI rfl (kk.e 35 rfl) (kk.e 34 rfl) (decide_eq_true (by omega)))) ?_; clear kk; intro a kk
  refine wp_seq ?_
  refine wp_cond_true (kk.e 36 rfl) ?_
  refine wp_skip ?_
  refine wp_seq ?_
  refine wp_block ?_
  refine wp_seq ?_
  refine wpr 3 ?_
  refine opk 0 37 (v := .pointer (some ((⟨g, 0, none⟩ : Addr).add i))) kk (frY rfl (k_atB rfl (kk.e 33 rfl) (kk.e 35 rfl) hlt)) ?_; clear kk; intro a kk
  refine opk 1 38 (v := .int .u8 ((Rfc.tp s)[i].toNat : Nat)) kk (frY rfl (k_loadB rfl (kk.e 37 rfl) hcell)) ?_; clear kk; intro a kk
  refine opk 2 7 kk (frY rfl (k_assign rfl (kk.e 38 rfl))) ?_; clear kk; intro a kk
  refine wp_seq ?_
  refine wp_seq ?_
  refine wpr 6 ?_
  refine opk 0 39 kk (frY rfl (k_move rfl (kk.e 7 rfl))) ?_; clear kk; intro a kk
  refine opk 1 40 (v := .bool true) kk (frY rfl (o_ltB rfl (kk.e 39 rfl) rfl (decide_eq_true (by omega)))) ?_; clear kk; intro a kk
  refine opk 2 41 kk (frY rfl (k_move rfl (kk.e 40 rfl))) ?_; clear kk; intro a kk
  refine opkn 3 42 kk (frX (wanted_at (b := true) (want := false) rfl (by kernel_rfl) (kk.g 41 rfl))) ?_; clear kk; intro a kk
  refine opkn 4 43 kk (frX (wanted_at (b := true) (want := false) rfl (by kernel_rfl) (kk.g 41 rfl))) ?_; clear kk; intro a kk
  refine opk 5 44 (v := .bool true) kk (frY rfl (k_pick_yes rfl (kk.e 41 rfl) rfl)) ?_; clear kk; intro a kk
  refine wp_cond_true (kk.e 44 rfl) ?_
  refine wp_seq ?_
  refine wpr 2 ?_
  refine opk 0 2 (v := .int .i64 0) kk (frY rfl (k_assign rfl rfl)) ?_; clear kk; intro a kk
  refine opk 1 3 (v := .bool false) kk (frY rfl (k_assign rfl rfl)) ?_; clear kk; intro a kk
  refine wp_ret ?_
  exact hfin a _ _ _ kk.d (kk.g 2 rfl) (kk.g 3 rfl) (fun e => by cases e) (fun _ => hno) hbl

set_option maxRecDepth 100000 in
set_option maxHeartbeats 1000000 in
theorem lnb_gt (s : List UInt8) (w wx : World) (g cap i : Nat) (a : Act) (Q : Exit → Act → World → Prop) (hfin : ∀ (a' : Act) (w' : World) (x : Int) (b : Bool), a'.defers = [] → a'.tmps.getD 2 undef = .int .i64 x → a'.tmps.getD 3 undef = .bool b → (b = true → Rfc.pnum s = some x) → (b = false → Rfc.pnum s = none) → Below w.heap.size w w' → Q .ret a' w') (hbl : Below w.heap.size w wx) (hcell0 : ∀ j (h : j < (Rfc.tp s).length), wx.cell? ((⟨g, 0, none⟩ : Addr).add j) = some (.int .u8 ((Rfc.tp s)[j].toNat : Nat))) (J : LpB s g cap i a) (hlt : i < (Rfc.tp s).length) (hc : 57 < (Rfc.tp s)[i].toNat) :
    lnbRound.wp Tryz.prog (Exit.then (fun a' w' => (wx = w' ∧ ∃ i, LpB s g cap i a') ∧ ((Rfc.tp s).length - intOf (a'.tmps.getD 35 undef)).toNat < ((Rfc.tp s).length - intOf (a.tmps.getD 35 undef)).toNat) Q) a wx := by
  obtain ⟨hd, hs, h0, h4, h5, h33, h34, h35, hi, dg⟩ := J
  have kk := ((((((kn hs hd).p h0).p h4).p h5).p h33).p h34).p h35; clear hs hd h0 h4 h5 h33 h34 h35
  have hcell := hcell0 i hlt
  have hno : Rfc.pnum s = none := Rfc.pnum_none (fun h => by
    have := h.2.2.2 (Rfc.tp s)[i] (List.getElem_mem hlt)
    omega)
  have e35 := (kk.g 35 rfl)
  rw [e35]
  clear e35
  unfold lnbRound
  conv => arg 2; whnf
  refine wp_seq ?_
  refine wpr 1 ?_
  refine opk 0 36 (v := .bool true) kk (frY rfl (o_ltI rfl (kk.e 35 rfl) (kk.e 34 rfl) (decide_eq_true (by omega)))) ?_; clear kk; intro a kk
  refine wp_seq ?_
  refine wp_cond_true (kk.e 36 rfl) ?_
  refine wp_skip ?_
  refine wp_seq ?_
  refine wp_block ?_
  refine wp_seq ?_
  refine wpr 3 ?_
  refine opk 0 37 (v := .pointer (some ((⟨g, 0, none⟩ : Addr).add i))) kk (frY rfl (k_atB rfl (kk.e 33 rfl) (kk.e 35 rfl) hlt)) ?_; clear kk; intro a kk
  refine opk 1 38 (v := .int .u8 ((Rfc.tp s)[i].toNat : Nat)) kk (frY rfl (k_loadB rfl (kk.e 37 rfl) hcell)) ?_; clear kk; intro a kk
  refine opk 2 7 kk (frY rfl (k_assign rfl (kk.e 38 rfl))) ?_; clear kk; intro a kk
  refine wp_seq ?_
  refine wp_seq ?_
  refine wpr 6 ?_
  refine opk 0 39 kk (frY rfl (k_move rfl (kk.e 7 rfl))) ?_; clear kk; intro a kk
  refine opk 1 40 (v := .bool false) kk (frY rfl (o_ltB rfl (kk.e 39 rfl) rfl (decide_eq_false (by omega)))) ?_; clear kk; intro a kk
  refine opk 2 41 kk (frY rfl (k_move rfl (kk.e 40 rfl))) ?_; clear kk; intro a kk
  refine opk 3 42 kk (frY (wanted_at (b := false) (want := false) rfl (by kernel_rfl) (kk.g 41 rfl)) (k_move rfl (kk.e 7 rfl))) ?_; clear kk; intro a kk
  refine opk 4 43 (v := .bool true) kk (frY (wanted_at (b := false) (want := false) rfl (by kernel_rfl) (kk.g 41 rfl)) (o_gtB rfl (kk.e 42 rfl) rfl (decide_eq_true (by omega)))) ?_; clear kk; intro a kk
  refine opk 5 44 (v := .bool true) kk (frY rfl (k_pick_no rfl (kk.e 41 rfl) (kk.e 43 rfl))) ?_; clear kk; intro a kk
  refine wp_cond_true (kk.e 44 rfl) ?_
  refine wp_seq ?_
  refine wpr 2 ?_
  refine opk 0 2 (v := .int .i64 0) kk (frY rfl (k_assign rfl rfl)) ?_; clear kk; intro a kk
  refine opk 1 3 (v := .bool false) kk (frY rfl (k_assign rfl rfl)) ?_; clear kk; intro a kk
  refine wp_ret ?_
  exact hfin a _ _ _ kk.d (kk.g 2 rfl) (kk.g 3 rfl) (fun e => by cases e) (fun _ => hno) hbl

set_option maxRecDepth 100000 in
set_option maxHeartbeats 1000000 in
theorem lnb_ok (s : List UInt8) (wx : World) (g cap i : Nat) (a : Act) (Q : Exit → Act → World → Prop) (hl : (Rfc.tp s).length ≤ 19) (hcell0 : ∀ j (h : j < (Rfc.tp s).length), wx.cell? ((⟨g, 0, none⟩ : Addr).add j) = some (.int .u8 ((Rfc.tp s)[j].toNat : Nat))) (J : LpB s g cap i a) (hlt : i < (Rfc.tp s).length) (hc : 48 ≤ (Rfc.tp s)[i].toNat ∧ (Rfc.tp s)[i].toNat ≤ 57) :
    lnbRound.wp Tryz.prog (Exit.then (fun a' w' => (wx = w' ∧ ∃ i, LpB s g cap i a') ∧ ((Rfc.tp s).length - intOf (a'.tmps.getD 35 undef)).toNat < ((Rfc.tp s).length - intOf (a.tmps.getD 35 undef)).toNat) Q) a wx := by
  obtain ⟨hd, hs, h0, h4, h5, h33, h34, h35, hi, dg⟩ := J
  have kk := ((((((kn hs hd).p h0).p h4).p h5).p h33).p h34).p h35; clear hs hd h0 h4 h5 h33 h34 h35
  have hcell := hcell0 i hlt
  have eT : (Rfc.tp s).take (i + 1) = (Rfc.tp s).take i ++ [(Rfc.tp s)[i]] := List.take_succ_eq_append_getElem hlt
  have hdv := Rfc.dv_lt _ _ rfl dg
  rw [List.length_take, Nat.min_eq_left hi] at hdv
  have hp : (10 : Nat) ^ i ≤ 10 ^ 18 := Nat.pow_le_pow_right (by omega) (by omega)
  have eV : 10 * ((Rfc.dv ((Rfc.tp s).take i) : Nat) : Int) + (((Rfc.tp s)[i].toNat : Int) - 48) = ((Rfc.dv ((Rfc.tp s).take (i + 1)) : Nat) : Int) := by
    rw [eT, Rfc.dv_snoc]
    omega
  have e35 := (kk.g 35 rfl)
  rw [e35]
  clear e35
  unfold lnbRound
  conv => arg 2; whnf
  refine wp_seq ?_
  refine wpr 1 ?_
  refine opk 0 36 (v := .bool true) kk (frY rfl (o_ltI rfl (kk.e 35 rfl) (kk.e 34 rfl) (decide_eq_true (by omega)))) ?_; clear kk; intro a kk
  refine wp_seq ?_
  refine wp_cond_true (kk.e 36 rfl) ?_
  refine wp_skip ?_
  refine wp_seq ?_
  refine wp_block ?_
  refine wp_seq ?_
  refine wpr 3 ?_
  refine opk 0 37 (v := .pointer (some ((⟨g, 0, none⟩ : Addr).add i))) kk (frY rfl (k_atB rfl (kk.e 33 rfl) (kk.e 35 rfl) hlt)) ?_; clear kk; intro a kk
  refine opk 1 38 (v := .int .u8 ((Rfc.tp s)[i].toNat : Nat)) kk (frY rfl (k_loadB rfl (kk.e 37 rfl) hcell)) ?_; clear kk; intro a kk
  refine opk 2 7 kk (frY rfl (k_assign rfl (kk.e 38 rfl))) ?_; clear kk; intro a kk
  refine wp_seq ?_
  refine wp_seq ?_
  refine wpr 6 ?_
  refine opk 0 39 kk (frY rfl (k_move rfl (kk.e 7 rfl))) ?_; clear kk; intro a kk
  refine opk 1 40 (v := .bool false) kk (frY rfl (o_ltB rfl (kk.e 39 rfl) rfl (decide_eq_false (by omega)))) ?_; clear kk; intro a kk
  refine opk 2 41 kk (frY rfl (k_move rfl (kk.e 40 rfl))) ?_; clear kk; intro a kk
  refine opk 3 42 kk (frY (wanted_at (b := false) (want := false) rfl (by kernel_rfl) (kk.g 41 rfl)) (k_move rfl (kk.e 7 rfl))) ?_; clear kk; intro a kk
  refine opk 4 43 (v := .bool false) kk (frY (wanted_at (b := false) (want := false) rfl (by kernel_rfl) (kk.g 41 rfl)) (o_gtB rfl (kk.e 42 rfl) rfl (decide_eq_false (by omega)))) ?_; clear kk; intro a kk
  refine opk 5 44 (v := .bool false) kk (frY rfl (k_pick_no rfl (kk.e 41 rfl) (kk.e 43 rfl))) ?_; clear kk; intro a kk
  refine wp_cond_false (kk.e 44 rfl) ?_
  refine wp_skip ?_
  refine wpr 7 ?_
  refine opk 0 45 kk (frY rfl (k_move rfl (kk.e 5 rfl))) ?_; clear kk; intro a kk
  refine opk 1 46 (v := .int .u64 (10 * (Rfc.dv ((Rfc.tp s).take i) : Nat))) kk (frY rfl (o_mulX rfl rfl (kk.e 45 rfl) (u64_small (by omega) (by omega)))) ?_; clear kk; intro a kk
  refine opk 2 47 kk (frY rfl (k_move rfl (kk.e 7 rfl))) ?_; clear kk; intro a kk
  refine opk 3 48 (v := .int .u8 (((Rfc.tp s)[i].toNat : Int) - 48)) kk (frY rfl (o_subB rfl (kk.e 47 rfl) rfl (u8_small (by omega) (by omega)))) ?_; clear kk; intro a kk
  refine opk 4 49 (v := .int .u64 (((Rfc.tp s)[i].toNat : Int) - 48)) kk (frY rfl (o_convBX rfl (kk.e 48 rfl) (u64_small (by omega) (by omega)))) ?_; clear kk; intro a kk
  refine opk 5 50 (v := .int .u64 (Rfc.dv ((Rfc.tp s).take (i + 1)) : Nat)) kk (frY rfl (o_addX rfl (kk.e 46 rfl) (kk.e 49 rfl) ((u64_small (by omega) (by omega)).trans eV))) ?_; clear kk; intro a kk
  replace kk := kk.keep [50, 7, 35, 34, 33, 4, 0] rfl
  refine opk 6 5 kk (frY rfl (k_assign rfl (kk.e 50 rfl))) ?_; clear kk; intro a kk
  refine wpr 2 ?_
  refine opk 0 51 (v := .int .i64 (i + 1 : Nat)) kk (frY rfl (o_addI rfl (kk.e 35 rfl) rfl (wrap_small (n := (i : Int) + 1) (by omega) (by omega)))) ?_; clear kk; intro a kk
  replace kk := kk.keep [51, 5, 7, 34, 33, 4, 0] rfl
  refine opk 1 35 kk (frY rfl (k_move rfl (kk.e 51 rfl))) ?_; clear kk; intro a kk
  refine ⟨⟨rfl, i + 1, kk.d, kk.z, (kk.g 0 rfl), (kk.g 4 rfl), (kk.g 5 rfl), (kk.g 33 rfl), (kk.g 34 rfl), (kk.g 35 rfl), hlt, ?_⟩, ?_⟩
  ·
    rw [eT]
    intro c hcm
    rcases List.mem_append.1 hcm with hcm | hcm
    · exact dg c hcm
    ·
      rw [List.mem_singleton.1 hcm]
      exact hc
  ·
    rw [(kk.g 35 rfl)]
    simp only [intOf]
    omega

set_option maxRecDepth 100000 in
set_option maxHeartbeats 2000000 in
theorem lnumber_any (s : List UInt8) (w : World) :
    Calls Tryz.prog 56 #[.string ⟨(s).toArray⟩] w fun e w' => ∃ v, e = .returned v ∧ NumO s v ∧ Below w.heap.size w w' := by
  have hC : Rfc.tp s = [] ∨ (Rfc.tp s ≠ [] ∧ 19 < (Rfc.tp s).length) ∨ (Rfc.tp s ≠ [] ∧ (Rfc.tp s).length ≤ 19 ∧ (Rfc.tp s).head? ≠ some 48) ∨ (Rfc.tp s ≠ [] ∧ (Rfc.tp s).length ≤ 19 ∧ (Rfc.tp s).head? = some 48 ∧ 1 < (Rfc.tp s).length) ∨ (Rfc.tp s ≠ [] ∧ (Rfc.tp s).length ≤ 19 ∧ (Rfc.tp s).head? = some 48 ∧ (Rfc.tp s).length ≤ 1 ∧ Rfc.tp s ≠ s) ∨ (Rfc.tp s ≠ [] ∧ (Rfc.tp s).length ≤ 19 ∧ (Rfc.tp s).head? = some 48 ∧ (Rfc.tp s).length ≤ 1 ∧ Rfc.tp s = s) := by
    by_cases g0 : Rfc.tp s = []
    · exact .inl g0
    · by_cases g1 : 19 < (Rfc.tp s).length
      · exact .inr (.inl ⟨g0, g1⟩)
      · by_cases g2 : (Rfc.tp s).head? = some 48
        · by_cases g3 : 1 < (Rfc.tp s).length
          · exact .inr (.inr (.inr (.inl ⟨g0, by omega, g2, g3⟩)))
          · by_cases g4 : Rfc.tp s = s
            · exact .inr (.inr (.inr (.inr (.inr ⟨g0, by omega, g2, by omega, g4⟩))))
            · exact .inr (.inr (.inr (.inr (.inl ⟨g0, by omega, g2, by omega, g4⟩))))
        · exact .inr (.inr (.inl ⟨g0, by omega, g2⟩))
  refine calls_of_wp Tryz.func56 (show Tryz.f56.body = some lnbBody from rfl) ?_
  generalize hAA : (Act.mk (#[.string ⟨(s).toArray⟩] ++ Array.replicate (Tryz.f56.ntmps - (#[.string ⟨(s).toArray⟩] : Array Value).size) undef) []) = a
  have hs : a.tmps.size = 64 := by rw [← hAA]; simp [Tryz.ntmps56]
  have hd : a.defers = [] := by rw [← hAA]
  have h0 : a.tmps.getD 0 undef = .string ⟨(s).toArray⟩ := by rw [← hAA]; simp
  clear hAA
  have kk := (kn hs hd).p h0; clear hs hd h0
  have hfin0 : ∀ (a' : Act) (w' : World) (x : Int) (b : Bool), a'.defers = [] → a'.tmps.getD 2 undef = .int .i64 x → a'.tmps.getD 3 undef = .bool b → (b = true → Rfc.pnum s = some x) → (b = false → Rfc.pnum s = none) → Below w.heap.size w w' → (bodyPost Tryz.prog Tryz.f56 fun e w' => ∃ v, e = .returned v ∧ NumO s v ∧ Below w.heap.size w w') .ret a' w' := by
    intro a' w' x b k1 k2 k3 k4 k5 k6
    exact ⟨k1, _, results2 rfl _ _ _, _, rfl, ⟨x, b, by rw [k2, k3], k4, k5⟩, k6⟩
  generalize (bodyPost Tryz.prog Tryz.f56 fun e w' => ∃ v, e = .returned v ∧ NumO s v ∧ Below w.heap.size w w') = Q at hfin0
  have hfin := hfin0
  clear hfin0
  unfold lnbBody
  conv => arg 2; whnf
  refine wp_seq ?_
  refine wpr 2 ?_
  refine opk 0 2 (v := .int .i64 0) kk (frY rfl (k_assign rfl rfl)) ?_; clear kk; intro a kk
  refine opk 1 3 (v := .bool false) kk (frY rfl (k_assign rfl rfl)) ?_; clear kk; intro a kk
  refine wp_seq ?_
  refine wpr 3 ?_
  refine opk 0 8 kk (frY rfl (k_move rfl (kk.e 0 rfl))) ?_; clear kk; intro a kk
  have hc := tp_any s w
  refine opkc 1 9 kk hc (frY rfl (c_TrimP rfl rfl (kk.e 8 rfl) rfl)) ?_; clear kk hc
  rintro _ w' a ⟨rfl, hww⟩ F0
  subst hww
  have kk := F0; clear F0
  refine opk 2 4 kk (frY rfl (k_assign rfl (kk.e 9 rfl))) ?_; clear kk; intro a kk
  refine wp_seq ?_
  refine cut_at (fun a' w' => w = w' ∧ LnS s a' ∧ Rfc.tp s ≠ [] ∧ (Rfc.tp s).length ≤ 19 ∧ ((Rfc.tp s).head? = some 48 → (Rfc.tp s).length = 1 ∧ Rfc.tp s = s)) ?z97 ?z98
  case z97 =>
    refine wp_seq ?_
    rcases hC with g0 | ⟨g0, g1⟩ | ⟨g0, g1, g2⟩ | ⟨g0, g1, g2, g3⟩ | ⟨g0, g1, g2, g3, g4⟩ | ⟨g0, g1, g2, g3, g4⟩
    · have e_emp : ((⟨(Rfc.tp s).toArray⟩ : ByteArray).toList == (⟨#[]⟩ : ByteArray).toList) = true := by
        rw [list_of_ba, show (⟨#[]⟩ : ByteArray).toList = [] from list_of_ba []]
        simpa using g0
      refine wpr 22 ?_
      refine opk 0 10 kk (frY rfl (k_move rfl (kk.e 4 rfl))) ?_; clear kk; intro a kk
      refine opk 1 11 (v := .bool true) kk (frY rfl (o_eqStr rfl (kk.e 10 rfl) rfl e_emp)) ?_; clear kk; intro a kk
      refine opk 2 12 kk (frY rfl (k_move rfl (kk.e 11 rfl))) ?_; clear kk; intro a kk
      refine opkn 3 13 kk (frX (wanted_at (b := true) (want := false) rfl (by kernel_rfl) (kk.g 12 rfl))) ?_; clear kk; intro a kk
      refine opkn 4 14 kk (frX (wanted_at (b := true) (want := false) rfl (by kernel_rfl) (kk.g 12 rfl))) ?_; clear kk; intro a kk
      refine opkn 5 15 kk (frX (wanted_at (b := true) (want := false) rfl (by kernel_rfl) (kk.g 12 rfl))) ?_; clear kk; intro a kk
      refine opk 6 16 (v := .bool true) kk (frY rfl (k_pick_yes rfl (kk.e 12 rfl) rfl)) ?_; clear kk; intro a kk
      refine opk 7 17 kk (frY rfl (k_move rfl (kk.e 16 rfl))) ?_; clear kk; intro a kk
      refine opkn 8 18 kk (frX (wanted_at (b := true) (want := false) rfl (by kernel_rfl) (kk.g 17 rfl))) ?_; clear kk; intro a kk
      refine opkn 9 19 kk (frX (wanted_at (b := true) (want := false) rfl (by kernel_rfl) (kk.g 17 rfl))) ?_; clear kk; intro a kk
      refine opkn 10 20 kk (frX (wanted_at (b := true) (want := false) rfl (by kernel_rfl) (kk.g 17 rfl))) ?_; clear kk; intro a kk
      refine opkn 11 21 kk (frX (wanted_at (b := true) (want := false) rfl (by kernel_rfl) (kk.g 17 rfl))) ?_; clear kk; intro a kk
      refine opkn 12 22 kk (frX (wanted_not (want := true) rfl (by kernel_rfl) (kk.g 21 rfl))) ?_; clear kk; intro a kk
      refine opkn 13 23 kk (frX (wanted_not (want := true) rfl (by kernel_rfl) (kk.g 21 rfl))) ?_; clear kk; intro a kk
      refine opkn 14 24 kk (frX (wanted_not (want := true) rfl (by kernel_rfl) (kk.g 21 rfl))) ?_; clear kk; intro a kk
      refine opkn 15 25 kk (frX (wanted_not (want := true) rfl (by kernel_rfl) (kk.g 21 rfl))) ?_; clear kk; intro a kk
      refine opkn 16 26 kk (frX (wanted_not (want := false) rfl (by kernel_rfl) (kk.g 25 rfl))) ?_; clear kk; intro a kk
      refine opkn 17 27 kk (frX (wanted_not (want := false) rfl (by kernel_rfl) (kk.g 25 rfl))) ?_; clear kk; intro a kk
      refine opkn 18 28 kk (frX (wanted_not (want := false) rfl (by kernel_rfl) (kk.g 25 rfl))) ?_; clear kk; intro a kk
      refine opkn 19 29 kk (frX (wanted_not (want := true) rfl (by kernel_rfl) (kk.g 21 rfl))) ?_; clear kk; intro a kk
      refine opkn 20 30 kk (frX (wanted_at (b := true) (want := false) rfl (by kernel_rfl) (kk.g 17 rfl))) ?_; clear kk; intro a kk
      replace kk := kk.keep [17, 4, 3, 2, 0] rfl
      refine opk 21 31 (v := .bool true) kk (frY rfl (k_pick_yes rfl (kk.e 17 rfl) rfl)) ?_; clear kk; intro a kk
      refine wp_cond_true (kk.e 31 rfl) ?_
      refine wp_seq ?_
      refine wpr 2 ?_
      replace kk := kk.keep [4, 3, 0] rfl
      refine opk 0 2 (v := .int .i64 0) kk (frY rfl (k_assign rfl rfl)) ?_; clear kk; intro a kk
      replace kk := kk.keep [2, 4, 0] rfl
      refine opk 1 3 (v := .bool false) kk (frY rfl (k_assign rfl rfl)) ?_; clear kk; intro a kk
      refine wp_ret ?_
      exact hfin a _ _ _ kk.d (kk.g 2 rfl) (kk.g 3 rfl) (fun e => by cases e) (fun _ => Rfc.pnum_none (fun h => h.1 g0)) (Below.refl _ _)
    · have e_emp : ((⟨(Rfc.tp s).toArray⟩ : ByteArray).toList == (⟨#[]⟩ : ByteArray).toList) = false := by
        rw [list_of_ba, show (⟨#[]⟩ : ByteArray).toList = [] from list_of_ba []]
        simpa using g0
      refine wpr 22 ?_
      refine opk 0 10 kk (frY rfl (k_move rfl (kk.e 4 rfl))) ?_; clear kk; intro a kk
      refine opk 1 11 (v := .bool false) kk (frY rfl (o_eqStr rfl (kk.e 10 rfl) rfl e_emp)) ?_; clear kk; intro a kk
      refine opk 2 12 kk (frY rfl (k_move rfl (kk.e 11 rfl))) ?_; clear kk; intro a kk
      refine opk 3 13 kk (frY (wanted_at (b := false) (want := false) rfl (by kernel_rfl) (kk.g 12 rfl)) (k_move rfl (kk.e 4 rfl))) ?_; clear kk; intro a kk
      refine opk 4 14 (v := .int .i64 ((⟨(Rfc.tp s).toArray⟩ : ByteArray).size : Nat)) kk (frY (wanted_at (b := false) (want := false) rfl (by kernel_rfl) (kk.g 12 rfl)) (k_lenT rfl (kk.e 13 rfl))) ?_; clear kk; intro a kk
      refine opk 5 15 (v := .bool true) kk (frY (wanted_at (b := false) (want := false) rfl (by kernel_rfl) (kk.g 12 rfl)) (o_gtI rfl (kk.e 14 rfl) rfl (decide_eq_true (by rw [ba_len]; omega)))) ?_; clear kk; intro a kk
      refine opk 6 16 (v := .bool true) kk (frY rfl (k_pick_no rfl (kk.e 12 rfl) (kk.e 15 rfl))) ?_; clear kk; intro a kk
      refine opk 7 17 kk (frY rfl (k_move rfl (kk.e 16 rfl))) ?_; clear kk; intro a kk
      refine opkn 8 18 kk (frX (wanted_at (b := true) (want := false) rfl (by kernel_rfl) (kk.g 17 rfl))) ?_; clear kk; intro a kk
      refine opkn 9 19 kk (frX (wanted_at (b := true) (want := false) rfl (by kernel_rfl) (kk.g 17 rfl))) ?_; clear kk; intro a kk
      refine opkn 10 20 kk (frX (wanted_at (b := true) (want := false) rfl (by kernel_rfl) (kk.g 17 rfl))) ?_; clear kk; intro a kk
      refine opkn 11 21 kk (frX (wanted_at (b := true) (want := false) rfl (by kernel_rfl) (kk.g 17 rfl))) ?_; clear kk; intro a kk
      refine opkn 12 22 kk (frX (wanted_not (want := true) rfl (by kernel_rfl) (kk.g 21 rfl))) ?_; clear kk; intro a kk
      refine opkn 13 23 kk (frX (wanted_not (want := true) rfl (by kernel_rfl) (kk.g 21 rfl))) ?_; clear kk; intro a kk
      refine opkn 14 24 kk (frX (wanted_not (want := true) rfl (by kernel_rfl) (kk.g 21 rfl))) ?_; clear kk; intro a kk
      refine opkn 15 25 kk (frX (wanted_not (want := true) rfl (by kernel_rfl) (kk.g 21 rfl))) ?_; clear kk; intro a kk
      refine opkn 16 26 kk (frX (wanted_not (want := false) rfl (by kernel_rfl) (kk.g 25 rfl))) ?_; clear kk; intro a kk
      refine opkn 17 27 kk (frX (wanted_not (want := false) rfl (by kernel_rfl) (kk.g 25 rfl))) ?_; clear kk; intro a kk
      refine opkn 18 28 kk (frX (wanted_not (want := false) rfl (by kernel_rfl) (kk.g 25 rfl))) ?_; clear kk; intro a kk
      refine opkn 19 29 kk (frX (wanted_not (want := true) rfl (by kernel_rfl) (kk.g 21 rfl))) ?_; clear kk; intro a kk
      refine opkn 20 30 kk (frX (wanted_at (b := true) (want := false) rfl (by kernel_rfl) (kk.g 17 rfl))) ?_; clear kk; intro a kk
      replace kk := kk.keep [17, 4, 3, 2, 0] rfl
      refine opk 21 31 (v := .bool true) kk (frY rfl (k_pick_yes rfl (kk.e 17 rfl) rfl)) ?_; clear kk; intro a kk
      refine wp_cond_true (kk.e 31 rfl) ?_
      refine wp_seq ?_
      refine wpr 2 ?_
      replace kk := kk.keep [4, 3, 0] rfl
      refine opk 0 2 (v := .int .i64 0) kk (frY rfl (k_assign rfl rfl)) ?_; clear kk; intro a kk
      replace kk := kk.keep [2, 4, 0] rfl
      refine opk 1 3 (v := .bool false) kk (frY rfl (k_assign rfl rfl)) ?_; clear kk; intro a kk
      refine wp_ret ?_
      exact hfin a _ _ _ kk.d (kk.g 2 rfl) (kk.g 3 rfl) (fun e => by cases e) (fun _ => Rfc.pnum_none (fun h => by have := h.2.1; omega)) (Below.refl _ _)
    · have e_emp : ((⟨(Rfc.tp s).toArray⟩ : ByteArray).toList == (⟨#[]⟩ : ByteArray).toList) = false := by
        rw [list_of_ba, show (⟨#[]⟩ : ByteArray).toList = [] from list_of_ba []]
        simpa using g0
      obtain ⟨c0, r0, ec0⟩ : ∃ c r, Rfc.tp s = c :: r := by
        cases hcs : Rfc.tp s with
        | nil => exact (g0 hcs).elim
        | cons c r => exact ⟨c, r, rfl⟩
      have e_z : (((c0.toNat : Nat) : Int) == 48) = false := by
        rw [ec0] at g2
        have : c0.toNat ≠ 48 := fun e => g2 (by rw [UInt8.toNat_inj.1 (show c0.toNat = (48 : UInt8).toNat from e)]; rfl)
        rw [beq_eq_false_iff_ne]
        omega
      refine wpr 22 ?_
      refine opk 0 10 kk (frY rfl (k_move rfl (kk.e 4 rfl))) ?_; clear kk; intro a kk
      refine opk 1 11 (v := .bool false) kk (frY rfl (o_eqStr rfl (kk.e 10 rfl) rfl e_emp)) ?_; clear kk; intro a kk
      refine opk 2 12 kk (frY rfl (k_move rfl (kk.e 11 rfl))) ?_; clear kk; intro a kk
      refine opk 3 13 kk (frY (wanted_at (b := false) (want := false) rfl (by kernel_rfl) (kk.g 12 rfl)) (k_move rfl (kk.e 4 rfl))) ?_; clear kk; intro a kk
      refine opk 4 14 (v := .int .i64 ((⟨(Rfc.tp s).toArray⟩ : ByteArray).size : Nat)) kk (frY (wanted_at (b := false) (want := false) rfl (by kernel_rfl) (kk.g 12 rfl)) (k_lenT rfl (kk.e 13 rfl))) ?_; clear kk; intro a kk
      refine opk 5 15 (v := .bool false) kk (frY (wanted_at (b := false) (want := false) rfl (by kernel_rfl) (kk.g 12 rfl)) (o_gtI rfl (kk.e 14 rfl) rfl (decide_eq_false (by rw [ba_len]; omega)))) ?_; clear kk; intro a kk
      refine opk 6 16 (v := .bool false) kk (frY rfl (k_pick_no rfl (kk.e 12 rfl) (kk.e 15 rfl))) ?_; clear kk; intro a kk
      refine opk 7 17 kk (frY rfl (k_move rfl (kk.e 16 rfl))) ?_; clear kk; intro a kk
      refine opk 8 18 kk (frY (wanted_at (b := false) (want := false) rfl (by kernel_rfl) (kk.g 17 rfl)) (k_move rfl (kk.e 4 rfl))) ?_; clear kk; intro a kk
      refine opk 9 19 (v := .int .u8 (c0.toNat : Nat)) kk (frY (wanted_at (b := false) (want := false) rfl (by kernel_rfl) (kk.g 17 rfl)) (k_idx0 rfl (ev_tmp ((kk.g 18 rfl).trans (by rw [ec0]))) rfl)) ?_; clear kk; intro a kk
      refine opk 10 20 (v := .bool false) kk (frY (wanted_at (b := false) (want := false) rfl (by kernel_rfl) (kk.g 17 rfl)) (o_eqB rfl (kk.e 19 rfl) rfl e_z)) ?_; clear kk; intro a kk
      refine opk 11 21 kk (frY (wanted_at (b := false) (want := false) rfl (by kernel_rfl) (kk.g 17 rfl)) (k_move rfl (kk.e 20 rfl))) ?_; clear kk; intro a kk
      refine opkn 12 22 kk (frX (wanted_at (b := false) (want := true) rfl (by kernel_rfl) (kk.g 21 rfl))) ?_; clear kk; intro a kk
      refine opkn 13 23 kk (frX (wanted_at (b := false) (want := true) rfl (by kernel_rfl) (kk.g 21 rfl))) ?_; clear kk; intro a kk
      refine opkn 14 24 kk (frX (wanted_at (b := false) (want := true) rfl (by kernel_rfl) (kk.g 21 rfl))) ?_; clear kk; intro a kk
      refine opkn 15 25 kk (frX (wanted_at (b := false) (want := true) rfl (by kernel_rfl) (kk.g 21 rfl))) ?_; clear kk; intro a kk
      refine opkn 16 26 kk (frX (wanted_not (want := false) rfl (by kernel_rfl) (kk.g 25 rfl))) ?_; clear kk; intro a kk
      refine opkn 17 27 kk (frX (wanted_not (want := false) rfl (by kernel_rfl) (kk.g 25 rfl))) ?_; clear kk; intro a kk
      refine opkn 18 28 kk (frX (wanted_not (want := false) rfl (by kernel_rfl) (kk.g 25 rfl))) ?_; clear kk; intro a kk
      refine opkn 19 29 kk (frX (wanted_at (b := false) (want := true) rfl (by kernel_rfl) (kk.g 21 rfl))) ?_; clear kk; intro a kk
      replace kk := kk.keep [21, 17, 4, 3, 2, 0] rfl
      refine opk 20 30 (v := .bool false) kk (frY (wanted_at (b := false) (want := false) rfl (by kernel_rfl) (kk.g 17 rfl)) (k_pick_no rfl (kk.e 21 rfl) rfl)) ?_; clear kk; intro a kk
      refine opk 21 31 (v := .bool false) kk (frY rfl (k_pick_no rfl (kk.e 17 rfl) (kk.e 30 rfl))) ?_; clear kk; intro a kk
      refine wp_cond_false (kk.e 31 rfl) ?_
      refine wp_skip ?_
      exact ⟨rfl, ⟨kk.d, kk.z, (kk.g 0 rfl), (kk.g 4 rfl)⟩, g0, by omega, fun e => (g2 e).elim⟩
    · have e_emp : ((⟨(Rfc.tp s).toArray⟩ : ByteArray).toList == (⟨#[]⟩ : ByteArray).toList) = false := by
        rw [list_of_ba, show (⟨#[]⟩ : ByteArray).toList = [] from list_of_ba []]
        simpa using g0
      obtain ⟨c0, r0, ec0⟩ : ∃ c r, Rfc.tp s = c :: r := by
        cases hcs : Rfc.tp s with
        | nil => exact (g0 hcs).elim
        | cons c r => exact ⟨c, r, rfl⟩
      have e_z : (((c0.toNat : Nat) : Int) == 48) = true := by
        rw [ec0] at g2
        obtain rfl := Option.some.inj (show some c0 = some 48 from g2)
        rfl
      refine wpr 22 ?_
      refine opk 0 10 kk (frY rfl (k_move rfl (kk.e 4 rfl))) ?_; clear kk; intro a kk
      refine opk 1 11 (v := .bool false) kk (frY rfl (o_eqStr rfl (kk.e 10 rfl) rfl e_emp)) ?_; clear kk; intro a kk
      refine opk 2 12 kk (frY rfl (k_move rfl (kk.e 11 rfl))) ?_; clear kk; intro a kk
      refine opk 3 13 kk (frY (wanted_at (b := false) (want := false) rfl (by kernel_rfl) (kk.g 12 rfl)) (k_move rfl (kk.e 4 rfl))) ?_; clear kk; intro a kk
      refine opk 4 14 (v := .int .i64 ((⟨(Rfc.tp s).toArray⟩ : ByteArray).size : Nat)) kk (frY (wanted_at (b := false) (want := false) rfl (by kernel_rfl) (kk.g 12 rfl)) (k_lenT rfl (kk.e 13 rfl))) ?_; clear kk; intro a kk
      refine opk 5 15 (v := .bool false) kk (frY (wanted_at (b := false) (want := false) rfl (by kernel_rfl) (kk.g 12 rfl)) (o_gtI rfl (kk.e 14 rfl) rfl (decide_eq_false (by rw [ba_len]; omega)))) ?_; clear kk; intro a kk
      refine opk 6 16 (v := .bool false) kk (frY rfl (k_pick_no rfl (kk.e 12 rfl) (kk.e 15 rfl))) ?_; clear kk; intro a kk
      refine opk 7 17 kk (frY rfl (k_move rfl (kk.e 16 rfl))) ?_; clear kk; intro a kk
      refine opk 8 18 kk (frY (wanted_at (b := false) (want := false) rfl (by kernel_rfl) (kk.g 17 rfl)) (k_move rfl (kk.e 4 rfl))) ?_; clear kk; intro a kk
      refine opk 9 19 (v := .int .u8 (c0.toNat : Nat)) kk (frY (wanted_at (b := false) (want := false) rfl (by kernel_rfl) (kk.g 17 rfl)) (k_idx0 rfl (ev_tmp ((kk.g 18 rfl).trans (by rw [ec0]))) rfl)) ?_; clear kk; intro a kk
      refine opk 10 20 (v := .bool true) kk (frY (wanted_at (b := false) (want := false) rfl (by kernel_rfl) (kk.g 17 rfl)) (o_eqB rfl (kk.e 19 rfl) rfl e_z)) ?_; clear kk; intro a kk
      refine opk 11 21 kk (frY (wanted_at (b := false) (want := false) rfl (by kernel_rfl) (kk.g 17 rfl)) (k_move rfl (kk.e 20 rfl))) ?_; clear kk; intro a kk
      refine opk 12 22 kk (frY (wanted_at (b := true) (want := true) rfl (by kernel_rfl) (kk.g 21 rfl)) (k_move rfl (kk.e 4 rfl))) ?_; clear kk; intro a kk
      refine opk 13 23 (v := .int .i64 ((⟨(Rfc.tp s).toArray⟩ : ByteArray).size : Nat)) kk (frY (wanted_at (b := true) (want := true) rfl (by kernel_rfl) (kk.g 21 rfl)) (k_lenT rfl (kk.e 22 rfl))) ?_; clear kk; intro a kk
      refine opk 14 24 (v := .bool true) kk (frY (wanted_at (b := true) (want := true) rfl (by kernel_rfl) (kk.g 21 rfl)) (o_gtI rfl (kk.e 23 rfl) rfl (decide_eq_true (by rw [ba_len]; omega)))) ?_; clear kk; intro a kk
      refine opk 15 25 kk (frY (wanted_at (b := true) (want := true) rfl (by kernel_rfl) (kk.g 21 rfl)) (k_move rfl (kk.e 24 rfl))) ?_; clear kk; intro a kk
      refine opkn 16 26 kk (frX (wanted_at (b := true) (want := false) rfl (by kernel_rfl) (kk.g 25 rfl))) ?_; clear kk; intro a kk
      refine opkn 17 27 kk (frX (wanted_at (b := true) (want := false) rfl (by kernel_rfl) (kk.g 25 rfl))) ?_; clear kk; intro a kk
      refine opkn 18 28 kk (frX (wanted_at (b := true) (want := false) rfl (by kernel_rfl) (kk.g 25 rfl))) ?_; clear kk; intro a kk
      replace kk := kk.keep [25, 21, 17, 4, 3, 2, 0] rfl
      refine opk 19 29 (v := .bool true) kk (frY (wanted_at (b := true) (want := true) rfl (by kernel_rfl) (kk.g 21 rfl)) (k_pick_yes rfl (kk.e 25 rfl) rfl)) ?_; clear kk; intro a kk
      refine opk 20 30 (v := .bool true) kk (frY (wanted_at (b := false) (want := false) rfl (by kernel_rfl) (kk.g 17 rfl)) (k_pick_yes rfl (kk.e 21 rfl) (kk.e 29 rfl))) ?_; clear kk; intro a kk
      refine opk 21 31 (v := .bool true) kk (frY rfl (k_pick_no rfl (kk.e 17 rfl) (kk.e 30 rfl))) ?_; clear kk; intro a kk
      refine wp_cond_true (kk.e 31 rfl) ?_
      refine wp_seq ?_
      refine wpr 2 ?_
      replace kk := kk.keep [4, 3, 0] rfl
      refine opk 0 2 (v := .int .i64 0) kk (frY rfl (k_assign rfl rfl)) ?_; clear kk; intro a kk
      replace kk := kk.keep [2, 4, 0] rfl
      refine opk 1 3 (v := .bool false) kk (frY rfl (k_assign rfl rfl)) ?_; clear kk; intro a kk
      refine wp_ret ?_
      exact hfin a _ _ _ kk.d (kk.g 2 rfl) (kk.g 3 rfl) (fun e => by cases e) (fun _ => Rfc.pnum_none (fun h => by have := (h.2.2.1 g2).1; omega)) (Below.refl _ _)
    · have e_emp : ((⟨(Rfc.tp s).toArray⟩ : ByteArray).toList == (⟨#[]⟩ : ByteArray).toList) = false := by
        rw [list_of_ba, show (⟨#[]⟩ : ByteArray).toList = [] from list_of_ba []]
        simpa using g0
      obtain ⟨c0, r0, ec0⟩ : ∃ c r, Rfc.tp s = c :: r := by
        cases hcs : Rfc.tp s with
        | nil => exact (g0 hcs).elim
        | cons c r => exact ⟨c, r, rfl⟩
      have e_z : (((c0.toNat : Nat) : Int) == 48) = true := by
        rw [ec0] at g2
        obtain rfl := Option.some.inj (show some c0 = some 48 from g2)
        rfl
      have e_ne : ((⟨(Rfc.tp s).toArray⟩ : ByteArray).toList != (⟨s.toArray⟩ : ByteArray).toList) = true := by
        rw [list_of_ba, list_of_ba]
        simpa using g4
      refine wpr 22 ?_
      refine opk 0 10 kk (frY rfl (k_move rfl (kk.e 4 rfl))) ?_; clear kk; intro a kk
      refine opk 1 11 (v := .bool false) kk (frY rfl (o_eqStr rfl (kk.e 10 rfl) rfl e_emp)) ?_; clear kk; intro a kk
      refine opk 2 12 kk (frY rfl (k_move rfl (kk.e 11 rfl))) ?_; clear kk; intro a kk
      refine opk 3 13 kk (frY (wanted_at (b := false) (want := false) rfl (by kernel_rfl) (kk.g 12 rfl)) (k_move rfl (kk.e 4 rfl))) ?_; clear kk; intro a kk
      refine opk 4 14 (v := .int .i64 ((⟨(Rfc.tp s).toArray⟩ : ByteArray).size : Nat)) kk (frY (wanted_at (b := false) (want := false) rfl (by kernel_rfl) (kk.g 12 rfl)) (k_lenT rfl (kk.e 13 rfl))) ?_; clear kk; intro a kk
      refine opk 5 15 (v := .bool false) kk (frY (wanted_at (b := false) (want := false) rfl (by kernel_rfl) (kk.g 12 rfl)) (o_gtI rfl (kk.e 14 rfl) rfl (decide_eq_false (by rw [ba_len]; omega)))) ?_; clear kk; intro a kk
      refine opk 6 16 (v := .bool false) kk (frY rfl (k_pick_no rfl (kk.e 12 rfl) (kk.e 15 rfl))) ?_; clear kk; intro a kk
      refine opk 7 17 kk (frY rfl (k_move rfl (kk.e 16 rfl))) ?_; clear kk; intro a kk
      refine opk 8 18 kk (frY (wanted_at (b := false) (want := false) rfl (by kernel_rfl) (kk.g 17 rfl)) (k_move rfl (kk.e 4 rfl))) ?_; clear kk; intro a kk
      refine opk 9 19 (v := .int .u8 (c0.toNat : Nat)) kk (frY (wanted_at (b := false) (want := false) rfl (by kernel_rfl) (kk.g 17 rfl)) (k_idx0 rfl (ev_tmp ((kk.g 18 rfl).trans (by rw [ec0]))) rfl)) ?_; clear kk; intro a kk
      refine opk 10 20 (v := .bool true) kk (frY (wanted_at (b := false) (want := false) rfl (by kernel_rfl) (kk.g 17 rfl)) (o_eqB rfl (kk.e 19 rfl) rfl e_z)) ?_; clear kk; intro a kk
      refine opk 11 21 kk (frY (wanted_at (b := false) (want := false) rfl (by kernel_rfl) (kk.g 17 rfl)) (k_move rfl (kk.e 20 rfl))) ?_; clear kk; intro a kk
      refine opk 12 22 kk (frY (wanted_at (b := true) (want := true) rfl (by kernel_rfl) (kk.g 21 rfl)) (k_move rfl (kk.e 4 rfl))) ?_; clear kk; intro a kk
      refine opk 13 23 (v := .int .i64 ((⟨(Rfc.tp s).toArray⟩ : ByteArray).size : Nat)) kk (frY (wanted_at (b := true) (want := true) rfl (by kernel_rfl) (kk.g 21 rfl)) (k_lenT rfl (kk.e 22 rfl))) ?_; clear kk; intro a kk
      refine opk 14 24 (v := .bool false) kk (frY (wanted_at (b := true) (want := true) rfl (by kernel_rfl) (kk.g 21 rfl)) (o_gtI rfl (kk.e 23 rfl) rfl (decide_eq_false (by rw [ba_len]; omega)))) ?_; clear kk; intro a kk
      refine opk 15 25 kk (frY (wanted_at (b := true) (want := true) rfl (by kernel_rfl) (kk.g 21 rfl)) (k_move rfl (kk.e 24 rfl))) ?_; clear kk; intro a kk
      refine opk 16 26 kk (frY (wanted_at (b := false) (want := false) rfl (by kernel_rfl) (kk.g 25 rfl)) (k_move rfl (kk.e 4 rfl))) ?_; clear kk; intro a kk
      refine opk 17 27 kk (frY (wanted_at (b := false) (want := false) rfl (by kernel_rfl) (kk.g 25 rfl)) (k_move rfl (kk.e 0 rfl))) ?_; clear kk; intro a kk
      refine opk 18 28 (v := .bool true) kk (frY (wanted_at (b := false) (want := false) rfl (by kernel_rfl) (kk.g 25 rfl)) (o_neStr rfl (kk.e 26 rfl) (kk.e 27 rfl) e_ne)) ?_; clear kk; intro a kk
      replace kk := kk.keep [28, 25, 21, 17, 4, 3, 2, 0] rfl
      refine opk 19 29 (v := .bool true) kk (frY (wanted_at (b := true) (want := true) rfl (by kernel_rfl) (kk.g 21 rfl)) (k_pick_no rfl (kk.e 25 rfl) (kk.e 28 rfl))) ?_; clear kk; intro a kk
      refine opk 20 30 (v := .bool true) kk (frY (wanted_at (b := false) (want := false) rfl (by kernel_rfl) (kk.g 17 rfl)) (k_pick_yes rfl (kk.e 21 rfl) (kk.e 29 rfl))) ?_; clear kk; intro a kk
      refine opk 21 31 (v := .bool true) kk (frY rfl (k_pick_no rfl (kk.e 17 rfl) (kk.e 30 rfl))) ?_; clear kk; intro a kk
      refine wp_cond_true (kk.e 31 rfl) ?_
      refine wp_seq ?_
      refine wpr 2 ?_
      replace kk := kk.keep [4, 3, 0] rfl
      refine opk 0 2 (v := .int .i64 0) kk (frY rfl (k_assign rfl rfl)) ?_; clear kk; intro a kk
      replace kk := kk.keep [2, 4, 0] rfl
      refine opk 1 3 (v := .bool false) kk (frY rfl (k_assign rfl rfl)) ?_; clear kk; intro a kk
      refine wp_ret ?_
      exact hfin a _ _ _ kk.d (kk.g 2 rfl) (kk.g 3 rfl) (fun e => by cases e) (fun _ => Rfc.pnum_none (fun h => g4 (h.2.2.1 g2).2)) (Below.refl _ _)
    · have e_emp : ((⟨(Rfc.tp s).toArray⟩ : ByteArray).toList == (⟨#[]⟩ : ByteArray).toList) = false := by
        rw [list_of_ba, show (⟨#[]⟩ : ByteArray).toList = [] from list_of_ba []]
        simpa using g0
      obtain ⟨c0, r0, ec0⟩ : ∃ c r, Rfc.tp s = c :: r := by
        cases hcs : Rfc.tp s with
        | nil => exact (g0 hcs).elim
        | cons c r => exact ⟨c, r, rfl⟩
      have e_z : (((c0.toNat : Nat) : Int) == 48) = true := by
        rw [ec0] at g2
        obtain rfl := Option.some.inj (show some c0 = some 48 from g2)
        rfl
      have e_ne : ((⟨(Rfc.tp s).toArray⟩ : ByteArray).toList != (⟨s.toArray⟩ : ByteArray).toList) = false := by
        rw [list_of_ba, list_of_ba]
        simpa using g4
      refine wpr 22 ?_
      refine opk 0 10 kk (frY rfl (k_move rfl (kk.e 4 rfl))) ?_; clear kk; intro a kk
      refine opk 1 11 (v := .bool false) kk (frY rfl (o_eqStr rfl (kk.e 10 rfl) rfl e_emp)) ?_; clear kk; intro a kk
      refine opk 2 12 kk (frY rfl (k_move rfl (kk.e 11 rfl))) ?_; clear kk; intro a kk
      refine opk 3 13 kk (frY (wanted_at (b := false) (want := false) rfl (by kernel_rfl) (kk.g 12 rfl)) (k_move rfl (kk.e 4 rfl))) ?_; clear kk; intro a kk
      refine opk 4 14 (v := .int .i64 ((⟨(Rfc.tp s).toArray⟩ : ByteArray).size : Nat)) kk (frY (wanted_at (b := false) (want := false) rfl (by kernel_rfl) (kk.g 12 rfl)) (k_lenT rfl (kk.e 13 rfl))) ?_; clear kk; intro a kk
      refine opk 5 15 (v := .bool false) kk (frY (wanted_at (b := false) (want := false) rfl (by kernel_rfl) (kk.g 12 rfl)) (o_gtI rfl (kk.e 14 rfl) rfl (decide_eq_false (by rw [ba_len]; omega)))) ?_; clear kk; intro a kk
      refine opk 6 16 (v := .bool false) kk (frY rfl (k_pick_no rfl (kk.e 12 rfl) (kk.e 15 rfl))) ?_; clear kk; intro a kk
      refine opk 7 17 kk (frY rfl (k_move rfl (kk.e 16 rfl))) ?_; clear kk; intro a kk
      refine opk 8 18 kk (frY (wanted_at (b := false) (want := false) rfl (by kernel_rfl) (kk.g 17 rfl)) (k_move rfl (kk.e 4 rfl))) ?_; clear kk; intro a kk
      refine opk 9 19 (v := .int .u8 (c0.toNat : Nat)) kk (frY (wanted_at (b := false) (want := false) rfl (by kernel_rfl) (kk.g 17 rfl)) (k_idx0 rfl (ev_tmp ((kk.g 18 rfl).trans (by rw [ec0]))) rfl)) ?_; clear kk; intro a kk
      refine opk 10 20 (v := .bool true) kk (frY (wanted_at (b := false) (want := false) rfl (by kernel_rfl) (kk.g 17 rfl)) (o_eqB rfl (kk.e 19 rfl) rfl e_z)) ?_; clear kk; intro a kk
      refine opk 11 21 kk (frY (wanted_at (b := false) (want := false) rfl (by kernel_rfl) (kk.g 17 rfl)) (k_move rfl (kk.e 20 rfl))) ?_; clear kk; intro a kk
      refine opk 12 22 kk (frY (wanted_at (b := true) (want := true) rfl (by kernel_rfl) (kk.g 21 rfl)) (k_move rfl (kk.e 4 rfl))) ?_; clear kk; intro a kk
      refine opk 13 23 (v := .int .i64 ((⟨(Rfc.tp s).toArray⟩ : ByteArray).size : Nat)) kk (frY (wanted_at (b := true) (want := true) rfl (by kernel_rfl) (kk.g 21 rfl)) (k_lenT rfl (kk.e 22 rfl))) ?_; clear kk; intro a kk
      refine opk 14 24 (v := .bool false) kk (frY (wanted_at (b := true) (want := true) rfl (by kernel_rfl) (kk.g 21 rfl)) (o_gtI rfl (kk.e 23 rfl) rfl (decide_eq_false (by rw [ba_len]; omega)))) ?_; clear kk; intro a kk
      refine opk 15 25 kk (frY (wanted_at (b := true) (want := true) rfl (by kernel_rfl) (kk.g 21 rfl)) (k_move rfl (kk.e 24 rfl))) ?_; clear kk; intro a kk
      refine opk 16 26 kk (frY (wanted_at (b := false) (want := false) rfl (by kernel_rfl) (kk.g 25 rfl)) (k_move rfl (kk.e 4 rfl))) ?_; clear kk; intro a kk
      refine opk 17 27 kk (frY (wanted_at (b := false) (want := false) rfl (by kernel_rfl) (kk.g 25 rfl)) (k_move rfl (kk.e 0 rfl))) ?_; clear kk; intro a kk
      refine opk 18 28 (v := .bool false) kk (frY (wanted_at (b := false) (want := false) rfl (by kernel_rfl) (kk.g 25 rfl)) (o_neStr rfl (kk.e 26 rfl) (kk.e 27 rfl) e_ne)) ?_; clear kk; intro a kk
      replace kk := kk.keep [28, 25, 21, 17, 4, 3, 2, 0] rfl
      refine opk 19 29 (v := .bool false) kk (frY (wanted_at (b := true) (want := true) rfl (by kernel_rfl) (kk.g 21 rfl)) (k_pick_no rfl (kk.e 25 rfl) (kk.e 28 rfl))) ?_; clear kk; intro a kk
      refine opk 20 30 (v := .bool false) kk (frY (wanted_at (b := false) (want := false) rfl (by kernel_rfl) (kk.g 17 rfl)) (k_pick_yes rfl (kk.e 21 rfl) (kk.e 29 rfl))) ?_; clear kk; intro a kk
      refine opk 21 31 (v := .bool false) kk (frY rfl (k_pick_no rfl (kk.e 17 rfl) (kk.e 30 rfl))) ?_; clear kk; intro a kk
      refine wp_cond_false (kk.e 31 rfl) ?_
      refine wp_skip ?_
      exact ⟨rfl, ⟨kk.d, kk.z, (kk.g 0 rfl), (kk.g 4 rfl)⟩, g0, by omega, fun _ => ⟨by have := List.length_pos_iff.2 g0; omega, g4⟩⟩
  case z98 =>
  clear kk hC a
  rintro a w' ⟨rfl, ⟨hd, hs, h0, h4⟩, g0, g1, g2⟩
  have kk := ((kn hs hd).p h0).p h4; clear hs hd h0 h4
  refine wp_seq ?_
  refine wpr 1 ?_
  refine opk 0 5 (v := .int .u64 0) kk (frY rfl (k_assign rfl rfl)) ?_; clear kk; intro a kk
  refine wp_seq ?_
  refine wp_seq ?_
  refine wpr 4 ?_
  refine opk 0 32 kk (frY rfl (k_move rfl (kk.e 4 rfl))) ?_; clear kk; intro a kk
  refine opk 1 33 (v := .slice (some ⟨w.heap.size, 0, none⟩) (Rfc.tp s).length (grownCap w (Rfc.tp s).length 0 5)) (w' := (Lib.bytesWorld w 5 ⟨(Rfc.tp s).toArray⟩)) kk (frY rfl (k_convB rfl (kk.e 32 rfl))) ?_; clear kk; intro a kk
  obtain ⟨wb, hwb⟩ : ∃ wn, wn = Lib.bytesWorld w 5 ⟨(Rfc.tp s).toArray⟩ := ⟨_, rfl⟩
  rw [← hwb]
  have hbl : Below w.heap.size w wb := by rw [hwb]; exact bytes_below' w _ _
  have hcell : ∀ j (h : j < (Rfc.tp s).length), wb.cell? ((⟨w.heap.size, 0, none⟩ : Addr).add j) = some (.int .u8 ((Rfc.tp s)[j].toNat : Nat)) := fun j hj => by
    rw [addr_lit, Nat.zero_add, hwb, Lib.bytesWorld_cell _ _ _ _ (by rw [ba_len]; exact hj)]
    simp [List.getD_eq_getElem?_getD, hj]
  clear hwb
  refine opk 2 34 (v := .int .i64 (Rfc.tp s).length) kk (frY rfl (k_lenB rfl (kk.e 33 rfl))) ?_; clear kk; intro a kk
  refine opk 3 35 (v := .int .i64 0) kk (frY rfl (k_move rfl rfl)) ?_; clear kk; intro a kk
  refine wp_block ?_
  refine wp_loop (fun a wx => wb = wx ∧ ∃ i, LpB s w.heap.size (grownCap w (Rfc.tp s).length 0 5) i a) (fun a _ => ((Rfc.tp s).length - intOf (a.tmps.getD 35 undef)).toNat) ⟨rfl, 0, ⟨kk.d, kk.z, (kk.g 0 rfl), (kk.g 4 rfl), by rw [(kk.g 5 rfl)]; rfl, (kk.g 33 rfl), (kk.g 34 rfl), (kk.g 35 rfl), Nat.zero_le _, fun c hc => by cases hc⟩⟩ ?_
  clear kk a
  rintro a wx ⟨rfl, i, J⟩
  by_cases hlt : i < (Rfc.tp s).length
  · by_cases hc1 : (Rfc.tp s)[i].toNat < 48
    · exact lnb_lt s w _ _ _ i a _ hfin hbl hcell J hlt hc1
    · by_cases hc2 : 57 < (Rfc.tp s)[i].toNat
      · exact lnb_gt s w _ _ _ i a _ hfin hbl hcell J hlt hc2
      · exact lnb_ok s _ _ _ i a _ g1 hcell J hlt ⟨by omega, by omega⟩
  obtain ⟨hd, hs, h0, h4, h5, h33, h34, h35, hi, dg⟩ := J
  have kk := ((((((kn hs hd).p h0).p h4).p h5).p h33).p h34).p h35; clear hs hd h0 h4 h5 h33 h34 h35
  obtain rfl : i = (Rfc.tp s).length := by omega
  rw [List.take_length] at kk dg
  refine wp_seq ?_
  refine wpr 1 ?_
  refine opk 0 36 (v := .bool false) kk (frY rfl (o_ltI rfl (kk.e 35 rfl) (kk.e 34 rfl) (decide_eq_false (by omega)))) ?_; clear kk; intro a kk
  refine wp_seq ?_
  refine wp_cond_false (kk.e 36 rfl) ?_
  refine wp_exit ?_
  change Code.wp _ _ _ _ _
  by_cases he : Rfc.tp s = s
  · have e_ne : ((⟨(Rfc.tp s).toArray⟩ : ByteArray).toList != (⟨s.toArray⟩ : ByteArray).toList) = false := by
      rw [list_of_ba, list_of_ba]
      simpa using he
    obtain ⟨p1, p2⟩ := Rfc.num_plain he g0 dg (fun e => (g2 e).1)
    refine wp_seq ?_
    refine wp_seq ?_
    refine wpr 3 ?_
    refine opk 0 52 kk (frY rfl (k_move rfl (kk.e 4 rfl))) ?_; clear kk; intro a kk
    refine opk 1 53 kk (frY rfl (k_move rfl (kk.e 0 rfl))) ?_; clear kk; intro a kk
    refine opk 2 54 (v := .bool false) kk (frY rfl (o_neStr rfl (kk.e 52 rfl) (kk.e 53 rfl) e_ne)) ?_; clear kk; intro a kk
    refine wp_cond_false (kk.e 54 rfl) ?_
    refine wp_skip ?_
    refine wp_seq ?_
    refine wpr 6 ?_
    refine opk 0 60 kk (frY rfl (k_move rfl (kk.e 5 rfl))) ?_; clear kk; intro a kk
    refine opk 1 61 (v := .int .i64 (IntKind.i64.wrap (Rfc.dv (Rfc.tp s) : Nat))) kk (frY rfl (o_convXI rfl (kk.e 60 rfl) rfl)) ?_; clear kk; intro a kk
    refine opk 2 62 kk (frY rfl (k_move rfl (kk.e 5 rfl))) ?_; clear kk; intro a kk
    refine opk 3 63 (v := .bool (decide ((Rfc.dv (Rfc.tp s) : Nat) < (9223372036854775808 : Int)))) kk (frY rfl (o_ltX rfl (kk.e 62 rfl) rfl rfl)) ?_; clear kk; intro a kk
    refine opk 4 2 kk (frY rfl (k_assign rfl (kk.e 61 rfl))) ?_; clear kk; intro a kk
    refine opk 5 3 kk (frY rfl (k_assign rfl (kk.e 63 rfl))) ?_; clear kk; intro a kk
    refine wp_ret ?_
    exact hfin a _ _ _ kk.d (kk.g 2 rfl) (kk.g 3 rfl) (fun e => by have h := of_decide_eq_true e; rw [wrap_small (by omega) (by omega)]; exact p1 (by omega)) (fun e => by have h := of_decide_eq_false e; exact p2 (by omega)) hbl
  · have e_ne : ((⟨(Rfc.tp s).toArray⟩ : ByteArray).toList != (⟨s.toArray⟩ : ByteArray).toList) = true := by
      rw [list_of_ba, list_of_ba]
      simpa using he
    obtain ⟨p1, p2⟩ := Rfc.num_minus he g0 dg (fun e => he (g2 e).2)
    have hpos := Rfc.dv_pos _ _ rfl dg g0 (fun e => he (g2 e).2)
    refine wp_seq ?_
    refine wp_seq ?_
    refine wpr 3 ?_
    refine opk 0 52 kk (frY rfl (k_move rfl (kk.e 4 rfl))) ?_; clear kk; intro a kk
    refine opk 1 53 kk (frY rfl (k_move rfl (kk.e 0 rfl))) ?_; clear kk; intro a kk
    refine opk 2 54 (v := .bool true) kk (frY rfl (o_neStr rfl (kk.e 52 rfl) (kk.e 53 rfl) e_ne)) ?_; clear kk; intro a kk
    refine wp_cond_true (kk.e 54 rfl) ?_
    refine wp_seq ?_
    refine wpr 7 ?_
    refine opk 0 55 kk (frY rfl (k_move rfl (kk.e 5 rfl))) ?_; clear kk; intro a kk
    refine opk 1 56 (v := .int .u64 (IntKind.u64.wrap (-(Rfc.dv (Rfc.tp s) : Nat)))) kk (frY rfl (o_negX rfl (kk.e 55 rfl) rfl)) ?_; clear kk; intro a kk
    refine opk 2 57 (v := .int .i64 (IntKind.i64.wrap (IntKind.u64.wrap (-(Rfc.dv (Rfc.tp s) : Nat))))) kk (frY rfl (o_convXI rfl (kk.e 56 rfl) rfl)) ?_; clear kk; intro a kk
    refine opk 3 58 kk (frY rfl (k_move rfl (kk.e 5 rfl))) ?_; clear kk; intro a kk
    refine opk 4 59 (v := .bool (decide ((Rfc.dv (Rfc.tp s) : Nat) ≤ (9223372036854775808 : Int)))) kk (frY rfl (o_leX rfl (kk.e 58 rfl) rfl rfl)) ?_; clear kk; intro a kk
    refine opk 5 2 kk (frY rfl (k_assign rfl (kk.e 57 rfl))) ?_; clear kk; intro a kk
    refine opk 6 3 kk (frY rfl (k_assign rfl (kk.e 59 rfl))) ?_; clear kk; intro a kk
    refine wp_ret ?_
    exact hfin a _ _ _ kk.d (kk.g 2 rfl) (kk.g 3 rfl) (fun e => by have h := of_decide_eq_true e; rw [neg_wrap (by omega) (by omega)]; exact p1 (by omega)) (fun e => by have h := of_decide_eq_false e; exact p2 (by omega)) hbl

end Go.Proofs.YtjdjekpbjnkliaaGreatDoor
