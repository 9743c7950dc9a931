/-
  The law RuleOrders: its regions that draw their order.
-/
import Derived.Test.YtfhhlebadmkckaaDoorSame
import Derived.Test.YtfhhlebadmkckaaDoorLaws0
import Derived.Test.YtfhhlebadmkckaaDoorLf2
namespace Go.Proofs.YtfhhlebadmkckaaDoor
open Go.RowKit
section
variable {w : World} {ρ : Operand → Value} {o : Oper} {x y : Operand} {v u : Value} {b i : Nat}
theorem k_store9 {old cs : Array Value} (ho : o.op = .store 31 x y) (hx : ρ x = .pointer (some ⟨b, 0, none⟩)) (hy : ρ y = .agg cs) (hb : Blk w b 31 old) (h8 : cs.size = 9) (ho8 : old.size = 9) (h1 : cs.all (·.oneCell') = true) :
    (execOp ρ o).run Tryd.prog w = .ok .skip (w.setRow b cs) := by
  have hr := run_storeVar_row (P := Tryd.prog) w b 31 31 old cs hb (by rw [h8]; kernel_rfl) (by rw [ho8, h8]) h1
  simp only [execOp, ho, hx, hy, Instr.storeAt, Instr.sureAddr, Sem.run_bind, Sem.run_pure, Result.andThen_ok, hr]
theorem k_storeB {t : TypeId} {cs : Array Value} {n : Int} (ho : o.op = .store 5 x y) (hx : ρ x = .pointer (some ⟨b, i, none⟩)) (hy : ρ y = .int .u8 n) (hb : Blk w b t cs) (hi : i < cs.size) :
    (execOp ρ o).run Tryd.prog w = .ok .skip (w.setCell ⟨b, i, none⟩ (.int .u8 n)) := by
  have hc := hb.cell i
  have hf := hb.frozen i
  rw [Array.getElem?_eq_getElem hi] at hc
  simp only [execOp, ho, hx, hy]
  go_simp
theorem o_addB {n m r : Int} (ho : o.op = .binOp .add 5 x y 5) (hx : ρ x = .int .u8 n) (hy : ρ y = .int .u8 m) (hr : IntKind.u8.wrap (n + m) = r) : (execOp ρ o).run Tryd.prog w = .ok (.value (.int .u8 r)) w := by
  subst hr
  simp only [execOp, ho, hx, hy]
  go_simp
theorem o_eqBool {p q r : Bool} (ho : o.op = .binOp .eql 4 x y 4) (hx : ρ x = .bool p) (hy : ρ y = .bool q) (hr : (p == q) = r) : (execOp ρ o).run Tryd.prog w = .ok (.value (.bool r)) w := by
  subst hr
  simp only [execOp, ho, hx, hy]
  go_simp
theorem c_Order (ho : o.op = .call ⟨.value (.func 7), #[x, y], #[23, 23]⟩) (hf : ρ (.func 7) = .func (.func 7) #[] #[]) (hx : ρ x = v) (hy : ρ y = u) : (execOp ρ o).run Tryd.prog w = .ok (.enter 7 #[v, u]) w := by
  simp only [execOp, ho]
  go_simp
theorem k_boxN {cs : Array Value} (ho : o.op = .box 23 x) (hx : ρ x = .agg cs) : (execOp ρ o).run Tryd.prog w = .ok (.value (.pointer (some ⟨w.heap.size, 0, none⟩))) (w.alloc (.cells cs 23)) := by
  simp only [execOp, ho, hx]
  go_simp
theorem o_eqN {n d n' d' : Int} {r : Bool} (ho : o.op = .binOp .eql 23 x y 23) (hx : ρ x = .agg #[.int .i64 n, .int .i64 d]) (hy : ρ y = .agg #[.int .i64 n', .int .i64 d']) (hr : (n == n' && d == d') = r) : (execOp ρ o).run Tryd.prog w = .ok (.value (.bool r)) w := by
  subst hr
  have h1 := eqN.1 (n, d) (n', d') w
  have h2 := eqN.2 .eql x y (n, d) (n', d') w
  simp only [encN] at h1 h2
  simp only [execOp, ho, hx, hy, Sem.run_bind, h2, Result.andThen_ok, h1, Sem.run_pure]
end
theorem XIn.below {w w' : World} {F I E C U : Int} {AM AD AW AP : Option Addr} {lm ld : List Int} {lw : List (Int × Int)} {lp : List Int} (h : XIn w F I E C U AM AD AW AP lm ld lw lp) (b : Below w.heap.size w w') : XIn w' F I E C U AM AD AW AP lm ld lw lp :=
  ⟨h.bF, h.bI, h.bE, h.bC, h.bU, h.m.below b, h.d.below b, h.k.below b, h.p.below b, h.bm, h.bd, h.bk, h.bp, h.lm1, h.ld1, h.lw1, h.lp1⟩
theorem u8_wrap (n : Int) : 0 ≤ IntKind.u8.wrap n ∧ IntKind.u8.wrap n ≤ 255 := by
  unfold IntKind.wrap
  simp [IntKind.bits, IntKind.signed]
  omega
/-- chapter 2's order, as the law asks it -/
def lessB (n d n' d' : Int) : Bool := decide (n < n') || (n == n' && decide (d < d'))
theorem less_cmp (n d n' d' : Int) : decide (Rul.cmpN (n, d) (n', d') < 0) = lessB n d n' d' := by
  have := @Rul.cmpN_neg (n, d) (n', d')
  rw [Bool.eq_iff_iff]
  simp only [lessB, decide_eq_true_eq, Bool.or_eq_true, Bool.and_eq_true, beq_iff_eq]
  exact this
theorem zero_cmp (n d n' d' : Int) : (Rul.cmpN (n, d) (n', d') == 0) = (n == n' && d == d') := by
  have h1 := @Rul.cmpI_zero n n'
  have h2 := @Rul.cmpI_zero d d'
  rw [Bool.eq_iff_iff]
  simp only [Bool.and_eq_true, beq_iff_eq]
  unfold Rul.cmpN
  simp only
  split <;> omega

noncomputable def ord6 : Array Oper := (Tryd.f3.body.bind (regOf 6)).getD #[]
set_option maxRecDepth 100000 in
set_option maxHeartbeats 1000000 in
theorem regOrd6 (a : Act) (w : World) (Q : Exit → Act → World → Prop) (hQ : Blind Q) (b5 b6 b7 b8 : Nat) (n d n' d' : Int) (X Y : Array Value) (hX9 : X.size = 9) (hY9 : Y.size = 9) (hX1 : X.all (·.oneCell') = true) (q4 : Value) (df : List _) (hd : a.defers = df) (hs : a.tmps.size = 148) (h4 : a.tmps.getD 4 undef = q4)
    (h5 : a.tmps.getD 5 undef = .pointer (some ⟨b5, 0, none⟩)) (h6 : a.tmps.getD 6 undef = .pointer (some ⟨b6, 0, none⟩)) (h7 : a.tmps.getD 7 undef = .pointer (some ⟨b7, 0, none⟩)) (h8 : a.tmps.getD 8 undef = .pointer (some ⟨b8, 0, none⟩))
    (B5 : Blk w b5 23 #[.int .i64 n, .int .i64 d]) (B6 : Blk w b6 23 #[.int .i64 n', .int .i64 d']) (B7 : Blk w b7 31 X) (B8 : Blk w b8 31 Y) (n56 : b5 ≠ b6) (n58 : b5 ≠ b8) (n67 : b6 ≠ b7) (n68 : b6 ≠ b8) (n78 : b7 ≠ b8)
    (hld : ∀ (w1 : World) (ρ : Operand → Value) (o : Oper) (x : Operand), o.op = .load 31 x → ρ x = .pointer (some ⟨b7, 0, none⟩) → Blk w1 b7 31 X → (execOp ρ o).run Tryd.prog w1 = .ok (.value (.agg X)) w1)
    (hR : ∀ (a' : Act) (w' : World), a'.tmps.size = 148 → a'.defers = df → a'.tmps.getD 4 undef = q4 → a'.tmps.getD 5 undef = .pointer (some ⟨b5, 0, none⟩) → a'.tmps.getD 6 undef = .pointer (some ⟨b6, 0, none⟩) → a'.tmps.getD 7 undef = .pointer (some ⟨b7, 0, none⟩) → a'.tmps.getD 8 undef = .pointer (some ⟨b8, 0, none⟩) → Blk w' b5 23 #[.int .i64 n, .int .i64 d] → Blk w' b6 23 #[.int .i64 n, .int .i64 d'] → Blk w' b7 31 X → Blk w' b8 31 X → (∀ B, B ≤ b6 → B ≤ b8 → Below B w w') → Q .normal a' w') :
    (Code.region 6 ord6 true).wp Tryd.prog Q a w := by
  conv => arg 2; arg 2; whnf
  refine wp_region_held_drew (S := fun w' => Blk w' b5 23 #[.int .i64 n, .int .i64 d] ∧ Blk w' b7 31 X) (by kernel_rfl) ⟨B5, B7⟩ (fun hH => ?_)
  replace hR : ∀ (a' : Act) (w' : World), a'.tmps.size = 148 → a'.defers = df → a'.tmps.getD 4 undef = q4 → a'.tmps.getD 5 undef = .pointer (some ⟨b5, 0, none⟩) → a'.tmps.getD 6 undef = .pointer (some ⟨b6, 0, none⟩) → a'.tmps.getD 7 undef = .pointer (some ⟨b7, 0, none⟩) → a'.tmps.getD 8 undef = .pointer (some ⟨b8, 0, none⟩) → Blk w' b5 23 #[.int .i64 n, .int .i64 d] → Blk w' b6 23 #[.int .i64 n, .int .i64 d'] → Blk w' b7 31 X → Blk w' b8 31 X → (∀ B, B ≤ b6 → B ≤ b8 → Below B w.drew w') → Q .normal a' w' := fun a' w' e1 e2 e3 e4 e5 e6 e7 e8 e9 e10 e11 e12 => hR a' w' e1 e2 e3 e4 e5 e6 e7 e8 e9 e10 e11 (fun B z1 z2 => (show Below B w w.drew from ⟨rfl, rfl, rfl, Nat.le_refl _, fun _ _ => rfl⟩).trans (e12 B z1 z2))
  replace B5 : Blk w.drew b5 23 #[.int .i64 n, .int .i64 d] := B5
  replace B6 : Blk w.drew b6 23 #[.int .i64 n', .int .i64 d'] := B6
  replace B7 : Blk w.drew b7 31 X := B7
  replace B8 : Blk w.drew b8 31 Y := B8
  generalize w.drew = w at *
  refine heldL 0 29 (v := .pointer (some ⟨b5, 0, none⟩)) hQ (by kernel_rfl) (by rw [hs]; decide) (by kernel_rfl) (by kernel_rfl) (by kernel_rfl) hH ?z1 ?z2
  case z1 => (intro o ho; obtain rfl := Option.some.inj ho; exact Or.inl ⟨rfl, fun w1 h1w => k_fieldNth0 rfl (ev_tmp h5)⟩)
  case z2 =>
  intro a F0
  replace hs := F0.z.trans hs
  replace hd := F0.e.trans hd
  replace h4 := (F0.n 4 (by decide)).trans h4
  replace h5 := (F0.n 5 (by decide)).trans h5
  replace h6 := (F0.n 6 (by decide)).trans h6
  replace h7 := (F0.n 7 (by decide)).trans h7
  replace h8 := (F0.n 8 (by decide)).trans h8
  have h29 := F0.s
  clear F0
  refine heldL 1 30 (v := .int .i64 n) hQ (by kernel_rfl) (by rw [hs]; decide) (by kernel_rfl) (by kernel_rfl) (by kernel_rfl) hH ?z3 ?z4
  case z3 => (intro o ho; obtain rfl := Option.some.inj ho; exact Or.inl ⟨rfl, fun w1 h1w => k_loadI rfl (ev_tmp h29) (h1w.1.cell 0)⟩)
  case z4 =>
  intro a F0
  replace hs := F0.z.trans hs
  replace hd := F0.e.trans hd
  replace h4 := (F0.n 4 (by decide)).trans h4
  replace h5 := (F0.n 5 (by decide)).trans h5
  replace h6 := (F0.n 6 (by decide)).trans h6
  replace h7 := (F0.n 7 (by decide)).trans h7
  replace h8 := (F0.n 8 (by decide)).trans h8
  replace h29 := (F0.n 29 (by decide)).trans h29
  have h30 := F0.s
  clear F0
  refine heldL 2 31 (v := .agg X) hQ (by kernel_rfl) (by rw [hs]; decide) (by kernel_rfl) (by kernel_rfl) (by kernel_rfl) hH ?z5 ?z6
  case z5 => (intro o ho; obtain rfl := Option.some.inj ho; exact Or.inl ⟨rfl, fun w1 h1w => hld _ _ _ _ rfl (ev_tmp h7) h1w.2⟩)
  case z6 =>
  intro a F0
  replace hs := F0.z.trans hs
  replace hd := F0.e.trans hd
  replace h4 := (F0.n 4 (by decide)).trans h4
  replace h5 := (F0.n 5 (by decide)).trans h5
  replace h6 := (F0.n 6 (by decide)).trans h6
  replace h7 := (F0.n 7 (by decide)).trans h7
  replace h8 := (F0.n 8 (by decide)).trans h8
  replace h29 := (F0.n 29 (by decide)).trans h29
  replace h30 := (F0.n 30 (by decide)).trans h30
  have h31 := F0.s
  clear F0
  refine heldL 3 32 (v := .pointer (some ⟨b6, 0, none⟩)) hQ (by kernel_rfl) (by rw [hs]; decide) (by kernel_rfl) (by kernel_rfl) (by kernel_rfl) hH ?z7 ?z8
  case z7 => (intro o ho; obtain rfl := Option.some.inj ho; exact Or.inl ⟨rfl, fun w1 h1w => k_fieldNth0 rfl (ev_tmp h6)⟩)
  case z8 =>
  intro a F0
  replace hs := F0.z.trans hs
  replace hd := F0.e.trans hd
  replace h4 := (F0.n 4 (by decide)).trans h4
  replace h5 := (F0.n 5 (by decide)).trans h5
  replace h6 := (F0.n 6 (by decide)).trans h6
  replace h7 := (F0.n 7 (by decide)).trans h7
  replace h8 := (F0.n 8 (by decide)).trans h8
  replace h29 := (F0.n 29 (by decide)).trans h29
  replace h30 := (F0.n 30 (by decide)).trans h30
  replace h31 := (F0.n 31 (by decide)).trans h31
  have h32 := F0.s
  clear F0
  have e1 := exc_set w b6 0 (.int .i64 n)
  have c6 : Blk (w.setCell ⟨b6, 0, none⟩ (.int .i64 n)) b6 23 #[.int .i64 n, .int .i64 d'] := B6.set 0 _
  have c5 := B5.exc (e1 w.heap.size) B5.lt n56
  have c7 := B7.exc (e1 w.heap.size) B7.lt (Ne.symm n67)
  have c8 := B8.exc (e1 w.heap.size) B8.lt (Ne.symm n68)
  refine heldL_store 4 (w' := w.setCell ⟨b6, 0, none⟩ (.int .i64 n)) (by kernel_rfl) (by kernel_rfl) ?z9 ⟨c5, c7⟩ ?z10
  case z9 => (intro o ho; obtain rfl := Option.some.inj ho; exact ⟨rfl, k_storeI rfl (ev_tmp h32) (ev_tmp h30) B6 (by simp)⟩)
  case z10 =>
  obtain ⟨w5, hw5⟩ : ∃ w5, w5 = w.setCell ⟨b6, 0, none⟩ (.int .i64 n) := ⟨_, rfl⟩
  rw [← hw5] at c5 c6 c7 c8 ⊢
  replace e1 : ∀ B, Exc B b6 w w5 := by rw [hw5]; exact e1
  clear hw5
  have e2 := exc_setRow w5 b8 X
  have g8 : Blk (w5.setRow b8 X) b8 31 X := c8.setRow
  have g5 := c5.exc (e2 w5.heap.size) c5.lt n58
  have g6 := c6.exc (e2 w5.heap.size) c6.lt n68
  have g7 := c7.exc (e2 w5.heap.size) c7.lt n78
  refine heldL_store 5 (w' := w5.setRow b8 X) (by kernel_rfl) (by kernel_rfl) ?z11 ⟨g5, g7⟩ ?z12
  case z11 => (intro o ho; obtain rfl := Option.some.inj ho; exact ⟨rfl, k_store9 rfl (ev_tmp h8) (ev_tmp h31) c8 hX9 hY9 hX1⟩)
  case z12 =>
  refine wpAnyH_done (by kernel_rfl) ?_ _
  exact hR a _ hs hd h4 h5 h6 h7 h8 g5 g6 g7 g8 (fun B z1 z2 => ((e1 B).below z1).trans ((e2 B).below z2))

noncomputable def ord11 : Array Oper := (Tryd.f3.body.bind (regOf 11)).getD #[]

set_option maxRecDepth 100000 in
set_option maxHeartbeats 1000000 in
theorem regOrd11_lt (a : Act) (w : World) (Q : Exit → Act → World → Prop) (b5 b6 b7 b8 : Nat) (n d n' d' : Int) (q11 : Value) (df : List _) (hd : a.defers = df) (hs : a.tmps.size = 148) (h5 : a.tmps.getD 5 undef = .pointer (some ⟨b5, 0, none⟩)) (h6 : a.tmps.getD 6 undef = .pointer (some ⟨b6, 0, none⟩)) (h7 : a.tmps.getD 7 undef = .pointer (some ⟨b7, 0, none⟩)) (h8 : a.tmps.getD 8 undef = .pointer (some ⟨b8, 0, none⟩)) (h11 : a.tmps.getD 11 undef = q11)
    (B5 : Blk w b5 23 #[.int .i64 n, .int .i64 d]) (B6 : Blk w b6 23 #[.int .i64 n', .int .i64 d']) (g1 : decide (n < n') = true)
    (hR : ∀ (a' : Act), a'.tmps.size = 148 → a'.defers = df → a'.tmps.getD 5 undef = .pointer (some ⟨b5, 0, none⟩) → a'.tmps.getD 6 undef = .pointer (some ⟨b6, 0, none⟩) → a'.tmps.getD 7 undef = .pointer (some ⟨b7, 0, none⟩) → a'.tmps.getD 8 undef = .pointer (some ⟨b8, 0, none⟩) → a'.tmps.getD 11 undef = q11 → a'.tmps.getD 12 undef = .bool true → Q .normal a' w) :
    (Code.region 11 ord11 false).wp Tryd.prog Q a w := by
  conv => arg 2; arg 2; whnf
  refine wp_region (show wpOps _ _ _ [0, 1, 2, 3, 4, 5, 6, 7, 8, 9, 10, 11, 12, 13, 14, 15, 16, 17, 18, 19] _ _ from ?_)
  refine opL 0 46 (v := .pointer (some ⟨b5, 0, none⟩)) (w' := w) (by kernel_rfl) (by rw [hs]; decide) ?z13 ?z14
  case z13 => (intro o ho; obtain rfl := Option.some.inj ho; exact ⟨rfl, k_fieldNth0 rfl (ev_tmp h5)⟩)
  case z14 =>
  intro a F0
  replace hs := F0.z.trans hs
  replace hd := F0.e.trans hd
  replace h5 := (F0.n 5 (by decide)).trans h5
  replace h6 := (F0.n 6 (by decide)).trans h6
  replace h7 := (F0.n 7 (by decide)).trans h7
  replace h8 := (F0.n 8 (by decide)).trans h8
  replace h11 := (F0.n 11 (by decide)).trans h11
  have h46 := F0.s
  clear F0
  refine opL 1 47 (v := .int .i64 n) (w' := w) (by kernel_rfl) (by rw [hs]; decide) ?z15 ?z16
  case z15 => (intro o ho; obtain rfl := Option.some.inj ho; exact ⟨rfl, k_loadI rfl (ev_tmp h46) (B5.cell 0)⟩)
  case z16 =>
  intro a F0
  replace hs := F0.z.trans hs
  replace hd := F0.e.trans hd
  replace h5 := (F0.n 5 (by decide)).trans h5
  replace h6 := (F0.n 6 (by decide)).trans h6
  replace h7 := (F0.n 7 (by decide)).trans h7
  replace h8 := (F0.n 8 (by decide)).trans h8
  replace h11 := (F0.n 11 (by decide)).trans h11
  clear h46
  have h47 := F0.s
  clear F0
  refine opL 2 48 (v := .pointer (some ⟨b6, 0, none⟩)) (w' := w) (by kernel_rfl) (by rw [hs]; decide) ?z17 ?z18
  case z17 => (intro o ho; obtain rfl := Option.some.inj ho; exact ⟨rfl, k_fieldNth0 rfl (ev_tmp h6)⟩)
  case z18 =>
  intro a F0
  replace hs := F0.z.trans hs
  replace hd := F0.e.trans hd
  replace h5 := (F0.n 5 (by decide)).trans h5
  replace h6 := (F0.n 6 (by decide)).trans h6
  replace h7 := (F0.n 7 (by decide)).trans h7
  replace h8 := (F0.n 8 (by decide)).trans h8
  replace h11 := (F0.n 11 (by decide)).trans h11
  replace h47 := (F0.n 47 (by decide)).trans h47
  have h48 := F0.s
  clear F0
  refine opL 3 49 (v := .int .i64 n') (w' := w) (by kernel_rfl) (by rw [hs]; decide) ?z19 ?z20
  case z19 => (intro o ho; obtain rfl := Option.some.inj ho; exact ⟨rfl, k_loadI rfl (ev_tmp h48) (B6.cell 0)⟩)
  case z20 =>
  intro a F0
  replace hs := F0.z.trans hs
  replace hd := F0.e.trans hd
  replace h5 := (F0.n 5 (by decide)).trans h5
  replace h6 := (F0.n 6 (by decide)).trans h6
  replace h7 := (F0.n 7 (by decide)).trans h7
  replace h8 := (F0.n 8 (by decide)).trans h8
  replace h11 := (F0.n 11 (by decide)).trans h11
  replace h47 := (F0.n 47 (by decide)).trans h47
  clear h48
  have h49 := F0.s
  clear F0
  refine opL 4 50 (v := .bool true) (w' := w) (by kernel_rfl) (by rw [hs]; decide) ?z21 ?z22
  case z21 => (intro o ho; obtain rfl := Option.some.inj ho; exact ⟨rfl, o_ltI rfl (ev_tmp h47) (ev_tmp h49) g1⟩)
  case z22 =>
  intro a F0
  replace hs := F0.z.trans hs
  replace hd := F0.e.trans hd
  replace h5 := (F0.n 5 (by decide)).trans h5
  replace h6 := (F0.n 6 (by decide)).trans h6
  replace h7 := (F0.n 7 (by decide)).trans h7
  replace h8 := (F0.n 8 (by decide)).trans h8
  replace h11 := (F0.n 11 (by decide)).trans h11
  clear h47
  clear h49
  have h50 := F0.s
  clear F0
  refine opL 5 51 (v := .bool true) (w' := w) (by kernel_rfl) (by rw [hs]; decide) ?z23 ?z24
  case z23 => (intro o ho; obtain rfl := Option.some.inj ho; exact ⟨rfl, k_move rfl (ev_tmp h50)⟩)
  case z24 =>
  intro a F0
  replace hs := F0.z.trans hs
  replace hd := F0.e.trans hd
  replace h5 := (F0.n 5 (by decide)).trans h5
  replace h6 := (F0.n 6 (by decide)).trans h6
  replace h7 := (F0.n 7 (by decide)).trans h7
  replace h8 := (F0.n 8 (by decide)).trans h8
  replace h11 := (F0.n 11 (by decide)).trans h11
  clear h50
  have h51 := F0.s
  clear F0
  refine opL_not 6 52 (by kernel_rfl) (by rw [hs]; decide) ?z25 ?z26
  case z25 => (intro o ho; obtain rfl := Option.some.inj ho; exact wanted_at (b := true) (want := false) rfl (by kernel_rfl) h51)
  case z26 =>
  intro a F0
  replace hs := F0.z.trans hs
  replace hd := F0.e.trans hd
  replace h5 := (F0.n 5 (by decide)).trans h5
  replace h6 := (F0.n 6 (by decide)).trans h6
  replace h7 := (F0.n 7 (by decide)).trans h7
  replace h8 := (F0.n 8 (by decide)).trans h8
  replace h11 := (F0.n 11 (by decide)).trans h11
  replace h51 := (F0.n 51 (by decide)).trans h51
  have h52 := F0.s
  clear F0
  refine opL_not 7 53 (by kernel_rfl) (by rw [hs]; decide) ?z27 ?z28
  case z27 => (intro o ho; obtain rfl := Option.some.inj ho; exact wanted_at (b := true) (want := false) rfl (by kernel_rfl) h51)
  case z28 =>
  intro a F0
  replace hs := F0.z.trans hs
  replace hd := F0.e.trans hd
  replace h5 := (F0.n 5 (by decide)).trans h5
  replace h6 := (F0.n 6 (by decide)).trans h6
  replace h7 := (F0.n 7 (by decide)).trans h7
  replace h8 := (F0.n 8 (by decide)).trans h8
  replace h11 := (F0.n 11 (by decide)).trans h11
  replace h51 := (F0.n 51 (by decide)).trans h51
  clear h52
  have h53 := F0.s
  clear F0
  refine opL_not 8 54 (by kernel_rfl) (by rw [hs]; decide) ?z29 ?z30
  case z29 => (intro o ho; obtain rfl := Option.some.inj ho; exact wanted_at (b := true) (want := false) rfl (by kernel_rfl) h51)
  case z30 =>
  intro a F0
  replace hs := F0.z.trans hs
  replace hd := F0.e.trans hd
  replace h5 := (F0.n 5 (by decide)).trans h5
  replace h6 := (F0.n 6 (by decide)).trans h6
  replace h7 := (F0.n 7 (by decide)).trans h7
  replace h8 := (F0.n 8 (by decide)).trans h8
  replace h11 := (F0.n 11 (by decide)).trans h11
  replace h51 := (F0.n 51 (by decide)).trans h51
  replace h53 := (F0.n 53 (by decide)).trans h53
  have h54 := F0.s
  clear F0
  refine opL_not 9 55 (by kernel_rfl) (by rw [hs]; decide) ?z31 ?z32
  case z31 => (intro o ho; obtain rfl := Option.some.inj ho; exact wanted_at (b := true) (want := false) rfl (by kernel_rfl) h51)
  case z32 =>
  intro a F0
  replace hs := F0.z.trans hs
  replace hd := F0.e.trans hd
  replace h5 := (F0.n 5 (by decide)).trans h5
  replace h6 := (F0.n 6 (by decide)).trans h6
  replace h7 := (F0.n 7 (by decide)).trans h7
  replace h8 := (F0.n 8 (by decide)).trans h8
  replace h11 := (F0.n 11 (by decide)).trans h11
  replace h51 := (F0.n 51 (by decide)).trans h51
  replace h53 := (F0.n 53 (by decide)).trans h53
  clear h54
  have h55 := F0.s
  clear F0
  refine opL_not 10 56 (by kernel_rfl) (by rw [hs]; decide) ?z33 ?z34
  case z33 => (intro o ho; obtain rfl := Option.some.inj ho; exact wanted_at (b := true) (want := false) rfl (by kernel_rfl) h51)
  case z34 =>
  intro a F0
  replace hs := F0.z.trans hs
  replace hd := F0.e.trans hd
  replace h5 := (F0.n 5 (by decide)).trans h5
  replace h6 := (F0.n 6 (by decide)).trans h6
  replace h7 := (F0.n 7 (by decide)).trans h7
  replace h8 := (F0.n 8 (by decide)).trans h8
  replace h11 := (F0.n 11 (by decide)).trans h11
  replace h51 := (F0.n 51 (by decide)).trans h51
  clear h53
  clear h55
  have h56 := F0.s
  clear F0
  refine opL_not 11 57 (by kernel_rfl) (by rw [hs]; decide) ?z35 ?z36
  case z35 => (intro o ho; obtain rfl := Option.some.inj ho; exact wanted_at (b := true) (want := false) rfl (by kernel_rfl) h51)
  case z36 =>
  intro a F0
  replace hs := F0.z.trans hs
  replace hd := F0.e.trans hd
  replace h5 := (F0.n 5 (by decide)).trans h5
  replace h6 := (F0.n 6 (by decide)).trans h6
  replace h7 := (F0.n 7 (by decide)).trans h7
  replace h8 := (F0.n 8 (by decide)).trans h8
  replace h11 := (F0.n 11 (by decide)).trans h11
  replace h51 := (F0.n 51 (by decide)).trans h51
  clear h56
  have h57 := F0.s
  clear F0
  refine opL_not 12 58 (by kernel_rfl) (by rw [hs]; decide) ?z37 ?z38
  case z37 => (intro o ho; obtain rfl := Option.some.inj ho; exact wanted_not (want := true) rfl (by kernel_rfl) h57)
  case z38 =>
  intro a F0
  replace hs := F0.z.trans hs
  replace hd := F0.e.trans hd
  replace h5 := (F0.n 5 (by decide)).trans h5
  replace h6 := (F0.n 6 (by decide)).trans h6
  replace h7 := (F0.n 7 (by decide)).trans h7
  replace h8 := (F0.n 8 (by decide)).trans h8
  replace h11 := (F0.n 11 (by decide)).trans h11
  replace h51 := (F0.n 51 (by decide)).trans h51
  replace h57 := (F0.n 57 (by decide)).trans h57
  have h58 := F0.s
  clear F0
  refine opL_not 13 59 (by kernel_rfl) (by rw [hs]; decide) ?z39 ?z40
  case z39 => (intro o ho; obtain rfl := Option.some.inj ho; exact wanted_not (want := true) rfl (by kernel_rfl) h57)
  case z40 =>
  intro a F0
  replace hs := F0.z.trans hs
  replace hd := F0.e.trans hd
  replace h5 := (F0.n 5 (by decide)).trans h5
  replace h6 := (F0.n 6 (by decide)).trans h6
  replace h7 := (F0.n 7 (by decide)).trans h7
  replace h8 := (F0.n 8 (by decide)).trans h8
  replace h11 := (F0.n 11 (by decide)).trans h11
  replace h51 := (F0.n 51 (by decide)).trans h51
  replace h57 := (F0.n 57 (by decide)).trans h57
  clear h58
  have h59 := F0.s
  clear F0
  refine opL_not 14 60 (by kernel_rfl) (by rw [hs]; decide) ?z41 ?z42
  case z41 => (intro o ho; obtain rfl := Option.some.inj ho; exact wanted_not (want := true) rfl (by kernel_rfl) h57)
  case z42 =>
  intro a F0
  replace hs := F0.z.trans hs
  replace hd := F0.e.trans hd
  replace h5 := (F0.n 5 (by decide)).trans h5
  replace h6 := (F0.n 6 (by decide)).trans h6
  replace h7 := (F0.n 7 (by decide)).trans h7
  replace h8 := (F0.n 8 (by decide)).trans h8
  replace h11 := (F0.n 11 (by decide)).trans h11
  replace h51 := (F0.n 51 (by decide)).trans h51
  replace h57 := (F0.n 57 (by decide)).trans h57
  replace h59 := (F0.n 59 (by decide)).trans h59
  have h60 := F0.s
  clear F0
  refine opL_not 15 61 (by kernel_rfl) (by rw [hs]; decide) ?z43 ?z44
  case z43 => (intro o ho; obtain rfl := Option.some.inj ho; exact wanted_not (want := true) rfl (by kernel_rfl) h57)
  case z44 =>
  intro a F0
  replace hs := F0.z.trans hs
  replace hd := F0.e.trans hd
  replace h5 := (F0.n 5 (by decide)).trans h5
  replace h6 := (F0.n 6 (by decide)).trans h6
  replace h7 := (F0.n 7 (by decide)).trans h7
  replace h8 := (F0.n 8 (by decide)).trans h8
  replace h11 := (F0.n 11 (by decide)).trans h11
  replace h51 := (F0.n 51 (by decide)).trans h51
  replace h57 := (F0.n 57 (by decide)).trans h57
  replace h59 := (F0.n 59 (by decide)).trans h59
  clear h60
  have h61 := F0.s
  clear F0
  refine opL_not 16 62 (by kernel_rfl) (by rw [hs]; decide) ?z45 ?z46
  case z45 => (intro o ho; obtain rfl := Option.some.inj ho; exact wanted_not (want := true) rfl (by kernel_rfl) h57)
  case z46 =>
  intro a F0
  replace hs := F0.z.trans hs
  replace hd := F0.e.trans hd
  replace h5 := (F0.n 5 (by decide)).trans h5
  replace h6 := (F0.n 6 (by decide)).trans h6
  replace h7 := (F0.n 7 (by decide)).trans h7
  replace h8 := (F0.n 8 (by decide)).trans h8
  replace h11 := (F0.n 11 (by decide)).trans h11
  replace h51 := (F0.n 51 (by decide)).trans h51
  replace h57 := (F0.n 57 (by decide)).trans h57
  clear h59
  clear h61
  have h62 := F0.s
  clear F0
  refine opL_not 17 63 (by kernel_rfl) (by rw [hs]; decide) ?z47 ?z48
  case z47 => (intro o ho; obtain rfl := Option.some.inj ho; exact wanted_at (b := true) (want := false) rfl (by kernel_rfl) h51)
  case z48 =>
  intro a F0
  replace hs := F0.z.trans hs
  replace hd := F0.e.trans hd
  replace h5 := (F0.n 5 (by decide)).trans h5
  replace h6 := (F0.n 6 (by decide)).trans h6
  replace h7 := (F0.n 7 (by decide)).trans h7
  replace h8 := (F0.n 8 (by decide)).trans h8
  replace h11 := (F0.n 11 (by decide)).trans h11
  replace h51 := (F0.n 51 (by decide)).trans h51
  clear h57
  clear h62
  have h63 := F0.s
  clear F0
  refine opL 18 64 (v := .bool true) (w' := w) (by kernel_rfl) (by rw [hs]; decide) ?z49 ?z50
  case z49 => (intro o ho; obtain rfl := Option.some.inj ho; exact ⟨rfl, k_pick_yes rfl (ev_tmp h51) rfl⟩)
  case z50 =>
  intro a F0
  replace hs := F0.z.trans hs
  replace hd := F0.e.trans hd
  replace h5 := (F0.n 5 (by decide)).trans h5
  replace h6 := (F0.n 6 (by decide)).trans h6
  replace h7 := (F0.n 7 (by decide)).trans h7
  replace h8 := (F0.n 8 (by decide)).trans h8
  replace h11 := (F0.n 11 (by decide)).trans h11
  clear h51
  clear h63
  have h64 := F0.s
  clear F0
  refine opL 19 12 (v := .bool true) (w' := w) (by kernel_rfl) (by rw [hs]; decide) ?z51 ?z52
  case z51 => (intro o ho; obtain rfl := Option.some.inj ho; exact ⟨rfl, k_assign rfl (ev_tmp h64)⟩)
  case z52 =>
  intro a F0
  replace hs := F0.z.trans hs
  replace hd := F0.e.trans hd
  replace h5 := (F0.n 5 (by decide)).trans h5
  replace h6 := (F0.n 6 (by decide)).trans h6
  replace h7 := (F0.n 7 (by decide)).trans h7
  replace h8 := (F0.n 8 (by decide)).trans h8
  replace h11 := (F0.n 11 (by decide)).trans h11
  clear h64
  have h12 := F0.s
  clear F0
  exact hR a hs hd h5 h6 h7 h8 h11 h12

set_option maxRecDepth 100000 in
set_option maxHeartbeats 1000000 in
theorem regOrd11_eq (a : Act) (w : World) (Q : Exit → Act → World → Prop) (b5 b6 b7 b8 : Nat) (n d n' d' : Int) (q11 : Value) (df : List _) (hd : a.defers = df) (hs : a.tmps.size = 148) (h5 : a.tmps.getD 5 undef = .pointer (some ⟨b5, 0, none⟩)) (h6 : a.tmps.getD 6 undef = .pointer (some ⟨b6, 0, none⟩)) (h7 : a.tmps.getD 7 undef = .pointer (some ⟨b7, 0, none⟩)) (h8 : a.tmps.getD 8 undef = .pointer (some ⟨b8, 0, none⟩)) (h11 : a.tmps.getD 11 undef = q11)
    (B5 : Blk w b5 23 #[.int .i64 n, .int .i64 d]) (B6 : Blk w b6 23 #[.int .i64 n', .int .i64 d']) (g1 : decide (n < n') = false) (g2 : (n == n') = true)
    (hR : ∀ (a' : Act), a'.tmps.size = 148 → a'.defers = df → a'.tmps.getD 5 undef = .pointer (some ⟨b5, 0, none⟩) → a'.tmps.getD 6 undef = .pointer (some ⟨b6, 0, none⟩) → a'.tmps.getD 7 undef = .pointer (some ⟨b7, 0, none⟩) → a'.tmps.getD 8 undef = .pointer (some ⟨b8, 0, none⟩) → a'.tmps.getD 11 undef = q11 → a'.tmps.getD 12 undef = .bool (decide (d < d')) → Q .normal a' w) :
    (Code.region 11 ord11 false).wp Tryd.prog Q a w := by
  conv => arg 2; arg 2; whnf
  refine wp_region (show wpOps _ _ _ [0, 1, 2, 3, 4, 5, 6, 7, 8, 9, 10, 11, 12, 13, 14, 15, 16, 17, 18, 19] _ _ from ?_)
  refine opL 0 46 (v := .pointer (some ⟨b5, 0, none⟩)) (w' := w) (by kernel_rfl) (by rw [hs]; decide) ?z53 ?z54
  case z53 => (intro o ho; obtain rfl := Option.some.inj ho; exact ⟨rfl, k_fieldNth0 rfl (ev_tmp h5)⟩)
  case z54 =>
  intro a F0
  replace hs := F0.z.trans hs
  replace hd := F0.e.trans hd
  replace h5 := (F0.n 5 (by decide)).trans h5
  replace h6 := (F0.n 6 (by decide)).trans h6
  replace h7 := (F0.n 7 (by decide)).trans h7
  replace h8 := (F0.n 8 (by decide)).trans h8
  replace h11 := (F0.n 11 (by decide)).trans h11
  have h46 := F0.s
  clear F0
  refine opL 1 47 (v := .int .i64 n) (w' := w) (by kernel_rfl) (by rw [hs]; decide) ?z55 ?z56
  case z55 => (intro o ho; obtain rfl := Option.some.inj ho; exact ⟨rfl, k_loadI rfl (ev_tmp h46) (B5.cell 0)⟩)
  case z56 =>
  intro a F0
  replace hs := F0.z.trans hs
  replace hd := F0.e.trans hd
  replace h5 := (F0.n 5 (by decide)).trans h5
  replace h6 := (F0.n 6 (by decide)).trans h6
  replace h7 := (F0.n 7 (by decide)).trans h7
  replace h8 := (F0.n 8 (by decide)).trans h8
  replace h11 := (F0.n 11 (by decide)).trans h11
  clear h46
  have h47 := F0.s
  clear F0
  refine opL 2 48 (v := .pointer (some ⟨b6, 0, none⟩)) (w' := w) (by kernel_rfl) (by rw [hs]; decide) ?z57 ?z58
  case z57 => (intro o ho; obtain rfl := Option.some.inj ho; exact ⟨rfl, k_fieldNth0 rfl (ev_tmp h6)⟩)
  case z58 =>
  intro a F0
  replace hs := F0.z.trans hs
  replace hd := F0.e.trans hd
  replace h5 := (F0.n 5 (by decide)).trans h5
  replace h6 := (F0.n 6 (by decide)).trans h6
  replace h7 := (F0.n 7 (by decide)).trans h7
  replace h8 := (F0.n 8 (by decide)).trans h8
  replace h11 := (F0.n 11 (by decide)).trans h11
  replace h47 := (F0.n 47 (by decide)).trans h47
  have h48 := F0.s
  clear F0
  refine opL 3 49 (v := .int .i64 n') (w' := w) (by kernel_rfl) (by rw [hs]; decide) ?z59 ?z60
  case z59 => (intro o ho; obtain rfl := Option.some.inj ho; exact ⟨rfl, k_loadI rfl (ev_tmp h48) (B6.cell 0)⟩)
  case z60 =>
  intro a F0
  replace hs := F0.z.trans hs
  replace hd := F0.e.trans hd
  replace h5 := (F0.n 5 (by decide)).trans h5
  replace h6 := (F0.n 6 (by decide)).trans h6
  replace h7 := (F0.n 7 (by decide)).trans h7
  replace h8 := (F0.n 8 (by decide)).trans h8
  replace h11 := (F0.n 11 (by decide)).trans h11
  replace h47 := (F0.n 47 (by decide)).trans h47
  clear h48
  have h49 := F0.s
  clear F0
  refine opL 4 50 (v := .bool false) (w' := w) (by kernel_rfl) (by rw [hs]; decide) ?z61 ?z62
  case z61 => (intro o ho; obtain rfl := Option.some.inj ho; exact ⟨rfl, o_ltI rfl (ev_tmp h47) (ev_tmp h49) g1⟩)
  case z62 =>
  intro a F0
  replace hs := F0.z.trans hs
  replace hd := F0.e.trans hd
  replace h5 := (F0.n 5 (by decide)).trans h5
  replace h6 := (F0.n 6 (by decide)).trans h6
  replace h7 := (F0.n 7 (by decide)).trans h7
  replace h8 := (F0.n 8 (by decide)).trans h8
  replace h11 := (F0.n 11 (by decide)).trans h11
  clear h47
  clear h49
  have h50 := F0.s
  clear F0
  refine opL 5 51 (v := .bool false) (w' := w) (by kernel_rfl) (by rw [hs]; decide) ?z63 ?z64
  case z63 => (intro o ho; obtain rfl := Option.some.inj ho; exact ⟨rfl, k_move rfl (ev_tmp h50)⟩)
  case z64 =>
  intro a F0
  replace hs := F0.z.trans hs
  replace hd := F0.e.trans hd
  replace h5 := (F0.n 5 (by decide)).trans h5
  replace h6 := (F0.n 6 (by decide)).trans h6
  replace h7 := (F0.n 7 (by decide)).trans h7
  replace h8 := (F0.n 8 (by decide)).trans h8
  replace h11 := (F0.n 11 (by decide)).trans h11
  clear h50
  have h51 := F0.s
  clear F0
  refine opL 6 52 (v := .pointer (some ⟨b5, 0, none⟩)) (w' := w) (by kernel_rfl) (by rw [hs]; decide) ?z65 ?z66
  case z65 => (intro o ho; obtain rfl := Option.some.inj ho; exact ⟨wanted_at (b := false) (want := false) rfl (by kernel_rfl) h51, k_fieldNth0 rfl (ev_tmp h5)⟩)
  case z66 =>
  intro a F0
  replace hs := F0.z.trans hs
  replace hd := F0.e.trans hd
  replace h5 := (F0.n 5 (by decide)).trans h5
  replace h6 := (F0.n 6 (by decide)).trans h6
  replace h7 := (F0.n 7 (by decide)).trans h7
  replace h8 := (F0.n 8 (by decide)).trans h8
  replace h11 := (F0.n 11 (by decide)).trans h11
  replace h51 := (F0.n 51 (by decide)).trans h51
  have h52 := F0.s
  clear F0
  refine opL 7 53 (v := .int .i64 n) (w' := w) (by kernel_rfl) (by rw [hs]; decide) ?z67 ?z68
  case z67 => (intro o ho; obtain rfl := Option.some.inj ho; exact ⟨wanted_at (b := false) (want := false) rfl (by kernel_rfl) h51, k_loadI rfl (ev_tmp h52) (B5.cell 0)⟩)
  case z68 =>
  intro a F0
  replace hs := F0.z.trans hs
  replace hd := F0.e.trans hd
  replace h5 := (F0.n 5 (by decide)).trans h5
  replace h6 := (F0.n 6 (by decide)).trans h6
  replace h7 := (F0.n 7 (by decide)).trans h7
  replace h8 := (F0.n 8 (by decide)).trans h8
  replace h11 := (F0.n 11 (by decide)).trans h11
  replace h51 := (F0.n 51 (by decide)).trans h51
  clear h52
  have h53 := F0.s
  clear F0
  refine opL 8 54 (v := .pointer (some ⟨b6, 0, none⟩)) (w' := w) (by kernel_rfl) (by rw [hs]; decide) ?z69 ?z70
  case z69 => (intro o ho; obtain rfl := Option.some.inj ho; exact ⟨wanted_at (b := false) (want := false) rfl (by kernel_rfl) h51, k_fieldNth0 rfl (ev_tmp h6)⟩)
  case z70 =>
  intro a F0
  replace hs := F0.z.trans hs
  replace hd := F0.e.trans hd
  replace h5 := (F0.n 5 (by decide)).trans h5
  replace h6 := (F0.n 6 (by decide)).trans h6
  replace h7 := (F0.n 7 (by decide)).trans h7
  replace h8 := (F0.n 8 (by decide)).trans h8
  replace h11 := (F0.n 11 (by decide)).trans h11
  replace h51 := (F0.n 51 (by decide)).trans h51
  replace h53 := (F0.n 53 (by decide)).trans h53
  have h54 := F0.s
  clear F0
  refine opL 9 55 (v := .int .i64 n') (w' := w) (by kernel_rfl) (by rw [hs]; decide) ?z71 ?z72
  case z71 => (intro o ho; obtain rfl := Option.some.inj ho; exact ⟨wanted_at (b := false) (want := false) rfl (by kernel_rfl) h51, k_loadI rfl (ev_tmp h54) (B6.cell 0)⟩)
  case z72 =>
  intro a F0
  replace hs := F0.z.trans hs
  replace hd := F0.e.trans hd
  replace h5 := (F0.n 5 (by decide)).trans h5
  replace h6 := (F0.n 6 (by decide)).trans h6
  replace h7 := (F0.n 7 (by decide)).trans h7
  replace h8 := (F0.n 8 (by decide)).trans h8
  replace h11 := (F0.n 11 (by decide)).trans h11
  replace h51 := (F0.n 51 (by decide)).trans h51
  replace h53 := (F0.n 53 (by decide)).trans h53
  clear h54
  have h55 := F0.s
  clear F0
  refine opL 10 56 (v := .bool true) (w' := w) (by kernel_rfl) (by rw [hs]; decide) ?z73 ?z74
  case z73 => (intro o ho; obtain rfl := Option.some.inj ho; exact ⟨wanted_at (b := false) (want := false) rfl (by kernel_rfl) h51, o_eqI rfl (ev_tmp h53) (ev_tmp h55) g2⟩)
  case z74 =>
  intro a F0
  replace hs := F0.z.trans hs
  replace hd := F0.e.trans hd
  replace h5 := (F0.n 5 (by decide)).trans h5
  replace h6 := (F0.n 6 (by decide)).trans h6
  replace h7 := (F0.n 7 (by decide)).trans h7
  replace h8 := (F0.n 8 (by decide)).trans h8
  replace h11 := (F0.n 11 (by decide)).trans h11
  replace h51 := (F0.n 51 (by decide)).trans h51
  clear h53
  clear h55
  have h56 := F0.s
  clear F0
  refine opL 11 57 (v := .bool true) (w' := w) (by kernel_rfl) (by rw [hs]; decide) ?z75 ?z76
  case z75 => (intro o ho; obtain rfl := Option.some.inj ho; exact ⟨wanted_at (b := false) (want := false) rfl (by kernel_rfl) h51, k_move rfl (ev_tmp h56)⟩)
  case z76 =>
  intro a F0
  replace hs := F0.z.trans hs
  replace hd := F0.e.trans hd
  replace h5 := (F0.n 5 (by decide)).trans h5
  replace h6 := (F0.n 6 (by decide)).trans h6
  replace h7 := (F0.n 7 (by decide)).trans h7
  replace h8 := (F0.n 8 (by decide)).trans h8
  replace h11 := (F0.n 11 (by decide)).trans h11
  replace h51 := (F0.n 51 (by decide)).trans h51
  clear h56
  have h57 := F0.s
  clear F0
  refine opL 12 58 (v := .pointer (some ⟨b5, 1, none⟩)) (w' := w) (by kernel_rfl) (by rw [hs]; decide) ?z77 ?z78
  case z77 => (intro o ho; obtain rfl := Option.some.inj ho; exact ⟨wanted_at (b := true) (want := true) rfl (by kernel_rfl) h57, k_fieldNth1 rfl (ev_tmp h5)⟩)
  case z78 =>
  intro a F0
  replace hs := F0.z.trans hs
  replace hd := F0.e.trans hd
  replace h5 := (F0.n 5 (by decide)).trans h5
  replace h6 := (F0.n 6 (by decide)).trans h6
  replace h7 := (F0.n 7 (by decide)).trans h7
  replace h8 := (F0.n 8 (by decide)).trans h8
  replace h11 := (F0.n 11 (by decide)).trans h11
  replace h51 := (F0.n 51 (by decide)).trans h51
  replace h57 := (F0.n 57 (by decide)).trans h57
  have h58 := F0.s
  clear F0
  refine opL 13 59 (v := .int .i64 d) (w' := w) (by kernel_rfl) (by rw [hs]; decide) ?z79 ?z80
  case z79 => (intro o ho; obtain rfl := Option.some.inj ho; exact ⟨wanted_at (b := true) (want := true) rfl (by kernel_rfl) h57, k_loadI rfl (ev_tmp h58) (B5.cell 1)⟩)
  case z80 =>
  intro a F0
  replace hs := F0.z.trans hs
  replace hd := F0.e.trans hd
  replace h5 := (F0.n 5 (by decide)).trans h5
  replace h6 := (F0.n 6 (by decide)).trans h6
  replace h7 := (F0.n 7 (by decide)).trans h7
  replace h8 := (F0.n 8 (by decide)).trans h8
  replace h11 := (F0.n 11 (by decide)).trans h11
  replace h51 := (F0.n 51 (by decide)).trans h51
  replace h57 := (F0.n 57 (by decide)).trans h57
  clear h58
  have h59 := F0.s
  clear F0
  refine opL 14 60 (v := .pointer (some ⟨b6, 1, none⟩)) (w' := w) (by kernel_rfl) (by rw [hs]; decide) ?z81 ?z82
  case z81 => (intro o ho; obtain rfl := Option.some.inj ho; exact ⟨wanted_at (b := true) (want := true) rfl (by kernel_rfl) h57, k_fieldNth1 rfl (ev_tmp h6)⟩)
  case z82 =>
  intro a F0
  replace hs := F0.z.trans hs
  replace hd := F0.e.trans hd
  replace h5 := (F0.n 5 (by decide)).trans h5
  replace h6 := (F0.n 6 (by decide)).trans h6
  replace h7 := (F0.n 7 (by decide)).trans h7
  replace h8 := (F0.n 8 (by decide)).trans h8
  replace h11 := (F0.n 11 (by decide)).trans h11
  replace h51 := (F0.n 51 (by decide)).trans h51
  replace h57 := (F0.n 57 (by decide)).trans h57
  replace h59 := (F0.n 59 (by decide)).trans h59
  have h60 := F0.s
  clear F0
  refine opL 15 61 (v := .int .i64 d') (w' := w) (by kernel_rfl) (by rw [hs]; decide) ?z83 ?z84
  case z83 => (intro o ho; obtain rfl := Option.some.inj ho; exact ⟨wanted_at (b := true) (want := true) rfl (by kernel_rfl) h57, k_loadI rfl (ev_tmp h60) (B6.cell 1)⟩)
  case z84 =>
  intro a F0
  replace hs := F0.z.trans hs
  replace hd := F0.e.trans hd
  replace h5 := (F0.n 5 (by decide)).trans h5
  replace h6 := (F0.n 6 (by decide)).trans h6
  replace h7 := (F0.n 7 (by decide)).trans h7
  replace h8 := (F0.n 8 (by decide)).trans h8
  replace h11 := (F0.n 11 (by decide)).trans h11
  replace h51 := (F0.n 51 (by decide)).trans h51
  replace h57 := (F0.n 57 (by decide)).trans h57
  replace h59 := (F0.n 59 (by decide)).trans h59
  clear h60
  have h61 := F0.s
  clear F0
  refine opL 16 62 (v := .bool (decide (d < d'))) (w' := w) (by kernel_rfl) (by rw [hs]; decide) ?z85 ?z86
  case z85 => (intro o ho; obtain rfl := Option.some.inj ho; exact ⟨wanted_at (b := true) (want := true) rfl (by kernel_rfl) h57, o_ltI rfl (ev_tmp h59) (ev_tmp h61) rfl⟩)
  case z86 =>
  intro a F0
  replace hs := F0.z.trans hs
  replace hd := F0.e.trans hd
  replace h5 := (F0.n 5 (by decide)).trans h5
  replace h6 := (F0.n 6 (by decide)).trans h6
  replace h7 := (F0.n 7 (by decide)).trans h7
  replace h8 := (F0.n 8 (by decide)).trans h8
  replace h11 := (F0.n 11 (by decide)).trans h11
  replace h51 := (F0.n 51 (by decide)).trans h51
  replace h57 := (F0.n 57 (by decide)).trans h57
  clear h59
  clear h61
  have h62 := F0.s
  clear F0
  refine opL 17 63 (v := .bool (decide (d < d'))) (w' := w) (by kernel_rfl) (by rw [hs]; decide) ?z87 ?z88
  case z87 => (intro o ho; obtain rfl := Option.some.inj ho; exact ⟨wanted_at (b := false) (want := false) rfl (by kernel_rfl) h51, k_pick_yes rfl (ev_tmp h57) (ev_tmp h62)⟩)
  case z88 =>
  intro a F0
  replace hs := F0.z.trans hs
  replace hd := F0.e.trans hd
  replace h5 := (F0.n 5 (by decide)).trans h5
  replace h6 := (F0.n 6 (by decide)).trans h6
  replace h7 := (F0.n 7 (by decide)).trans h7
  replace h8 := (F0.n 8 (by decide)).trans h8
  replace h11 := (F0.n 11 (by decide)).trans h11
  replace h51 := (F0.n 51 (by decide)).trans h51
  clear h57
  clear h62
  have h63 := F0.s
  clear F0
  refine opL 18 64 (v := .bool (decide (d < d'))) (w' := w) (by kernel_rfl) (by rw [hs]; decide) ?z89 ?z90
  case z89 => (intro o ho; obtain rfl := Option.some.inj ho; exact ⟨rfl, k_pick_no rfl (ev_tmp h51) (ev_tmp h63)⟩)
  case z90 =>
  intro a F0
  replace hs := F0.z.trans hs
  replace hd := F0.e.trans hd
  replace h5 := (F0.n 5 (by decide)).trans h5
  replace h6 := (F0.n 6 (by decide)).trans h6
  replace h7 := (F0.n 7 (by decide)).trans h7
  replace h8 := (F0.n 8 (by decide)).trans h8
  replace h11 := (F0.n 11 (by decide)).trans h11
  clear h51
  clear h63
  have h64 := F0.s
  clear F0
  refine opL 19 12 (v := .bool (decide (d < d'))) (w' := w) (by kernel_rfl) (by rw [hs]; decide) ?z91 ?z92
  case z91 => (intro o ho; obtain rfl := Option.some.inj ho; exact ⟨rfl, k_assign rfl (ev_tmp h64)⟩)
  case z92 =>
  intro a F0
  replace hs := F0.z.trans hs
  replace hd := F0.e.trans hd
  replace h5 := (F0.n 5 (by decide)).trans h5
  replace h6 := (F0.n 6 (by decide)).trans h6
  replace h7 := (F0.n 7 (by decide)).trans h7
  replace h8 := (F0.n 8 (by decide)).trans h8
  replace h11 := (F0.n 11 (by decide)).trans h11
  clear h64
  have h12 := F0.s
  clear F0
  exact hR a hs hd h5 h6 h7 h8 h11 h12

set_option maxRecDepth 100000 in
set_option maxHeartbeats 1000000 in
theorem regOrd11_gt (a : Act) (w : World) (Q : Exit → Act → World → Prop) (b5 b6 b7 b8 : Nat) (n d n' d' : Int) (q11 : Value) (df : List _) (hd : a.defers = df) (hs : a.tmps.size = 148) (h5 : a.tmps.getD 5 undef = .pointer (some ⟨b5, 0, none⟩)) (h6 : a.tmps.getD 6 undef = .pointer (some ⟨b6, 0, none⟩)) (h7 : a.tmps.getD 7 undef = .pointer (some ⟨b7, 0, none⟩)) (h8 : a.tmps.getD 8 undef = .pointer (some ⟨b8, 0, none⟩)) (h11 : a.tmps.getD 11 undef = q11)
    (B5 : Blk w b5 23 #[.int .i64 n, .int .i64 d]) (B6 : Blk w b6 23 #[.int .i64 n', .int .i64 d']) (g1 : decide (n < n') = false) (g2 : (n == n') = false)
    (hR : ∀ (a' : Act), a'.tmps.size = 148 → a'.defers = df → a'.tmps.getD 5 undef = .pointer (some ⟨b5, 0, none⟩) → a'.tmps.getD 6 undef = .pointer (some ⟨b6, 0, none⟩) → a'.tmps.getD 7 undef = .pointer (some ⟨b7, 0, none⟩) → a'.tmps.getD 8 undef = .pointer (some ⟨b8, 0, none⟩) → a'.tmps.getD 11 undef = q11 → a'.tmps.getD 12 undef = .bool false → Q .normal a' w) :
    (Code.region 11 ord11 false).wp Tryd.prog Q a w := by
  conv => arg 2; arg 2; whnf
  refine wp_region (show wpOps _ _ _ [0, 1, 2, 3, 4, 5, 6, 7, 8, 9, 10, 11, 12, 13, 14, 15, 16, 17, 18, 19] _ _ from ?_)
  refine opL 0 46 (v := .pointer (some ⟨b5, 0, none⟩)) (w' := w) (by kernel_rfl) (by rw [hs]; decide) ?z93 ?z94
  case z93 => (intro o ho; obtain rfl := Option.some.inj ho; exact ⟨rfl, k_fieldNth0 rfl (ev_tmp h5)⟩)
  case z94 =>
  intro a F0
  replace hs := F0.z.trans hs
  replace hd := F0.e.trans hd
  replace h5 := (F0.n 5 (by decide)).trans h5
  replace h6 := (F0.n 6 (by decide)).trans h6
  replace h7 := (F0.n 7 (by decide)).trans h7
  replace h8 := (F0.n 8 (by decide)).trans h8
  replace h11 := (F0.n 11 (by decide)).trans h11
  have h46 := F0.s
  clear F0
  refine opL 1 47 (v := .int .i64 n) (w' := w) (by kernel_rfl) (by rw [hs]; decide) ?z95 ?z96
  case z95 => (intro o ho; obtain rfl := Option.some.inj ho; exact ⟨rfl, k_loadI rfl (ev_tmp h46) (B5.cell 0)⟩)
  case z96 =>
  intro a F0
  replace hs := F0.z.trans hs
  replace hd := F0.e.trans hd
  replace h5 := (F0.n 5 (by decide)).trans h5
  replace h6 := (F0.n 6 (by decide)).trans h6
  replace h7 := (F0.n 7 (by decide)).trans h7
  replace h8 := (F0.n 8 (by decide)).trans h8
  replace h11 := (F0.n 11 (by decide)).trans h11
  clear h46
  have h47 := F0.s
  clear F0
  refine opL 2 48 (v := .pointer (some ⟨b6, 0, none⟩)) (w' := w) (by kernel_rfl) (by rw [hs]; decide) ?z97 ?z98
  case z97 => (intro o ho; obtain rfl := Option.some.inj ho; exact ⟨rfl, k_fieldNth0 rfl (ev_tmp h6)⟩)
  case z98 =>
  intro a F0
  replace hs := F0.z.trans hs
  replace hd := F0.e.trans hd
  replace h5 := (F0.n 5 (by decide)).trans h5
  replace h6 := (F0.n 6 (by decide)).trans h6
  replace h7 := (F0.n 7 (by decide)).trans h7
  replace h8 := (F0.n 8 (by decide)).trans h8
  replace h11 := (F0.n 11 (by decide)).trans h11
  replace h47 := (F0.n 47 (by decide)).trans h47
  have h48 := F0.s
  clear F0
  refine opL 3 49 (v := .int .i64 n') (w' := w) (by kernel_rfl) (by rw [hs]; decide) ?z99 ?z100
  case z99 => (intro o ho; obtain rfl := Option.some.inj ho; exact ⟨rfl, k_loadI rfl (ev_tmp h48) (B6.cell 0)⟩)
  case z100 =>
  intro a F0
  replace hs := F0.z.trans hs
  replace hd := F0.e.trans hd
  replace h5 := (F0.n 5 (by decide)).trans h5
  replace h6 := (F0.n 6 (by decide)).trans h6
  replace h7 := (F0.n 7 (by decide)).trans h7
  replace h8 := (F0.n 8 (by decide)).trans h8
  replace h11 := (F0.n 11 (by decide)).trans h11
  replace h47 := (F0.n 47 (by decide)).trans h47
  clear h48
  have h49 := F0.s
  clear F0
  refine opL 4 50 (v := .bool false) (w' := w) (by kernel_rfl) (by rw [hs]; decide) ?z101 ?z102
  case z101 => (intro o ho; obtain rfl := Option.some.inj ho; exact ⟨rfl, o_ltI rfl (ev_tmp h47) (ev_tmp h49) g1⟩)
  case z102 =>
  intro a F0
  replace hs := F0.z.trans hs
  replace hd := F0.e.trans hd
  replace h5 := (F0.n 5 (by decide)).trans h5
  replace h6 := (F0.n 6 (by decide)).trans h6
  replace h7 := (F0.n 7 (by decide)).trans h7
  replace h8 := (F0.n 8 (by decide)).trans h8
  replace h11 := (F0.n 11 (by decide)).trans h11
  clear h47
  clear h49
  have h50 := F0.s
  clear F0
  refine opL 5 51 (v := .bool false) (w' := w) (by kernel_rfl) (by rw [hs]; decide) ?z103 ?z104
  case z103 => (intro o ho; obtain rfl := Option.some.inj ho; exact ⟨rfl, k_move rfl (ev_tmp h50)⟩)
  case z104 =>
  intro a F0
  replace hs := F0.z.trans hs
  replace hd := F0.e.trans hd
  replace h5 := (F0.n 5 (by decide)).trans h5
  replace h6 := (F0.n 6 (by decide)).trans h6
  replace h7 := (F0.n 7 (by decide)).trans h7
  replace h8 := (F0.n 8 (by decide)).trans h8
  replace h11 := (F0.n 11 (by decide)).trans h11
  clear h50
  have h51 := F0.s
  clear F0
  refine opL 6 52 (v := .pointer (some ⟨b5, 0, none⟩)) (w' := w) (by kernel_rfl) (by rw [hs]; decide) ?z105 ?z106
  case z105 => (intro o ho; obtain rfl := Option.some.inj ho; exact ⟨wanted_at (b := false) (want := false) rfl (by kernel_rfl) h51, k_fieldNth0 rfl (ev_tmp h5)⟩)
  case z106 =>
  intro a F0
  replace hs := F0.z.trans hs
  replace hd := F0.e.trans hd
  replace h5 := (F0.n 5 (by decide)).trans h5
  replace h6 := (F0.n 6 (by decide)).trans h6
  replace h7 := (F0.n 7 (by decide)).trans h7
  replace h8 := (F0.n 8 (by decide)).trans h8
  replace h11 := (F0.n 11 (by decide)).trans h11
  replace h51 := (F0.n 51 (by decide)).trans h51
  have h52 := F0.s
  clear F0
  refine opL 7 53 (v := .int .i64 n) (w' := w) (by kernel_rfl) (by rw [hs]; decide) ?z107 ?z108
  case z107 => (intro o ho; obtain rfl := Option.some.inj ho; exact ⟨wanted_at (b := false) (want := false) rfl (by kernel_rfl) h51, k_loadI rfl (ev_tmp h52) (B5.cell 0)⟩)
  case z108 =>
  intro a F0
  replace hs := F0.z.trans hs
  replace hd := F0.e.trans hd
  replace h5 := (F0.n 5 (by decide)).trans h5
  replace h6 := (F0.n 6 (by decide)).trans h6
  replace h7 := (F0.n 7 (by decide)).trans h7
  replace h8 := (F0.n 8 (by decide)).trans h8
  replace h11 := (F0.n 11 (by decide)).trans h11
  replace h51 := (F0.n 51 (by decide)).trans h51
  clear h52
  have h53 := F0.s
  clear F0
  refine opL 8 54 (v := .pointer (some ⟨b6, 0, none⟩)) (w' := w) (by kernel_rfl) (by rw [hs]; decide) ?z109 ?z110
  case z109 => (intro o ho; obtain rfl := Option.some.inj ho; exact ⟨wanted_at (b := false) (want := false) rfl (by kernel_rfl) h51, k_fieldNth0 rfl (ev_tmp h6)⟩)
  case z110 =>
  intro a F0
  replace hs := F0.z.trans hs
  replace hd := F0.e.trans hd
  replace h5 := (F0.n 5 (by decide)).trans h5
  replace h6 := (F0.n 6 (by decide)).trans h6
  replace h7 := (F0.n 7 (by decide)).trans h7
  replace h8 := (F0.n 8 (by decide)).trans h8
  replace h11 := (F0.n 11 (by decide)).trans h11
  replace h51 := (F0.n 51 (by decide)).trans h51
  replace h53 := (F0.n 53 (by decide)).trans h53
  have h54 := F0.s
  clear F0
  refine opL 9 55 (v := .int .i64 n') (w' := w) (by kernel_rfl) (by rw [hs]; decide) ?z111 ?z112
  case z111 => (intro o ho; obtain rfl := Option.some.inj ho; exact ⟨wanted_at (b := false) (want := false) rfl (by kernel_rfl) h51, k_loadI rfl (ev_tmp h54) (B6.cell 0)⟩)
  case z112 =>
  intro a F0
  replace hs := F0.z.trans hs
  replace hd := F0.e.trans hd
  replace h5 := (F0.n 5 (by decide)).trans h5
  replace h6 := (F0.n 6 (by decide)).trans h6
  replace h7 := (F0.n 7 (by decide)).trans h7
  replace h8 := (F0.n 8 (by decide)).trans h8
  replace h11 := (F0.n 11 (by decide)).trans h11
  replace h51 := (F0.n 51 (by decide)).trans h51
  replace h53 := (F0.n 53 (by decide)).trans h53
  clear h54
  have h55 := F0.s
  clear F0
  refine opL 10 56 (v := .bool false) (w' := w) (by kernel_rfl) (by rw [hs]; decide) ?z113 ?z114
  case z113 => (intro o ho; obtain rfl := Option.some.inj ho; exact ⟨wanted_at (b := false) (want := false) rfl (by kernel_rfl) h51, o_eqI rfl (ev_tmp h53) (ev_tmp h55) g2⟩)
  case z114 =>
  intro a F0
  replace hs := F0.z.trans hs
  replace hd := F0.e.trans hd
  replace h5 := (F0.n 5 (by decide)).trans h5
  replace h6 := (F0.n 6 (by decide)).trans h6
  replace h7 := (F0.n 7 (by decide)).trans h7
  replace h8 := (F0.n 8 (by decide)).trans h8
  replace h11 := (F0.n 11 (by decide)).trans h11
  replace h51 := (F0.n 51 (by decide)).trans h51
  clear h53
  clear h55
  have h56 := F0.s
  clear F0
  refine opL 11 57 (v := .bool false) (w' := w) (by kernel_rfl) (by rw [hs]; decide) ?z115 ?z116
  case z115 => (intro o ho; obtain rfl := Option.some.inj ho; exact ⟨wanted_at (b := false) (want := false) rfl (by kernel_rfl) h51, k_move rfl (ev_tmp h56)⟩)
  case z116 =>
  intro a F0
  replace hs := F0.z.trans hs
  replace hd := F0.e.trans hd
  replace h5 := (F0.n 5 (by decide)).trans h5
  replace h6 := (F0.n 6 (by decide)).trans h6
  replace h7 := (F0.n 7 (by decide)).trans h7
  replace h8 := (F0.n 8 (by decide)).trans h8
  replace h11 := (F0.n 11 (by decide)).trans h11
  replace h51 := (F0.n 51 (by decide)).trans h51
  clear h56
  have h57 := F0.s
  clear F0
  refine opL_not 12 58 (by kernel_rfl) (by rw [hs]; decide) ?z117 ?z118
  case z117 => (intro o ho; obtain rfl := Option.some.inj ho; exact wanted_at (b := false) (want := true) rfl (by kernel_rfl) h57)
  case z118 =>
  intro a F0
  replace hs := F0.z.trans hs
  replace hd := F0.e.trans hd
  replace h5 := (F0.n 5 (by decide)).trans h5
  replace h6 := (F0.n 6 (by decide)).trans h6
  replace h7 := (F0.n 7 (by decide)).trans h7
  replace h8 := (F0.n 8 (by decide)).trans h8
  replace h11 := (F0.n 11 (by decide)).trans h11
  replace h51 := (F0.n 51 (by decide)).trans h51
  replace h57 := (F0.n 57 (by decide)).trans h57
  have h58 := F0.s
  clear F0
  refine opL_not 13 59 (by kernel_rfl) (by rw [hs]; decide) ?z119 ?z120
  case z119 => (intro o ho; obtain rfl := Option.some.inj ho; exact wanted_at (b := false) (want := true) rfl (by kernel_rfl) h57)
  case z120 =>
  intro a F0
  replace hs := F0.z.trans hs
  replace hd := F0.e.trans hd
  replace h5 := (F0.n 5 (by decide)).trans h5
  replace h6 := (F0.n 6 (by decide)).trans h6
  replace h7 := (F0.n 7 (by decide)).trans h7
  replace h8 := (F0.n 8 (by decide)).trans h8
  replace h11 := (F0.n 11 (by decide)).trans h11
  replace h51 := (F0.n 51 (by decide)).trans h51
  replace h57 := (F0.n 57 (by decide)).trans h57
  clear h58
  have h59 := F0.s
  clear F0
  refine opL_not 14 60 (by kernel_rfl) (by rw [hs]; decide) ?z121 ?z122
  case z121 => (intro o ho; obtain rfl := Option.some.inj ho; exact wanted_at (b := false) (want := true) rfl (by kernel_rfl) h57)
  case z122 =>
  intro a F0
  replace hs := F0.z.trans hs
  replace hd := F0.e.trans hd
  replace h5 := (F0.n 5 (by decide)).trans h5
  replace h6 := (F0.n 6 (by decide)).trans h6
  replace h7 := (F0.n 7 (by decide)).trans h7
  replace h8 := (F0.n 8 (by decide)).trans h8
  replace h11 := (F0.n 11 (by decide)).trans h11
  replace h51 := (F0.n 51 (by decide)).trans h51
  replace h57 := (F0.n 57 (by decide)).trans h57
  replace h59 := (F0.n 59 (by decide)).trans h59
  have h60 := F0.s
  clear F0
  refine opL_not 15 61 (by kernel_rfl) (by rw [hs]; decide) ?z123 ?z124
  case z123 => (intro o ho; obtain rfl := Option.some.inj ho; exact wanted_at (b := false) (want := true) rfl (by kernel_rfl) h57)
  case z124 =>
  intro a F0
  replace hs := F0.z.trans hs
  replace hd := F0.e.trans hd
  replace h5 := (F0.n 5 (by decide)).trans h5
  replace h6 := (F0.n 6 (by decide)).trans h6
  replace h7 := (F0.n 7 (by decide)).trans h7
  replace h8 := (F0.n 8 (by decide)).trans h8
  replace h11 := (F0.n 11 (by decide)).trans h11
  replace h51 := (F0.n 51 (by decide)).trans h51
  replace h57 := (F0.n 57 (by decide)).trans h57
  replace h59 := (F0.n 59 (by decide)).trans h59
  clear h60
  have h61 := F0.s
  clear F0
  refine opL_not 16 62 (by kernel_rfl) (by rw [hs]; decide) ?z125 ?z126
  case z125 => (intro o ho; obtain rfl := Option.some.inj ho; exact wanted_at (b := false) (want := true) rfl (by kernel_rfl) h57)
  case z126 =>
  intro a F0
  replace hs := F0.z.trans hs
  replace hd := F0.e.trans hd
  replace h5 := (F0.n 5 (by decide)).trans h5
  replace h6 := (F0.n 6 (by decide)).trans h6
  replace h7 := (F0.n 7 (by decide)).trans h7
  replace h8 := (F0.n 8 (by decide)).trans h8
  replace h11 := (F0.n 11 (by decide)).trans h11
  replace h51 := (F0.n 51 (by decide)).trans h51
  replace h57 := (F0.n 57 (by decide)).trans h57
  clear h59
  clear h61
  have h62 := F0.s
  clear F0
  refine opL 17 63 (v := .bool false) (w' := w) (by kernel_rfl) (by rw [hs]; decide) ?z127 ?z128
  case z127 => (intro o ho; obtain rfl := Option.some.inj ho; exact ⟨wanted_at (b := false) (want := false) rfl (by kernel_rfl) h51, k_pick_no rfl (ev_tmp h57) rfl⟩)
  case z128 =>
  intro a F0
  replace hs := F0.z.trans hs
  replace hd := F0.e.trans hd
  replace h5 := (F0.n 5 (by decide)).trans h5
  replace h6 := (F0.n 6 (by decide)).trans h6
  replace h7 := (F0.n 7 (by decide)).trans h7
  replace h8 := (F0.n 8 (by decide)).trans h8
  replace h11 := (F0.n 11 (by decide)).trans h11
  replace h51 := (F0.n 51 (by decide)).trans h51
  clear h57
  clear h62
  have h63 := F0.s
  clear F0
  refine opL 18 64 (v := .bool false) (w' := w) (by kernel_rfl) (by rw [hs]; decide) ?z129 ?z130
  case z129 => (intro o ho; obtain rfl := Option.some.inj ho; exact ⟨rfl, k_pick_no rfl (ev_tmp h51) (ev_tmp h63)⟩)
  case z130 =>
  intro a F0
  replace hs := F0.z.trans hs
  replace hd := F0.e.trans hd
  replace h5 := (F0.n 5 (by decide)).trans h5
  replace h6 := (F0.n 6 (by decide)).trans h6
  replace h7 := (F0.n 7 (by decide)).trans h7
  replace h8 := (F0.n 8 (by decide)).trans h8
  replace h11 := (F0.n 11 (by decide)).trans h11
  clear h51
  clear h63
  have h64 := F0.s
  clear F0
  refine opL 19 12 (v := .bool false) (w' := w) (by kernel_rfl) (by rw [hs]; decide) ?z131 ?z132
  case z131 => (intro o ho; obtain rfl := Option.some.inj ho; exact ⟨rfl, k_assign rfl (ev_tmp h64)⟩)
  case z132 =>
  intro a F0
  replace hs := F0.z.trans hs
  replace hd := F0.e.trans hd
  replace h5 := (F0.n 5 (by decide)).trans h5
  replace h6 := (F0.n 6 (by decide)).trans h6
  replace h7 := (F0.n 7 (by decide)).trans h7
  replace h8 := (F0.n 8 (by decide)).trans h8
  replace h11 := (F0.n 11 (by decide)).trans h11
  clear h64
  have h12 := F0.s
  clear F0
  exact hR a hs hd h5 h6 h7 h8 h11 h12

theorem regOrd11 (a : Act) (w : World) (Q : Exit → Act → World → Prop) (b5 b6 b7 b8 : Nat) (n d n' d' : Int) (q11 : Value) (df : List _) (hd : a.defers = df) (hs : a.tmps.size = 148) (h5 : a.tmps.getD 5 undef = .pointer (some ⟨b5, 0, none⟩)) (h6 : a.tmps.getD 6 undef = .pointer (some ⟨b6, 0, none⟩)) (h7 : a.tmps.getD 7 undef = .pointer (some ⟨b7, 0, none⟩)) (h8 : a.tmps.getD 8 undef = .pointer (some ⟨b8, 0, none⟩)) (h11 : a.tmps.getD 11 undef = q11)
    (B5 : Blk w b5 23 #[.int .i64 n, .int .i64 d]) (B6 : Blk w b6 23 #[.int .i64 n', .int .i64 d'])
    (hR : ∀ (a' : Act), a'.tmps.size = 148 → a'.defers = df → a'.tmps.getD 5 undef = .pointer (some ⟨b5, 0, none⟩) → a'.tmps.getD 6 undef = .pointer (some ⟨b6, 0, none⟩) → a'.tmps.getD 7 undef = .pointer (some ⟨b7, 0, none⟩) → a'.tmps.getD 8 undef = .pointer (some ⟨b8, 0, none⟩) → a'.tmps.getD 11 undef = q11 → a'.tmps.getD 12 undef = .bool (lessB n d n' d') → Q .normal a' w) :
    (Code.region 11 ord11 false).wp Tryd.prog Q a w := by
  cases g1 : decide (n < n')
  · cases g2 : (n == n')
    · exact regOrd11_gt a w Q b5 b6 b7 b8 n d n' d' q11 df hd hs h5 h6 h7 h8 h11 B5 B6 g1 g2 (fun a' e1 e2 e3 e4 e5 e6 e7 e8 => hR a' e1 e2 e3 e4 e5 e6 e7 (by rw [e8, lessB, g1, g2]; rfl))
    · exact regOrd11_eq a w Q b5 b6 b7 b8 n d n' d' q11 df hd hs h5 h6 h7 h8 h11 B5 B6 g1 g2 (fun a' e1 e2 e3 e4 e5 e6 e7 e8 => hR a' e1 e2 e3 e4 e5 e6 e7 (by rw [e8, lessB, g1, g2]; rfl))
  · exact regOrd11_lt a w Q b5 b6 b7 b8 n d n' d' q11 df hd hs h5 h6 h7 h8 h11 B5 B6 g1 (fun a' e1 e2 e3 e4 e5 e6 e7 e8 => hR a' e1 e2 e3 e4 e5 e6 e7 (by rw [e8, lessB, g1]; rfl))
end Go.Proofs.YtfhhlebadmkckaaDoor
