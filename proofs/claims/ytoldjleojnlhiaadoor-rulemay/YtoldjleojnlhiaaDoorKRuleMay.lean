/-
  The walk of the law RuleMay, out of the contracts.
-/
import Derived.Test.YtoldjleojnlhiaaDoorMayA
namespace Go.Proofs.YtoldjleojnlhiaaDoor
open Go.RowKit
set_option maxRecDepth 100000 in
set_option maxHeartbeats 1000000 in
theorem ruleMay_heavy (F I E C U : Int) (AM AD AW AP : Option Addr) (cM cD cW cP : Nat) (lm ld : List Int) (lw : List (Int × Int)) (lp : List Int) (what n p q : Int) (near : Bool) (w : World) (hM : Months w) (hX : XIn0 w F I E C U AM AD AW AP lm ld lw lp) (hlt : light lm ld lw lp = false) :
    Calls Tryd.prog 3 #[.agg #[.int .u8 F, .int .u8 I, .int .u8 E, .int .u16 C, .int .u32 U, .slice AM lm.length cM, .slice AD ld.length cD, .slice AW lw.length cW, .slice AP lp.length cP], .int .u8 what, .int .i64 n, .agg #[.int .i64 p, .int .i64 q], .bool near] w fun e w' => e = .returned (.bool true) ∧ Below w.heap.size w w' := by
  refine calls_of_wp Tryd.func3 (show Tryd.f3.body = some ruleMayBody from rfl) ?_
  generalize hA : (Act.mk (#[.agg #[.int .u8 F, .int .u8 I, .int .u8 E, .int .u16 C, .int .u32 U, .slice AM lm.length cM, .slice AD ld.length cD, .slice AW lw.length cW, .slice AP lp.length cP], .int .u8 what, .int .i64 n, .agg #[.int .i64 p, .int .i64 q], .bool near] ++ Array.replicate (Tryd.f3.ntmps - (#[.agg #[.int .u8 F, .int .u8 I, .int .u8 E, .int .u16 C, .int .u32 U, .slice AM lm.length cM, .slice AD ld.length cD, .slice AW lw.length cW, .slice AP lp.length cP], .int .u8 what, .int .i64 n, .agg #[.int .i64 p, .int .i64 q], .bool near] : Array Value).size) undef) []) = a
  have hs : a.tmps.size = 108 := by rw [← hA]; simp [Tryd.ntmps3]
  have hd : a.defers = [] := by rw [← hA]
  have h0 : a.tmps.getD 0 undef = .agg #[.int .u8 F, .int .u8 I, .int .u8 E, .int .u16 C, .int .u32 U, .slice AM lm.length cM, .slice AD ld.length cD, .slice AW lw.length cW, .slice AP lp.length cP] := by rw [← hA]; simp
  have h1 : a.tmps.getD 1 undef = .int .u8 what := by rw [← hA]; simp
  have h2 : a.tmps.getD 2 undef = .int .i64 n := by rw [← hA]; simp
  have h3 : a.tmps.getD 3 undef = .agg #[.int .i64 p, .int .i64 q] := by rw [← hA]; simp
  have h4 : a.tmps.getD 4 undef = .bool near := by rw [← hA]; simp
  clear hA
  refine Code.wp_mono NoPanic.imp ?_
  have hQ : Blind (NoPanic (bodyPost Tryd.prog Tryd.f3 fun e w' => e = .returned (.bool true) ∧ Below w.heap.size w w')) := fun _ _ _ _ q => q.elim
  have hfin : ∀ (a' : Act) (w' : World), a'.defers = [] → a'.tmps.getD 10 undef = .bool true → Below w.heap.size w w' → NoPanic (bodyPost Tryd.prog Tryd.f3 fun e w' => e = .returned (.bool true) ∧ Below w.heap.size w w') .ret a' w' := by
    intro a' w' k1 k2 k3
    exact ⟨k1, _, results_tmp rfl _ _ _, by rw [k2], k3⟩
  generalize NoPanic (bodyPost Tryd.prog Tryd.f3 fun e w' => e = .returned (.bool true) ∧ Below w.heap.size w w') = Q at hQ hfin
  unfold ruleMayBody
  conv => arg 2; whnf
  refine wp_seq ?_
  refine wp_region (show wpOps _ _ _ [0, 1, 2] _ _ from ?_)
  refine opL 0 5 (v := .pointer (some ⟨w.heap.size, 0, none⟩)) (w' := (w.alloc (.cells #[.int .u8 F, .int .u8 I, .int .u8 E, .int .u16 C, .int .u32 U, .slice AM lm.length cM, .slice AD ld.length cD, .slice AW lw.length cW, .slice AP lp.length cP] 29))) (by kernel_rfl) (by rw [hs]; decide) ?z1 ?z2
  case z1 => (intro o ho; obtain rfl := Option.some.inj ho; exact ⟨rfl, k_box9 rfl (ev_tmp h0)⟩)
  case z2 =>
  intro a F0
  replace hs := F0.z.trans hs
  replace hd := F0.e.trans hd
  clear h0
  replace h1 := (F0.n 1 (by decide)).trans h1
  replace h2 := (F0.n 2 (by decide)).trans h2
  replace h3 := (F0.n 3 (by decide)).trans h3
  replace h4 := (F0.n 4 (by decide)).trans h4
  have h5 := F0.s
  clear F0
  obtain ⟨wx, hwx⟩ : ∃ wn, wn = w.alloc (.cells #[.int .u8 F, .int .u8 I, .int .u8 E, .int .u16 C, .int .u32 U, .slice AM lm.length cM, .slice AD ld.length cD, .slice AW lw.length cW, .slice AP lp.length cP] 29) := ⟨_, rfl⟩
  rw [← hwx]
  have qx : Blk wx w.heap.size 29 #[.int .u8 F, .int .u8 I, .int .u8 E, .int .u16 C, .int .u32 U, .slice AM lm.length cM, .slice AD ld.length cD, .slice AW lw.length cW, .slice AP lp.length cP] := by rw [hwx]; exact Blk.alloc _ _ _
  have lx : Below w.heap.size w wx := by rw [hwx]; exact (Below.refl _ _).alloc (Nat.le_refl _) _
  clear hwx
  refine opL 1 8 (v := .pointer (some ⟨wx.heap.size, 0, none⟩)) (w' := (wx.alloc (.cells #[.int .i64 p, .int .i64 q] 31))) (by kernel_rfl) (by rw [hs]; decide) ?z3 ?z4
  case z3 => (intro o ho; obtain rfl := Option.some.inj ho; exact ⟨rfl, k_boxN rfl (ev_tmp h3)⟩)
  case z4 =>
  intro a F0
  replace hs := F0.z.trans hs
  replace hd := F0.e.trans hd
  replace h1 := (F0.n 1 (by decide)).trans h1
  replace h2 := (F0.n 2 (by decide)).trans h2
  replace h3 := (F0.n 3 (by decide)).trans h3
  replace h4 := (F0.n 4 (by decide)).trans h4
  replace h5 := (F0.n 5 (by decide)).trans h5
  have h8 := F0.s
  clear F0
  obtain ⟨w1, hw8⟩ : ∃ wn, wn = wx.alloc (.cells #[.int .i64 p, .int .i64 q] 31) := ⟨_, rfl⟩
  rw [← hw8]
  have q8 : Blk w1 wx.heap.size 31 #[.int .i64 p, .int .i64 q] := by rw [hw8]; exact Blk.alloc _ _ _
  have l8 : Below wx.heap.size wx w1 := by rw [hw8]; exact (Below.refl _ _).alloc (Nat.le_refl _) _
  clear hw8
  have q1 := qx.below l8 qx.lt
  have l1 := lx.trans (l8.mono lx.size)
  have hwx := lx.size
  clear lx l8 qx
  refine opL 2 10 (v := .bool false) (w' := w1) (by kernel_rfl) (by rw [hs]; decide) ?z5 ?z6
  case z5 => (intro o ho; obtain rfl := Option.some.inj ho; exact ⟨rfl, k_assign rfl rfl⟩)
  case z6 =>
  intro a F0
  replace hs := F0.z.trans hs
  replace hd := F0.e.trans hd
  replace h1 := (F0.n 1 (by decide)).trans h1
  replace h2 := (F0.n 2 (by decide)).trans h2
  replace h3 := (F0.n 3 (by decide)).trans h3
  replace h4 := (F0.n 4 (by decide)).trans h4
  replace h5 := (F0.n 5 (by decide)).trans h5
  replace h8 := (F0.n 8 (by decide)).trans h8
  have h10 := F0.s
  clear F0
  refine wp_seq ?_
  refine wp_seq ?_
  refine wp_region (show wpOps _ _ _ [0, 1] _ _ from ?_)
  refine opL_call 0 12 (f := 9) (args := #[]) (R := fun v w' => v = .bool true ∧ Below w1.heap.size w1 w') (by kernel_rfl) (by rw [hs]; decide) ?z7 (awake2' w1 (hM.grown l1)) ?z8
  case z7 => (intro o ho; obtain rfl := Option.some.inj ho; exact ⟨rfl, k_callAwake rfl rfl⟩)
  case z8 =>
  rintro _ w2 a ⟨rfl, l2⟩ F0
  replace hs := F0.z.trans hs
  replace hd := F0.e.trans hd
  replace h1 := (F0.n 1 (by decide)).trans h1
  replace h2 := (F0.n 2 (by decide)).trans h2
  replace h3 := (F0.n 3 (by decide)).trans h3
  replace h4 := (F0.n 4 (by decide)).trans h4
  replace h5 := (F0.n 5 (by decide)).trans h5
  replace h8 := (F0.n 8 (by decide)).trans h8
  replace h10 := (F0.n 10 (by decide)).trans h10
  have h12 := F0.s
  clear F0
  replace q8 := q8.below l2 q8.lt
  replace q1 := q1.below l2 q1.lt
  have m2 := l1.trans (l2.mono l1.size)
  clear l1 l2
  refine opL 1 13 (v := .bool false) (w' := w2) (by kernel_rfl) (by rw [hs]; decide) ?z9 ?z10
  case z9 => (intro o ho; obtain rfl := Option.some.inj ho; exact ⟨rfl, o_not rfl (ev_tmp h12) rfl⟩)
  case z10 =>
  intro a F0
  replace hs := F0.z.trans hs
  replace hd := F0.e.trans hd
  replace h1 := (F0.n 1 (by decide)).trans h1
  replace h2 := (F0.n 2 (by decide)).trans h2
  replace h3 := (F0.n 3 (by decide)).trans h3
  replace h4 := (F0.n 4 (by decide)).trans h4
  replace h5 := (F0.n 5 (by decide)).trans h5
  replace h8 := (F0.n 8 (by decide)).trans h8
  replace h10 := (F0.n 10 (by decide)).trans h10
  clear h12
  have h13 := F0.s
  clear F0
  refine wp_cond_false (ev_tmp h13) ?_
  refine wp_skip ?_
  refine wp_seq ?_
  refine wp_seq ?_
  refine wp_region (show wpOps _ _ _ [0, 1, 2] _ _ from ?_)
  refine opL 0 14 (v := .agg #[.int .u8 F, .int .u8 I, .int .u8 E, .int .u16 C, .int .u32 U, .slice AM lm.length cM, .slice AD ld.length cD, .slice AW lw.length cW, .slice AP lp.length cP]) (w' := w2) (by kernel_rfl) (by rw [hs]; decide) ?z11 ?z12
  case z11 => (intro o ho; obtain rfl := Option.some.inj ho; exact ⟨rfl, k_load9 rfl (ev_tmp h5) q1⟩)
  case z12 =>
  intro a F0
  replace hs := F0.z.trans hs
  replace hd := F0.e.trans hd
  replace h1 := (F0.n 1 (by decide)).trans h1
  replace h2 := (F0.n 2 (by decide)).trans h2
  replace h3 := (F0.n 3 (by decide)).trans h3
  replace h4 := (F0.n 4 (by decide)).trans h4
  replace h5 := (F0.n 5 (by decide)).trans h5
  replace h8 := (F0.n 8 (by decide)).trans h8
  replace h10 := (F0.n 10 (by decide)).trans h10
  replace h13 := (F0.n 13 (by decide)).trans h13
  have h14 := F0.s
  clear F0
  refine opL_call 1 15 (f := 10) (args := #[.agg #[.int .u8 F, .int .u8 I, .int .u8 E, .int .u16 C, .int .u32 U, .slice AM lm.length cM, .slice AD ld.length cD, .slice AW lw.length cW, .slice AP lp.length cP]]) (R := fun v w' => v = .bool (light lm ld lw lp) ∧ Below w2.heap.size w2 w') (by kernel_rfl) (by rw [hs]; decide) ?z13 (light_any _ _ _ _ _ AM AD AW AP cM cD cW cP lm ld lw lp w2 hX.lm1 hX.ld1 hX.lw1 hX.lp1) ?z14
  case z13 => (intro o ho; obtain rfl := Option.some.inj ho; exact ⟨rfl, c_Light rfl rfl (ev_tmp h14)⟩)
  case z14 =>
  rintro _ w3 a ⟨rfl, l3⟩ F0
  rw [hlt] at F0
  replace hs := F0.z.trans hs
  replace hd := F0.e.trans hd
  replace h1 := (F0.n 1 (by decide)).trans h1
  replace h2 := (F0.n 2 (by decide)).trans h2
  replace h3 := (F0.n 3 (by decide)).trans h3
  replace h4 := (F0.n 4 (by decide)).trans h4
  replace h5 := (F0.n 5 (by decide)).trans h5
  replace h8 := (F0.n 8 (by decide)).trans h8
  replace h10 := (F0.n 10 (by decide)).trans h10
  replace h13 := (F0.n 13 (by decide)).trans h13
  clear h14
  have h15 := F0.s
  clear F0
  replace q8 := q8.below l3 q8.lt
  replace q1 := q1.below l3 q1.lt
  have m3 := m2.trans (l3.mono m2.size)
  clear m2 l3
  refine opL 2 16 (v := .bool true) (w' := w3) (by kernel_rfl) (by rw [hs]; decide) ?z15 ?z16
  case z15 => (intro o ho; obtain rfl := Option.some.inj ho; exact ⟨rfl, o_not rfl (ev_tmp h15) rfl⟩)
  case z16 =>
  intro a F0
  replace hs := F0.z.trans hs
  replace hd := F0.e.trans hd
  replace h1 := (F0.n 1 (by decide)).trans h1
  replace h2 := (F0.n 2 (by decide)).trans h2
  replace h3 := (F0.n 3 (by decide)).trans h3
  replace h4 := (F0.n 4 (by decide)).trans h4
  replace h5 := (F0.n 5 (by decide)).trans h5
  replace h8 := (F0.n 8 (by decide)).trans h8
  replace h10 := (F0.n 10 (by decide)).trans h10
  replace h13 := (F0.n 13 (by decide)).trans h13
  clear h15
  have h16 := F0.s
  clear F0
  refine wp_cond_true (ev_tmp h16) ?_
  refine wp_seq ?_
  refine wp_region (show wpOps _ _ _ [0] _ _ from ?_)
  refine opL 0 10 (v := .bool true) (w' := w3) (by kernel_rfl) (by rw [hs]; decide) ?z17 ?z18
  case z17 => (intro o ho; obtain rfl := Option.some.inj ho; exact ⟨rfl, k_assign rfl rfl⟩)
  case z18 =>
  intro a F0
  replace hs := F0.z.trans hs
  replace hd := F0.e.trans hd
  replace h1 := (F0.n 1 (by decide)).trans h1
  replace h2 := (F0.n 2 (by decide)).trans h2
  replace h3 := (F0.n 3 (by decide)).trans h3
  replace h4 := (F0.n 4 (by decide)).trans h4
  replace h5 := (F0.n 5 (by decide)).trans h5
  replace h8 := (F0.n 8 (by decide)).trans h8
  clear h10
  replace h13 := (F0.n 13 (by decide)).trans h13
  replace h16 := (F0.n 16 (by decide)).trans h16
  have h10 := F0.s
  clear F0
  refine wp_ret ?_
  exact hfin a w3 hd h10 m3

set_option maxRecDepth 100000 in
set_option maxHeartbeats 2000000 in
theorem ruleMay_light (F I E C U : Int) (AM AD AW AP : Option Addr) (cM cD cW cP : Nat) (lm ld : List Int) (lw : List (Int × Int)) (lp : List Int) (what n p q : Int) (near : Bool) (w : World) (hM : Months w) (hX : XIn0 w F I E C U AM AD AW AP lm ld lw lp) (hwh : 0 ≤ what ∧ what ≤ 255) (hlt : light lm ld lw lp = true) :
    Calls Tryd.prog 3 #[.agg #[.int .u8 F, .int .u8 I, .int .u8 E, .int .u16 C, .int .u32 U, .slice AM lm.length cM, .slice AD ld.length cD, .slice AW lw.length cW, .slice AP lp.length cP], .int .u8 what, .int .i64 n, .agg #[.int .i64 p, .int .i64 q], .bool near] w fun e w' => e = .returned (.bool true) ∧ Below w.heap.size w w' := by
  have ll : lm.length ≤ 20 ∧ ld.length ≤ 20 ∧ lw.length ≤ 20 ∧ lp.length ≤ 20 := by simpa [light] using hlt
  obtain ⟨k1, k2, k3, k4, k5, k6, k7, k8, k9, k10, k11, k12, k13, k14⟩ := make_ok (hX.full hlt) (by omega) (by omega) (by omega) (by omega)
  have ck0 : Rul.check (F.tmod 4) (Mk.iv I) (Mk.cnt E C) (Mk.unt E U) (Mk.mon lm) (Mk.D F ld) ((Mk.W F lw).map (·.1)) (Mk.P F lm ld lw lp) = 0 := by
    have b3 : Rul.lists (F.tmod 4) (Mk.mon lm) (Mk.D F ld) ((Mk.W F lw).map (·.1)) (Mk.P F lm ld lw lp) = 0 := by
      simp only [Rul.lists, k1.chk k5, k2.chk k6, k3.chk k7, k4.chk k8]
      rfl
    unfold Rul.check Rul.nums
    rw [k9, k12, k13, b3, odd_no k10 k11]
    rfl
  have hlen3 : (Mk.mon lm).length ≤ 1000 ∧ (Mk.D F ld).length ≤ 1000 ∧ ((Mk.W F lw).map (·.1)).length ≤ 1000 := ⟨Nat.le_trans k5 (by decide), Nat.le_trans k6 (by decide), Nat.le_trans k7 (by decide)⟩
  clear k1 k2 k3 k4 k9 k10 k11 k12 k13 k14
  refine calls_of_wp Tryd.func3 (show Tryd.f3.body = some ruleMayBody from rfl) ?_
  generalize hA : (Act.mk (#[.agg #[.int .u8 F, .int .u8 I, .int .u8 E, .int .u16 C, .int .u32 U, .slice AM lm.length cM, .slice AD ld.length cD, .slice AW lw.length cW, .slice AP lp.length cP], .int .u8 what, .int .i64 n, .agg #[.int .i64 p, .int .i64 q], .bool near] ++ Array.replicate (Tryd.f3.ntmps - (#[.agg #[.int .u8 F, .int .u8 I, .int .u8 E, .int .u16 C, .int .u32 U, .slice AM lm.length cM, .slice AD ld.length cD, .slice AW lw.length cW, .slice AP lp.length cP], .int .u8 what, .int .i64 n, .agg #[.int .i64 p, .int .i64 q], .bool near] : Array Value).size) undef) []) = a
  have hs : a.tmps.size = 108 := by rw [← hA]; simp [Tryd.ntmps3]
  have hd : a.defers = [] := by rw [← hA]
  have h0 : a.tmps.getD 0 undef = .agg #[.int .u8 F, .int .u8 I, .int .u8 E, .int .u16 C, .int .u32 U, .slice AM lm.length cM, .slice AD ld.length cD, .slice AW lw.length cW, .slice AP lp.length cP] := by rw [← hA]; simp
  have h1 : a.tmps.getD 1 undef = .int .u8 what := by rw [← hA]; simp
  have h2 : a.tmps.getD 2 undef = .int .i64 n := by rw [← hA]; simp
  have h3 : a.tmps.getD 3 undef = .agg #[.int .i64 p, .int .i64 q] := by rw [← hA]; simp
  have h4 : a.tmps.getD 4 undef = .bool near := by rw [← hA]; simp
  clear hA
  refine Code.wp_mono NoPanic.imp ?_
  have hQ : Blind (NoPanic (bodyPost Tryd.prog Tryd.f3 fun e w' => e = .returned (.bool true) ∧ Below w.heap.size w w')) := fun _ _ _ _ q => q.elim
  have hfin : ∀ (a' : Act) (w' : World), a'.defers = [] → a'.tmps.getD 10 undef = .bool true → Below w.heap.size w w' → NoPanic (bodyPost Tryd.prog Tryd.f3 fun e w' => e = .returned (.bool true) ∧ Below w.heap.size w w') .ret a' w' := by
    intro a' w' k1 k2 k3
    exact ⟨k1, _, results_tmp rfl _ _ _, by rw [k2], k3⟩
  generalize NoPanic (bodyPost Tryd.prog Tryd.f3 fun e w' => e = .returned (.bool true) ∧ Below w.heap.size w w') = Q at hQ hfin
  unfold ruleMayBody
  conv => arg 2; whnf
  refine wp_seq ?_
  refine wp_region (show wpOps _ _ _ [0, 1, 2] _ _ from ?_)
  refine opL 0 5 (v := .pointer (some ⟨w.heap.size, 0, none⟩)) (w' := (w.alloc (.cells #[.int .u8 F, .int .u8 I, .int .u8 E, .int .u16 C, .int .u32 U, .slice AM lm.length cM, .slice AD ld.length cD, .slice AW lw.length cW, .slice AP lp.length cP] 29))) (by kernel_rfl) (by rw [hs]; decide) ?z19 ?z20
  case z19 => (intro o ho; obtain rfl := Option.some.inj ho; exact ⟨rfl, k_box9 rfl (ev_tmp h0)⟩)
  case z20 =>
  intro a F0
  replace hs := F0.z.trans hs
  replace hd := F0.e.trans hd
  clear h0
  replace h1 := (F0.n 1 (by decide)).trans h1
  replace h2 := (F0.n 2 (by decide)).trans h2
  replace h3 := (F0.n 3 (by decide)).trans h3
  replace h4 := (F0.n 4 (by decide)).trans h4
  have h5 := F0.s
  clear F0
  obtain ⟨wx, hwx⟩ : ∃ wn, wn = w.alloc (.cells #[.int .u8 F, .int .u8 I, .int .u8 E, .int .u16 C, .int .u32 U, .slice AM lm.length cM, .slice AD ld.length cD, .slice AW lw.length cW, .slice AP lp.length cP] 29) := ⟨_, rfl⟩
  rw [← hwx]
  have qx : Blk wx w.heap.size 29 #[.int .u8 F, .int .u8 I, .int .u8 E, .int .u16 C, .int .u32 U, .slice AM lm.length cM, .slice AD ld.length cD, .slice AW lw.length cW, .slice AP lp.length cP] := by rw [hwx]; exact Blk.alloc _ _ _
  have lx : Below w.heap.size w wx := by rw [hwx]; exact (Below.refl _ _).alloc (Nat.le_refl _) _
  clear hwx
  refine opL 1 8 (v := .pointer (some ⟨wx.heap.size, 0, none⟩)) (w' := (wx.alloc (.cells #[.int .i64 p, .int .i64 q] 31))) (by kernel_rfl) (by rw [hs]; decide) ?z21 ?z22
  case z21 => (intro o ho; obtain rfl := Option.some.inj ho; exact ⟨rfl, k_boxN rfl (ev_tmp h3)⟩)
  case z22 =>
  intro a F0
  replace hs := F0.z.trans hs
  replace hd := F0.e.trans hd
  replace h1 := (F0.n 1 (by decide)).trans h1
  replace h2 := (F0.n 2 (by decide)).trans h2
  replace h3 := (F0.n 3 (by decide)).trans h3
  replace h4 := (F0.n 4 (by decide)).trans h4
  replace h5 := (F0.n 5 (by decide)).trans h5
  have h8 := F0.s
  clear F0
  obtain ⟨w1, hw8⟩ : ∃ wn, wn = wx.alloc (.cells #[.int .i64 p, .int .i64 q] 31) := ⟨_, rfl⟩
  rw [← hw8]
  have q8 : Blk w1 wx.heap.size 31 #[.int .i64 p, .int .i64 q] := by rw [hw8]; exact Blk.alloc _ _ _
  have l8 : Below wx.heap.size wx w1 := by rw [hw8]; exact (Below.refl _ _).alloc (Nat.le_refl _) _
  clear hw8
  have q1 := qx.below l8 qx.lt
  have l1 := lx.trans (l8.mono lx.size)
  have hwx := lx.size
  clear lx l8 qx
  refine opL 2 10 (v := .bool false) (w' := w1) (by kernel_rfl) (by rw [hs]; decide) ?z23 ?z24
  case z23 => (intro o ho; obtain rfl := Option.some.inj ho; exact ⟨rfl, k_assign rfl rfl⟩)
  case z24 =>
  intro a F0
  replace hs := F0.z.trans hs
  replace hd := F0.e.trans hd
  replace h1 := (F0.n 1 (by decide)).trans h1
  replace h2 := (F0.n 2 (by decide)).trans h2
  replace h3 := (F0.n 3 (by decide)).trans h3
  replace h4 := (F0.n 4 (by decide)).trans h4
  replace h5 := (F0.n 5 (by decide)).trans h5
  replace h8 := (F0.n 8 (by decide)).trans h8
  have h10 := F0.s
  clear F0
  refine wp_seq ?_
  refine wp_seq ?_
  refine wp_region (show wpOps _ _ _ [0, 1] _ _ from ?_)
  refine opL_call 0 12 (f := 9) (args := #[]) (R := fun v w' => v = .bool true ∧ Below w1.heap.size w1 w') (by kernel_rfl) (by rw [hs]; decide) ?z25 (awake2' w1 (hM.grown l1)) ?z26
  case z25 => (intro o ho; obtain rfl := Option.some.inj ho; exact ⟨rfl, k_callAwake rfl rfl⟩)
  case z26 =>
  rintro _ w2 a ⟨rfl, l2⟩ F0
  replace hs := F0.z.trans hs
  replace hd := F0.e.trans hd
  replace h1 := (F0.n 1 (by decide)).trans h1
  replace h2 := (F0.n 2 (by decide)).trans h2
  replace h3 := (F0.n 3 (by decide)).trans h3
  replace h4 := (F0.n 4 (by decide)).trans h4
  replace h5 := (F0.n 5 (by decide)).trans h5
  replace h8 := (F0.n 8 (by decide)).trans h8
  replace h10 := (F0.n 10 (by decide)).trans h10
  have h12 := F0.s
  clear F0
  replace q8 := q8.below l2 q8.lt
  replace q1 := q1.below l2 q1.lt
  have m2 := l1.trans (l2.mono l1.size)
  clear l1 l2
  refine opL 1 13 (v := .bool false) (w' := w2) (by kernel_rfl) (by rw [hs]; decide) ?z27 ?z28
  case z27 => (intro o ho; obtain rfl := Option.some.inj ho; exact ⟨rfl, o_not rfl (ev_tmp h12) rfl⟩)
  case z28 =>
  intro a F0
  replace hs := F0.z.trans hs
  replace hd := F0.e.trans hd
  replace h1 := (F0.n 1 (by decide)).trans h1
  replace h2 := (F0.n 2 (by decide)).trans h2
  replace h3 := (F0.n 3 (by decide)).trans h3
  replace h4 := (F0.n 4 (by decide)).trans h4
  replace h5 := (F0.n 5 (by decide)).trans h5
  replace h8 := (F0.n 8 (by decide)).trans h8
  replace h10 := (F0.n 10 (by decide)).trans h10
  clear h12
  have h13 := F0.s
  clear F0
  refine wp_cond_false (ev_tmp h13) ?_
  refine wp_skip ?_
  refine wp_seq ?_
  refine wp_seq ?_
  refine wp_region (show wpOps _ _ _ [0, 1, 2] _ _ from ?_)
  refine opL 0 14 (v := .agg #[.int .u8 F, .int .u8 I, .int .u8 E, .int .u16 C, .int .u32 U, .slice AM lm.length cM, .slice AD ld.length cD, .slice AW lw.length cW, .slice AP lp.length cP]) (w' := w2) (by kernel_rfl) (by rw [hs]; decide) ?z29 ?z30
  case z29 => (intro o ho; obtain rfl := Option.some.inj ho; exact ⟨rfl, k_load9 rfl (ev_tmp h5) q1⟩)
  case z30 =>
  intro a F0
  replace hs := F0.z.trans hs
  replace hd := F0.e.trans hd
  replace h1 := (F0.n 1 (by decide)).trans h1
  replace h2 := (F0.n 2 (by decide)).trans h2
  replace h3 := (F0.n 3 (by decide)).trans h3
  replace h4 := (F0.n 4 (by decide)).trans h4
  replace h5 := (F0.n 5 (by decide)).trans h5
  replace h8 := (F0.n 8 (by decide)).trans h8
  replace h10 := (F0.n 10 (by decide)).trans h10
  replace h13 := (F0.n 13 (by decide)).trans h13
  have h14 := F0.s
  clear F0
  refine opL_call 1 15 (f := 10) (args := #[.agg #[.int .u8 F, .int .u8 I, .int .u8 E, .int .u16 C, .int .u32 U, .slice AM lm.length cM, .slice AD ld.length cD, .slice AW lw.length cW, .slice AP lp.length cP]]) (R := fun v w' => v = .bool (light lm ld lw lp) ∧ Below w2.heap.size w2 w') (by kernel_rfl) (by rw [hs]; decide) ?z31 (light_any _ _ _ _ _ AM AD AW AP cM cD cW cP lm ld lw lp w2 hX.lm1 hX.ld1 hX.lw1 hX.lp1) ?z32
  case z31 => (intro o ho; obtain rfl := Option.some.inj ho; exact ⟨rfl, c_Light rfl rfl (ev_tmp h14)⟩)
  case z32 =>
  rintro _ w3 a ⟨rfl, l3⟩ F0
  rw [hlt] at F0
  replace hs := F0.z.trans hs
  replace hd := F0.e.trans hd
  replace h1 := (F0.n 1 (by decide)).trans h1
  replace h2 := (F0.n 2 (by decide)).trans h2
  replace h3 := (F0.n 3 (by decide)).trans h3
  replace h4 := (F0.n 4 (by decide)).trans h4
  replace h5 := (F0.n 5 (by decide)).trans h5
  replace h8 := (F0.n 8 (by decide)).trans h8
  replace h10 := (F0.n 10 (by decide)).trans h10
  replace h13 := (F0.n 13 (by decide)).trans h13
  clear h14
  have h15 := F0.s
  clear F0
  replace q8 := q8.below l3 q8.lt
  replace q1 := q1.below l3 q1.lt
  have m3 := m2.trans (l3.mono m2.size)
  clear m2 l3
  refine opL 2 16 (v := .bool false) (w' := w3) (by kernel_rfl) (by rw [hs]; decide) ?z33 ?z34
  case z33 => (intro o ho; obtain rfl := Option.some.inj ho; exact ⟨rfl, o_not rfl (ev_tmp h15) rfl⟩)
  case z34 =>
  intro a F0
  replace hs := F0.z.trans hs
  replace hd := F0.e.trans hd
  replace h1 := (F0.n 1 (by decide)).trans h1
  replace h2 := (F0.n 2 (by decide)).trans h2
  replace h3 := (F0.n 3 (by decide)).trans h3
  replace h4 := (F0.n 4 (by decide)).trans h4
  replace h5 := (F0.n 5 (by decide)).trans h5
  replace h8 := (F0.n 8 (by decide)).trans h8
  replace h10 := (F0.n 10 (by decide)).trans h10
  replace h13 := (F0.n 13 (by decide)).trans h13
  clear h15
  have h16 := F0.s
  clear F0
  refine wp_cond_false (ev_tmp h16) ?_
  refine wp_skip ?_
  refine wp_seq ?_
  refine wp_region (show wpOps _ _ _ [0, 1, 2, 3] _ _ from ?_)
  refine opL 0 17 (v := .agg #[.int .u8 F, .int .u8 I, .int .u8 E, .int .u16 C, .int .u32 U, .slice AM lm.length cM, .slice AD ld.length cD, .slice AW lw.length cW, .slice AP lp.length cP]) (w' := w3) (by kernel_rfl) (by rw [hs]; decide) ?z35 ?z36
  case z35 => (intro o ho; obtain rfl := Option.some.inj ho; exact ⟨rfl, k_load9 rfl (ev_tmp h5) q1⟩)
  case z36 =>
  intro a F0
  replace hs := F0.z.trans hs
  replace hd := F0.e.trans hd
  replace h1 := (F0.n 1 (by decide)).trans h1
  replace h2 := (F0.n 2 (by decide)).trans h2
  replace h3 := (F0.n 3 (by decide)).trans h3
  replace h4 := (F0.n 4 (by decide)).trans h4
  replace h5 := (F0.n 5 (by decide)).trans h5
  replace h8 := (F0.n 8 (by decide)).trans h8
  replace h10 := (F0.n 10 (by decide)).trans h10
  replace h13 := (F0.n 13 (by decide)).trans h13
  replace h16 := (F0.n 16 (by decide)).trans h16
  have h17 := F0.s
  clear F0
  have hc := make_any' F I E C U AM AD AW AP cM cD cW cP lm ld lw lp w3 ((hX.below m3).full hlt)
  have hx := fun ops Q rest d a i h1 h2 h3 => opL_call (P := Tryd.prog) (ops := ops) (Q := Q) (a := a) (w := w3) (rest := rest) i d h1 h2 h3 hc
  refine hx _ _ _ 18 _ 1 ?z37a ?z37b ?z37 ?z38
  case z37a => kernel_rfl
  case z37b => (rw [hs]; decide)
  case z37 => (intro o ho; obtain rfl := Option.some.inj ho; exact ⟨rfl, c_Make rfl rfl (ev_tmp h17)⟩)
  case z38 =>
  rintro _ w4 a ⟨A1, A2, A3, A4, c1, c2, c3, c4, tD, tW, tP, rfl, F4, l4⟩ F0
  replace hs := F0.z.trans hs
  replace hd := F0.e.trans hd
  replace h1 := (F0.n 1 (by decide)).trans h1
  replace h2 := (F0.n 2 (by decide)).trans h2
  replace h3 := (F0.n 3 (by decide)).trans h3
  replace h4 := (F0.n 4 (by decide)).trans h4
  replace h5 := (F0.n 5 (by decide)).trans h5
  replace h8 := (F0.n 8 (by decide)).trans h8
  replace h10 := (F0.n 10 (by decide)).trans h10
  replace h13 := (F0.n 13 (by decide)).trans h13
  replace h16 := (F0.n 16 (by decide)).trans h16
  clear h17
  have h18 := F0.s
  clear F0
  have hb8 := q8.lt
  have hz34 := l4.size
  clear hx hc
  have m4 := m3.trans (l4.mono m3.size)
  clear m3
  replace q8 := q8.below l4 q8.lt
  refine opL 2 11 (v := .pointer (some ⟨w4.heap.size, 0, none⟩)) (w' := (w4.alloc (.cells #[.int .i64 0, .int .i64 0, .int .i64 0, .int .i64 0, .slice none 0 0, .slice none 0 0, .slice none 0 0, .slice none 0 0] 38))) (by kernel_rfl) (by rw [hs]; decide) ?z39 ?z40
  case z39 => (intro o ho; obtain rfl := Option.some.inj ho; exact ⟨rfl, k_allocR rfl⟩)
  case z40 =>
  intro a F0
  replace hs := F0.z.trans hs
  replace hd := F0.e.trans hd
  replace h1 := (F0.n 1 (by decide)).trans h1
  replace h2 := (F0.n 2 (by decide)).trans h2
  replace h3 := (F0.n 3 (by decide)).trans h3
  replace h4 := (F0.n 4 (by decide)).trans h4
  replace h5 := (F0.n 5 (by decide)).trans h5
  replace h8 := (F0.n 8 (by decide)).trans h8
  replace h10 := (F0.n 10 (by decide)).trans h10
  replace h13 := (F0.n 13 (by decide)).trans h13
  replace h16 := (F0.n 16 (by decide)).trans h16
  replace h18 := (F0.n 18 (by decide)).trans h18
  have h11 := F0.s
  clear F0
  obtain ⟨w5, hw5⟩ : ∃ wn, wn = w4.alloc (.cells #[.int .i64 0, .int .i64 0, .int .i64 0, .int .i64 0, .slice none 0 0, .slice none 0 0, .slice none 0 0, .slice none 0 0] 38) := ⟨_, rfl⟩
  rw [← hw5]
  have q5 : Blk w5 w4.heap.size 38 #[.int .i64 0, .int .i64 0, .int .i64 0, .int .i64 0, .slice none 0 0, .slice none 0 0, .slice none 0 0, .slice none 0 0] := by rw [hw5]; exact Blk.alloc _ _ _
  have l5 : Below w4.heap.size w4 w5 := by rw [hw5]; exact (Below.refl _ _).alloc (Nat.le_refl _) _
  clear hw5
  refine opL_store 3 (w' := (w5.setRow w4.heap.size #[.int .i64 (F.tmod 4), .int .i64 (Mk.iv I), .int .i64 (Mk.cnt E C), .int .i64 (Mk.unt E U), .slice A1 (Mk.mon lm).length c1, .slice A2 (Mk.D F ld).length c2, .slice A3 ((Mk.W F lw).map (·.1)).length c3, .slice A4 (Mk.P F lm ld lw lp).length c4])) (by kernel_rfl) ?z41 ?z42
  case z41 => (intro o ho; obtain rfl := Option.some.inj ho; exact ⟨rfl, k_storeR rfl (ev_tmp h11) (ev_tmp h18) q5 rfl rfl (by simp [Value.oneCell'])⟩)
  case z42 =>
  obtain ⟨w6, hw6⟩ : ∃ wn, wn = w5.setRow w4.heap.size #[.int .i64 (F.tmod 4), .int .i64 (Mk.iv I), .int .i64 (Mk.cnt E C), .int .i64 (Mk.unt E U), .slice A1 (Mk.mon lm).length c1, .slice A2 (Mk.D F ld).length c2, .slice A3 ((Mk.W F lw).map (·.1)).length c3, .slice A4 (Mk.P F lm ld lw lp).length c4] := ⟨_, rfl⟩
  rw [← hw6]
  have B6 : Blk w6 w4.heap.size 38 #[.int .i64 (F.tmod 4), .int .i64 (Mk.iv I), .int .i64 (Mk.cnt E C), .int .i64 (Mk.unt E U), .slice A1 (Mk.mon lm).length c1, .slice A2 (Mk.D F ld).length c2, .slice A3 ((Mk.W F lw).map (·.1)).length c3, .slice A4 (Mk.P F lm ld lw lp).length c4] := by rw [hw6]; exact q5.setRow
  have l6 : Below w4.heap.size w4 w6 := by rw [hw6]; exact l5.trans ((exc_setRow w5 w4.heap.size #[.int .i64 (F.tmod 4), .int .i64 (Mk.iv I), .int .i64 (Mk.cnt E C), .int .i64 (Mk.unt E U), .slice A1 (Mk.mon lm).length c1, .slice A2 (Mk.D F ld).length c2, .slice A3 ((Mk.W F lw).map (·.1)).length c3, .slice A4 (Mk.P F lm ld lw lp).length c4] w4.heap.size).below (Nat.le_refl _))
  clear hw6 q5 l5
  have q86 := q8.below l6 q8.lt
  have L4 := F4.lists
  refine wp_seq ?_
  refine wp_seq ?_
  have hAt := B6.rule
  have hLt := L4.below l6
  have hx := fun Q hQ => regMay6 a w6 Q hQ _ _ _ _ _ _ _ _ _ _ _ _ _ _ _ _ _ _ _ _ _ hs h1 h2 h4 h8 h11 hAt hLt ck0 hlen3
  refine hx _ ?hb6 ?hr6
  case hb6 => (repeat (first | exact hQ | refine blind_then ?_ | refine blind_block ?_))
  case hr6 =>
  clear hx hAt hLt
  intro a w7 z' e' h1' h2' h4' h8' h11' h38 l7
  replace hs := z'
  replace hd := e'.trans hd
  replace h1 := h1'
  replace h2 := h2'
  replace h4 := h4'
  replace h8 := h8'
  replace h11 := h11'
  clear h3
  clear h5
  clear h10
  clear h13
  clear h16
  clear h18
  have B7 := B6.below l7 B6.lt
  have Q8 := q86.below l7 q86.lt
  have n7 := l6.trans (l7.mono l6.size)
  have z7 : w4.heap.size < w7.heap.size := B7.lt
  clear B6 q86 q8 l6 l7
  refine wp_cond_false (ev_tmp h38) ?_
  refine wp_skip ?_
  refine wp_seq ?_
  refine wp_seq ?_
  refine wp_region (show wpOps _ _ _ [0] _ _ from ?_)
  refine opL 0 39 (v := .bool near) (w' := w7) (by kernel_rfl) (by rw [hs]; decide) ?z43 ?z44
  case z43 => (intro o ho; obtain rfl := Option.some.inj ho; exact ⟨rfl, k_move rfl (ev_tmp h4)⟩)
  case z44 =>
  intro a F0
  replace hs := F0.z.trans hs
  replace hd := F0.e.trans hd
  replace h1 := (F0.n 1 (by decide)).trans h1
  replace h2 := (F0.n 2 (by decide)).trans h2
  replace h4 := (F0.n 4 (by decide)).trans h4
  replace h8 := (F0.n 8 (by decide)).trans h8
  replace h11 := (F0.n 11 (by decide)).trans h11
  replace h38 := (F0.n 38 (by decide)).trans h38
  have h39 := F0.s
  clear F0
  refine cut_at (MayS w w4 what wx.heap.size #[.int .i64 (F.tmod 4), .int .i64 (Mk.iv I), .int .i64 (Mk.cnt E C), .int .i64 (Mk.unt E U), .slice A1 (Mk.mon lm).length c1, .slice A2 (Mk.D F ld).length c2, .slice A3 ((Mk.W F lw).map (·.1)).length c3, .slice A4 (Mk.P F lm ld lw lp).length c4]) ?z45 ?z46
  case z45 =>
    cases near
    case false =>
      refine wp_cond_false (ev_tmp h39) ?_
      refine wp_skip ?_
      exact ⟨hd, hs, h1, h8, h11, ⟨_, _, _, h2, Q8⟩, B7, w7, n7, z7, fun B => Exc.refl _ _ _⟩
    case true =>
      refine wp_cond_true (ev_tmp h39) ?_
      refine regMay9 a w7 _ (by repeat (first | exact hQ | refine blind_then ?_ | refine blind_block ?_)) wx.heap.size n p q _ _ hs h1 h2 h8 h11 Q8 ?_
      intro a w8 z' e' h1' h2' h8' h11' Q8' e8
      exact ⟨e'.trans hd, z', h1', h8', h11', ⟨_, _, _, h2', Q8'⟩, B7.exc (e8 w7.heap.size) B7.lt (by omega), w7, n7, z7, e8⟩
  case z46 =>
  clear hs hd h1 h2 h4 h8 h11 h38 h39 B7 Q8 n7 z7
  rintro a w7 ⟨hd, hs, h1, h8, h11, ⟨n, p, q, h2, Q8⟩, B7, w5, n5, z5, e5⟩
  have t1 : ∀ g, (Value.slice A1 (Mk.mon lm).length c1).ownBlock = some g → g < w4.heap.size := fun g hg => (F4.oM.lt g hg).2
  have t2 : ∀ g, (Value.slice A2 (Mk.D F ld).length c2).ownBlock = some g → g < w4.heap.size := fun g hg => (F4.oD.lt g hg).2
  have t3 : ∀ g, (Value.slice A3 ((Mk.W F lw).map (·.1)).length c3).ownBlock = some g → g < w4.heap.size := fun g hg => (F4.oW.lt g hg).2
  have t4 : ∀ g, (Value.slice A4 (Mk.P F lm ld lw lp).length c4).ownBlock = some g → g < w4.heap.size := fun g hg => (F4.oP.lt g hg).2
  have F7 := (F4.below n5).exc (T := w4.heap.size) (e5 w5.heap.size) (.inl hb8) t1 t2 t3 t4
  have R7 : Below w.heap.size w w7 := (m4.trans (n5.mono m4.size)).trans ((e5 w.heap.size).below hwx)
  have z7 : w4.heap.size < w7.heap.size := B7.lt
  have hz4 := m4.size
  clear n5 z5 e5
  have k9 : what.tmod 9 = 0 ∨ what.tmod 9 = 1 ∨ what.tmod 9 = 2 ∨ what.tmod 9 = 3 ∨ what.tmod 9 = 4 ∨ what.tmod 9 = 5 ∨ what.tmod 9 = 6 ∨ what.tmod 9 = 7 ∨ what.tmod 9 = 8 := by
    rw [Int.tmod_eq_emod_of_nonneg hwh.1]; omega
  rcases k9 with hk | hk | hk | hk | hk | hk | hk | hk | hk
  · refine wp_seq ?_
    refine wp_seq ?_
    refine wp_region (show wpOps _ _ _ [0, 1] _ _ from ?_)
    refine opL 0 50 (v := .int .u8 what) (w' := w7) (by kernel_rfl) (by rw [hs]; decide) ?z47 ?z48
    case z47 => (intro o ho; obtain rfl := Option.some.inj ho; exact ⟨rfl, k_move rfl (ev_tmp h1)⟩)
    case z48 =>
    intro a F0
    replace hs := F0.z.trans hs
    replace hd := F0.e.trans hd
    replace h1 := (F0.n 1 (by decide)).trans h1
    replace h2 := (F0.n 2 (by decide)).trans h2
    replace h8 := (F0.n 8 (by decide)).trans h8
    replace h11 := (F0.n 11 (by decide)).trans h11
    have h50 := F0.s
    clear F0
    refine opL 1 51 (v := .int .u8 0) (w' := w7) (by kernel_rfl) (by rw [hs]; decide) ?z49 ?z50
    case z49 => (intro o ho; obtain rfl := Option.some.inj ho; exact ⟨rfl, o_remB rfl (ev_tmp h50) rfl (by decide) hk⟩)
    case z50 =>
    intro a F0
    replace hs := F0.z.trans hs
    replace hd := F0.e.trans hd
    replace h1 := (F0.n 1 (by decide)).trans h1
    replace h2 := (F0.n 2 (by decide)).trans h2
    replace h8 := (F0.n 8 (by decide)).trans h8
    replace h11 := (F0.n 11 (by decide)).trans h11
    clear h50
    have h51 := F0.s
    clear F0
    refine wp_block ?_
    refine wp_seq ?_
    refine wp_region (show wpOps _ _ _ [0, 1] _ _ from ?_)
    refine opL 0 56 (v := .bool true) (w' := w7) (by kernel_rfl) (by rw [hs]; decide) ?z51 ?z52
    case z51 => (intro o ho; obtain rfl := Option.some.inj ho; exact ⟨rfl, o_eqB rfl (ev_tmp h51) rfl (by decide)⟩)
    case z52 =>
    intro a F0
    replace hs := F0.z.trans hs
    replace hd := F0.e.trans hd
    replace h1 := (F0.n 1 (by decide)).trans h1
    replace h2 := (F0.n 2 (by decide)).trans h2
    replace h8 := (F0.n 8 (by decide)).trans h8
    replace h11 := (F0.n 11 (by decide)).trans h11
    replace h51 := (F0.n 51 (by decide)).trans h51
    have h56 := F0.s
    clear F0
    refine opL 1 55 (v := .bool true) (w' := w7) (by kernel_rfl) (by rw [hs]; decide) ?z53 ?z54
    case z53 => (intro o ho; obtain rfl := Option.some.inj ho; exact ⟨rfl, k_assign rfl (ev_tmp h56)⟩)
    case z54 =>
    intro a F0
    replace hs := F0.z.trans hs
    replace hd := F0.e.trans hd
    replace h1 := (F0.n 1 (by decide)).trans h1
    replace h2 := (F0.n 2 (by decide)).trans h2
    replace h8 := (F0.n 8 (by decide)).trans h8
    replace h11 := (F0.n 11 (by decide)).trans h11
    replace h51 := (F0.n 51 (by decide)).trans h51
    clear h56
    have h55 := F0.s
    clear F0
    refine wp_cond_true (ev_tmp h55) ?_
    refine wp_region (show wpOps _ _ _ [0, 1, 2] _ _ from ?_)
    refine opL 0 57 (v := .int .i64 n) (w' := w7) (by kernel_rfl) (by rw [hs]; decide) ?z55 ?z56
    case z55 => (intro o ho; obtain rfl := Option.some.inj ho; exact ⟨rfl, k_move rfl (ev_tmp h2)⟩)
    case z56 =>
    intro a F0
    replace hs := F0.z.trans hs
    replace hd := F0.e.trans hd
    replace h1 := (F0.n 1 (by decide)).trans h1
    replace h2 := (F0.n 2 (by decide)).trans h2
    replace h8 := (F0.n 8 (by decide)).trans h8
    replace h11 := (F0.n 11 (by decide)).trans h11
    replace h51 := (F0.n 51 (by decide)).trans h51
    replace h55 := (F0.n 55 (by decide)).trans h55
    have h57 := F0.s
    clear F0
    refine opL 1 58 (v := .pointer (some ⟨w4.heap.size, 0, none⟩)) (w' := w7) (by kernel_rfl) (by rw [hs]; decide) ?z57 ?z58
    case z57 => (intro o ho; obtain rfl := Option.some.inj ho; exact ⟨rfl, k_field0 rfl (ev_tmp h11)⟩)
    case z58 =>
    intro a F0
    replace hs := F0.z.trans hs
    replace hd := F0.e.trans hd
    replace h1 := (F0.n 1 (by decide)).trans h1
    replace h2 := (F0.n 2 (by decide)).trans h2
    replace h8 := (F0.n 8 (by decide)).trans h8
    replace h11 := (F0.n 11 (by decide)).trans h11
    replace h51 := (F0.n 51 (by decide)).trans h51
    replace h55 := (F0.n 55 (by decide)).trans h55
    replace h57 := (F0.n 57 (by decide)).trans h57
    have h58 := F0.s
    clear F0
    refine opL_store 2 (w' := (w7.setCell ⟨w4.heap.size, 0, none⟩ (.int .i64 n))) (by kernel_rfl) ?z59 ?z60
    case z59 => (intro o ho; obtain rfl := Option.some.inj ho; exact ⟨rfl, k_storeF rfl (ev_tmp h58) (ev_tmp h57) B7 (by simp)⟩)
    case z60 =>
    clear h57
    clear h58
    obtain ⟨w8, hww8⟩ : ∃ wn, wn = w7.setCell ⟨w4.heap.size, 0, none⟩ (.int .i64 n) := ⟨_, rfl⟩
    rw [← hww8]
    have B8 : Blk w8 w4.heap.size 38 #[.int .i64 n, .int .i64 (Mk.iv I), .int .i64 (Mk.cnt E C), .int .i64 (Mk.unt E U), .slice A1 (Mk.mon lm).length c1, .slice A2 (Mk.D F ld).length c2, .slice A3 ((Mk.W F lw).map (·.1)).length c3, .slice A4 (Mk.P F lm ld lw lp).length c4] := by rw [hww8]; exact B7.set 0 _
    have e8 : ∀ B, Exc B w4.heap.size w7 w8 := by rw [hww8]; exact exc_set w7 w4.heap.size 0 _
    clear hww8
    refine wp_seq ?_
    have L8 := (F7.exc (e8 w7.heap.size) (.inr (Nat.le_refl _)) t1 t2 t3 t4).lists
    have r8 := R7.trans ((e8 w.heap.size).below (by omega))
    have hx := fun Q hQ => twoMay a w8 Q hQ _ _ _ _ _ _ _ _ _ _ _ _ _ _ _ _ _ hs h11 B8.rule L8
    refine hx _ ?hb28 ?hr28
    case hb28 => (repeat (first | exact hQ | refine blind_then ?_ | refine blind_block ?_))
    case hr28 =>
    intro a wz h10 hd' lz
    replace hd := hd'.trans hd
    refine wp_ret ?_
    exact hfin a wz hd h10 (r8.trans (lz.mono r8.size))
  · refine wp_seq ?_
    refine wp_seq ?_
    refine wp_region (show wpOps _ _ _ [0, 1] _ _ from ?_)
    refine opL 0 50 (v := .int .u8 what) (w' := w7) (by kernel_rfl) (by rw [hs]; decide) ?z61 ?z62
    case z61 => (intro o ho; obtain rfl := Option.some.inj ho; exact ⟨rfl, k_move rfl (ev_tmp h1)⟩)
    case z62 =>
    intro a F0
    replace hs := F0.z.trans hs
    replace hd := F0.e.trans hd
    replace h1 := (F0.n 1 (by decide)).trans h1
    replace h2 := (F0.n 2 (by decide)).trans h2
    replace h8 := (F0.n 8 (by decide)).trans h8
    replace h11 := (F0.n 11 (by decide)).trans h11
    have h50 := F0.s
    clear F0
    refine opL 1 51 (v := .int .u8 1) (w' := w7) (by kernel_rfl) (by rw [hs]; decide) ?z63 ?z64
    case z63 => (intro o ho; obtain rfl := Option.some.inj ho; exact ⟨rfl, o_remB rfl (ev_tmp h50) rfl (by decide) hk⟩)
    case z64 =>
    intro a F0
    replace hs := F0.z.trans hs
    replace hd := F0.e.trans hd
    replace h1 := (F0.n 1 (by decide)).trans h1
    replace h2 := (F0.n 2 (by decide)).trans h2
    replace h8 := (F0.n 8 (by decide)).trans h8
    replace h11 := (F0.n 11 (by decide)).trans h11
    clear h50
    have h51 := F0.s
    clear F0
    refine wp_block ?_
    refine wp_seq ?_
    refine wp_region (show wpOps _ _ _ [0, 1] _ _ from ?_)
    refine opL 0 56 (v := .bool false) (w' := w7) (by kernel_rfl) (by rw [hs]; decide) ?z65 ?z66
    case z65 => (intro o ho; obtain rfl := Option.some.inj ho; exact ⟨rfl, o_eqB rfl (ev_tmp h51) rfl (by decide)⟩)
    case z66 =>
    intro a F0
    replace hs := F0.z.trans hs
    replace hd := F0.e.trans hd
    replace h1 := (F0.n 1 (by decide)).trans h1
    replace h2 := (F0.n 2 (by decide)).trans h2
    replace h8 := (F0.n 8 (by decide)).trans h8
    replace h11 := (F0.n 11 (by decide)).trans h11
    replace h51 := (F0.n 51 (by decide)).trans h51
    have h56 := F0.s
    clear F0
    refine opL 1 55 (v := .bool false) (w' := w7) (by kernel_rfl) (by rw [hs]; decide) ?z67 ?z68
    case z67 => (intro o ho; obtain rfl := Option.some.inj ho; exact ⟨rfl, k_assign rfl (ev_tmp h56)⟩)
    case z68 =>
    intro a F0
    replace hs := F0.z.trans hs
    replace hd := F0.e.trans hd
    replace h1 := (F0.n 1 (by decide)).trans h1
    replace h2 := (F0.n 2 (by decide)).trans h2
    replace h8 := (F0.n 8 (by decide)).trans h8
    replace h11 := (F0.n 11 (by decide)).trans h11
    replace h51 := (F0.n 51 (by decide)).trans h51
    clear h56
    have h55 := F0.s
    clear F0
    refine wp_cond_false (ev_tmp h55) ?_
    refine wp_seq ?_
    refine wp_region (show wpOps _ _ _ [0, 1] _ _ from ?_)
    refine opL 0 60 (v := .bool true) (w' := w7) (by kernel_rfl) (by rw [hs]; decide) ?z69 ?z70
    case z69 => (intro o ho; obtain rfl := Option.some.inj ho; exact ⟨rfl, o_eqB rfl (ev_tmp h51) rfl (by decide)⟩)
    case z70 =>
    intro a F0
    replace hs := F0.z.trans hs
    replace hd := F0.e.trans hd
    replace h1 := (F0.n 1 (by decide)).trans h1
    replace h2 := (F0.n 2 (by decide)).trans h2
    replace h8 := (F0.n 8 (by decide)).trans h8
    replace h11 := (F0.n 11 (by decide)).trans h11
    replace h51 := (F0.n 51 (by decide)).trans h51
    replace h55 := (F0.n 55 (by decide)).trans h55
    have h60 := F0.s
    clear F0
    refine opL 1 59 (v := .bool true) (w' := w7) (by kernel_rfl) (by rw [hs]; decide) ?z71 ?z72
    case z71 => (intro o ho; obtain rfl := Option.some.inj ho; exact ⟨rfl, k_assign rfl (ev_tmp h60)⟩)
    case z72 =>
    intro a F0
    replace hs := F0.z.trans hs
    replace hd := F0.e.trans hd
    replace h1 := (F0.n 1 (by decide)).trans h1
    replace h2 := (F0.n 2 (by decide)).trans h2
    replace h8 := (F0.n 8 (by decide)).trans h8
    replace h11 := (F0.n 11 (by decide)).trans h11
    replace h51 := (F0.n 51 (by decide)).trans h51
    replace h55 := (F0.n 55 (by decide)).trans h55
    clear h60
    have h59 := F0.s
    clear F0
    refine wp_cond_true (ev_tmp h59) ?_
    refine wp_region (show wpOps _ _ _ [0, 1, 2] _ _ from ?_)
    refine opL 0 61 (v := .int .i64 n) (w' := w7) (by kernel_rfl) (by rw [hs]; decide) ?z73 ?z74
    case z73 => (intro o ho; obtain rfl := Option.some.inj ho; exact ⟨rfl, k_move rfl (ev_tmp h2)⟩)
    case z74 =>
    intro a F0
    replace hs := F0.z.trans hs
    replace hd := F0.e.trans hd
    replace h1 := (F0.n 1 (by decide)).trans h1
    replace h2 := (F0.n 2 (by decide)).trans h2
    replace h8 := (F0.n 8 (by decide)).trans h8
    replace h11 := (F0.n 11 (by decide)).trans h11
    replace h51 := (F0.n 51 (by decide)).trans h51
    replace h55 := (F0.n 55 (by decide)).trans h55
    replace h59 := (F0.n 59 (by decide)).trans h59
    have h61 := F0.s
    clear F0
    refine opL 1 62 (v := .pointer (some ⟨w4.heap.size, 1, none⟩)) (w' := w7) (by kernel_rfl) (by rw [hs]; decide) ?z75 ?z76
    case z75 => (intro o ho; obtain rfl := Option.some.inj ho; exact ⟨rfl, k_field1 rfl (ev_tmp h11)⟩)
    case z76 =>
    intro a F0
    replace hs := F0.z.trans hs
    replace hd := F0.e.trans hd
    replace h1 := (F0.n 1 (by decide)).trans h1
    replace h2 := (F0.n 2 (by decide)).trans h2
    replace h8 := (F0.n 8 (by decide)).trans h8
    replace h11 := (F0.n 11 (by decide)).trans h11
    replace h51 := (F0.n 51 (by decide)).trans h51
    replace h55 := (F0.n 55 (by decide)).trans h55
    replace h59 := (F0.n 59 (by decide)).trans h59
    replace h61 := (F0.n 61 (by decide)).trans h61
    have h62 := F0.s
    clear F0
    refine opL_store 2 (w' := (w7.setCell ⟨w4.heap.size, 1, none⟩ (.int .i64 n))) (by kernel_rfl) ?z77 ?z78
    case z77 => (intro o ho; obtain rfl := Option.some.inj ho; exact ⟨rfl, k_storeI rfl (ev_tmp h62) (ev_tmp h61) B7 (by simp)⟩)
    case z78 =>
    clear h61
    clear h62
    obtain ⟨w8, hww8⟩ : ∃ wn, wn = w7.setCell ⟨w4.heap.size, 1, none⟩ (.int .i64 n) := ⟨_, rfl⟩
    rw [← hww8]
    have B8 : Blk w8 w4.heap.size 38 #[.int .i64 (F.tmod 4), .int .i64 n, .int .i64 (Mk.cnt E C), .int .i64 (Mk.unt E U), .slice A1 (Mk.mon lm).length c1, .slice A2 (Mk.D F ld).length c2, .slice A3 ((Mk.W F lw).map (·.1)).length c3, .slice A4 (Mk.P F lm ld lw lp).length c4] := by rw [hww8]; exact B7.set 1 _
    have e8 : ∀ B, Exc B w4.heap.size w7 w8 := by rw [hww8]; exact exc_set w7 w4.heap.size 1 _
    clear hww8
    refine wp_seq ?_
    have L8 := (F7.exc (e8 w7.heap.size) (.inr (Nat.le_refl _)) t1 t2 t3 t4).lists
    have r8 := R7.trans ((e8 w.heap.size).below (by omega))
    have hx := fun Q hQ => twoMay a w8 Q hQ _ _ _ _ _ _ _ _ _ _ _ _ _ _ _ _ _ hs h11 B8.rule L8
    refine hx _ ?hb28 ?hr28
    case hb28 => (repeat (first | exact hQ | refine blind_then ?_ | refine blind_block ?_))
    case hr28 =>
    intro a wz h10 hd' lz
    replace hd := hd'.trans hd
    refine wp_ret ?_
    exact hfin a wz hd h10 (r8.trans (lz.mono r8.size))
  · refine wp_seq ?_
    refine wp_seq ?_
    refine wp_region (show wpOps _ _ _ [0, 1] _ _ from ?_)
    refine opL 0 50 (v := .int .u8 what) (w' := w7) (by kernel_rfl) (by rw [hs]; decide) ?z79 ?z80
    case z79 => (intro o ho; obtain rfl := Option.some.inj ho; exact ⟨rfl, k_move rfl (ev_tmp h1)⟩)
    case z80 =>
    intro a F0
    replace hs := F0.z.trans hs
    replace hd := F0.e.trans hd
    replace h1 := (F0.n 1 (by decide)).trans h1
    replace h2 := (F0.n 2 (by decide)).trans h2
    replace h8 := (F0.n 8 (by decide)).trans h8
    replace h11 := (F0.n 11 (by decide)).trans h11
    have h50 := F0.s
    clear F0
    refine opL 1 51 (v := .int .u8 2) (w' := w7) (by kernel_rfl) (by rw [hs]; decide) ?z81 ?z82
    case z81 => (intro o ho; obtain rfl := Option.some.inj ho; exact ⟨rfl, o_remB rfl (ev_tmp h50) rfl (by decide) hk⟩)
    case z82 =>
    intro a F0
    replace hs := F0.z.trans hs
    replace hd := F0.e.trans hd
    replace h1 := (F0.n 1 (by decide)).trans h1
    replace h2 := (F0.n 2 (by decide)).trans h2
    replace h8 := (F0.n 8 (by decide)).trans h8
    replace h11 := (F0.n 11 (by decide)).trans h11
    clear h50
    have h51 := F0.s
    clear F0
    refine wp_block ?_
    refine wp_seq ?_
    refine wp_region (show wpOps _ _ _ [0, 1] _ _ from ?_)
    refine opL 0 56 (v := .bool false) (w' := w7) (by kernel_rfl) (by rw [hs]; decide) ?z83 ?z84
    case z83 => (intro o ho; obtain rfl := Option.some.inj ho; exact ⟨rfl, o_eqB rfl (ev_tmp h51) rfl (by decide)⟩)
    case z84 =>
    intro a F0
    replace hs := F0.z.trans hs
    replace hd := F0.e.trans hd
    replace h1 := (F0.n 1 (by decide)).trans h1
    replace h2 := (F0.n 2 (by decide)).trans h2
    replace h8 := (F0.n 8 (by decide)).trans h8
    replace h11 := (F0.n 11 (by decide)).trans h11
    replace h51 := (F0.n 51 (by decide)).trans h51
    have h56 := F0.s
    clear F0
    refine opL 1 55 (v := .bool false) (w' := w7) (by kernel_rfl) (by rw [hs]; decide) ?z85 ?z86
    case z85 => (intro o ho; obtain rfl := Option.some.inj ho; exact ⟨rfl, k_assign rfl (ev_tmp h56)⟩)
    case z86 =>
    intro a F0
    replace hs := F0.z.trans hs
    replace hd := F0.e.trans hd
    replace h1 := (F0.n 1 (by decide)).trans h1
    replace h2 := (F0.n 2 (by decide)).trans h2
    replace h8 := (F0.n 8 (by decide)).trans h8
    replace h11 := (F0.n 11 (by decide)).trans h11
    replace h51 := (F0.n 51 (by decide)).trans h51
    clear h56
    have h55 := F0.s
    clear F0
    refine wp_cond_false (ev_tmp h55) ?_
    refine wp_seq ?_
    refine wp_region (show wpOps _ _ _ [0, 1] _ _ from ?_)
    refine opL 0 60 (v := .bool false) (w' := w7) (by kernel_rfl) (by rw [hs]; decide) ?z87 ?z88
    case z87 => (intro o ho; obtain rfl := Option.some.inj ho; exact ⟨rfl, o_eqB rfl (ev_tmp h51) rfl (by decide)⟩)
    case z88 =>
    intro a F0
    replace hs := F0.z.trans hs
    replace hd := F0.e.trans hd
    replace h1 := (F0.n 1 (by decide)).trans h1
    replace h2 := (F0.n 2 (by decide)).trans h2
    replace h8 := (F0.n 8 (by decide)).trans h8
    replace h11 := (F0.n 11 (by decide)).trans h11
    replace h51 := (F0.n 51 (by decide)).trans h51
    replace h55 := (F0.n 55 (by decide)).trans h55
    have h60 := F0.s
    clear F0
    refine opL 1 59 (v := .bool false) (w' := w7) (by kernel_rfl) (by rw [hs]; decide) ?z89 ?z90
    case z89 => (intro o ho; obtain rfl := Option.some.inj ho; exact ⟨rfl, k_assign rfl (ev_tmp h60)⟩)
    case z90 =>
    intro a F0
    replace hs := F0.z.trans hs
    replace hd := F0.e.trans hd
    replace h1 := (F0.n 1 (by decide)).trans h1
    replace h2 := (F0.n 2 (by decide)).trans h2
    replace h8 := (F0.n 8 (by decide)).trans h8
    replace h11 := (F0.n 11 (by decide)).trans h11
    replace h51 := (F0.n 51 (by decide)).trans h51
    replace h55 := (F0.n 55 (by decide)).trans h55
    clear h60
    have h59 := F0.s
    clear F0
    refine wp_cond_false (ev_tmp h59) ?_
    refine wp_seq ?_
    refine wp_region (show wpOps _ _ _ [0, 1] _ _ from ?_)
    refine opL 0 64 (v := .bool true) (w' := w7) (by kernel_rfl) (by rw [hs]; decide) ?z91 ?z92
    case z91 => (intro o ho; obtain rfl := Option.some.inj ho; exact ⟨rfl, o_eqB rfl (ev_tmp h51) rfl (by decide)⟩)
    case z92 =>
    intro a F0
    replace hs := F0.z.trans hs
    replace hd := F0.e.trans hd
    replace h1 := (F0.n 1 (by decide)).trans h1
    replace h2 := (F0.n 2 (by decide)).trans h2
    replace h8 := (F0.n 8 (by decide)).trans h8
    replace h11 := (F0.n 11 (by decide)).trans h11
    replace h51 := (F0.n 51 (by decide)).trans h51
    replace h55 := (F0.n 55 (by decide)).trans h55
    replace h59 := (F0.n 59 (by decide)).trans h59
    have h64 := F0.s
    clear F0
    refine opL 1 63 (v := .bool true) (w' := w7) (by kernel_rfl) (by rw [hs]; decide) ?z93 ?z94
    case z93 => (intro o ho; obtain rfl := Option.some.inj ho; exact ⟨rfl, k_assign rfl (ev_tmp h64)⟩)
    case z94 =>
    intro a F0
    replace hs := F0.z.trans hs
    replace hd := F0.e.trans hd
    replace h1 := (F0.n 1 (by decide)).trans h1
    replace h2 := (F0.n 2 (by decide)).trans h2
    replace h8 := (F0.n 8 (by decide)).trans h8
    replace h11 := (F0.n 11 (by decide)).trans h11
    replace h51 := (F0.n 51 (by decide)).trans h51
    replace h55 := (F0.n 55 (by decide)).trans h55
    replace h59 := (F0.n 59 (by decide)).trans h59
    clear h64
    have h63 := F0.s
    clear F0
    refine wp_cond_true (ev_tmp h63) ?_
    refine wp_region (show wpOps _ _ _ [0, 1, 2] _ _ from ?_)
    refine opL 0 65 (v := .int .i64 n) (w' := w7) (by kernel_rfl) (by rw [hs]; decide) ?z95 ?z96
    case z95 => (intro o ho; obtain rfl := Option.some.inj ho; exact ⟨rfl, k_move rfl (ev_tmp h2)⟩)
    case z96 =>
    intro a F0
    replace hs := F0.z.trans hs
    replace hd := F0.e.trans hd
    replace h1 := (F0.n 1 (by decide)).trans h1
    replace h2 := (F0.n 2 (by decide)).trans h2
    replace h8 := (F0.n 8 (by decide)).trans h8
    replace h11 := (F0.n 11 (by decide)).trans h11
    replace h51 := (F0.n 51 (by decide)).trans h51
    replace h55 := (F0.n 55 (by decide)).trans h55
    replace h59 := (F0.n 59 (by decide)).trans h59
    replace h63 := (F0.n 63 (by decide)).trans h63
    have h65 := F0.s
    clear F0
    refine opL 1 66 (v := .pointer (some ⟨w4.heap.size, 2, none⟩)) (w' := w7) (by kernel_rfl) (by rw [hs]; decide) ?z97 ?z98
    case z97 => (intro o ho; obtain rfl := Option.some.inj ho; exact ⟨rfl, k_field2 rfl (ev_tmp h11)⟩)
    case z98 =>
    intro a F0
    replace hs := F0.z.trans hs
    replace hd := F0.e.trans hd
    replace h1 := (F0.n 1 (by decide)).trans h1
    replace h2 := (F0.n 2 (by decide)).trans h2
    replace h8 := (F0.n 8 (by decide)).trans h8
    replace h11 := (F0.n 11 (by decide)).trans h11
    replace h51 := (F0.n 51 (by decide)).trans h51
    replace h55 := (F0.n 55 (by decide)).trans h55
    replace h59 := (F0.n 59 (by decide)).trans h59
    replace h63 := (F0.n 63 (by decide)).trans h63
    replace h65 := (F0.n 65 (by decide)).trans h65
    have h66 := F0.s
    clear F0
    refine opL_store 2 (w' := (w7.setCell ⟨w4.heap.size, 2, none⟩ (.int .i64 n))) (by kernel_rfl) ?z99 ?z100
    case z99 => (intro o ho; obtain rfl := Option.some.inj ho; exact ⟨rfl, k_storeI rfl (ev_tmp h66) (ev_tmp h65) B7 (by simp)⟩)
    case z100 =>
    clear h65
    clear h66
    obtain ⟨w8, hww8⟩ : ∃ wn, wn = w7.setCell ⟨w4.heap.size, 2, none⟩ (.int .i64 n) := ⟨_, rfl⟩
    rw [← hww8]
    have B8 : Blk w8 w4.heap.size 38 #[.int .i64 (F.tmod 4), .int .i64 (Mk.iv I), .int .i64 n, .int .i64 (Mk.unt E U), .slice A1 (Mk.mon lm).length c1, .slice A2 (Mk.D F ld).length c2, .slice A3 ((Mk.W F lw).map (·.1)).length c3, .slice A4 (Mk.P F lm ld lw lp).length c4] := by rw [hww8]; exact B7.set 2 _
    have e8 : ∀ B, Exc B w4.heap.size w7 w8 := by rw [hww8]; exact exc_set w7 w4.heap.size 2 _
    clear hww8
    refine wp_seq ?_
    have L8 := (F7.exc (e8 w7.heap.size) (.inr (Nat.le_refl _)) t1 t2 t3 t4).lists
    have r8 := R7.trans ((e8 w.heap.size).below (by omega))
    have hx := fun Q hQ => twoMay a w8 Q hQ _ _ _ _ _ _ _ _ _ _ _ _ _ _ _ _ _ hs h11 B8.rule L8
    refine hx _ ?hb28 ?hr28
    case hb28 => (repeat (first | exact hQ | refine blind_then ?_ | refine blind_block ?_))
    case hr28 =>
    intro a wz h10 hd' lz
    replace hd := hd'.trans hd
    refine wp_ret ?_
    exact hfin a wz hd h10 (r8.trans (lz.mono r8.size))
  · refine wp_seq ?_
    refine wp_seq ?_
    refine wp_region (show wpOps _ _ _ [0, 1] _ _ from ?_)
    refine opL 0 50 (v := .int .u8 what) (w' := w7) (by kernel_rfl) (by rw [hs]; decide) ?z101 ?z102
    case z101 => (intro o ho; obtain rfl := Option.some.inj ho; exact ⟨rfl, k_move rfl (ev_tmp h1)⟩)
    case z102 =>
    intro a F0
    replace hs := F0.z.trans hs
    replace hd := F0.e.trans hd
    replace h1 := (F0.n 1 (by decide)).trans h1
    replace h2 := (F0.n 2 (by decide)).trans h2
    replace h8 := (F0.n 8 (by decide)).trans h8
    replace h11 := (F0.n 11 (by decide)).trans h11
    have h50 := F0.s
    clear F0
    refine opL 1 51 (v := .int .u8 3) (w' := w7) (by kernel_rfl) (by rw [hs]; decide) ?z103 ?z104
    case z103 => (intro o ho; obtain rfl := Option.some.inj ho; exact ⟨rfl, o_remB rfl (ev_tmp h50) rfl (by decide) hk⟩)
    case z104 =>
    intro a F0
    replace hs := F0.z.trans hs
    replace hd := F0.e.trans hd
    replace h1 := (F0.n 1 (by decide)).trans h1
    replace h2 := (F0.n 2 (by decide)).trans h2
    replace h8 := (F0.n 8 (by decide)).trans h8
    replace h11 := (F0.n 11 (by decide)).trans h11
    clear h50
    have h51 := F0.s
    clear F0
    refine wp_block ?_
    refine wp_seq ?_
    refine wp_region (show wpOps _ _ _ [0, 1] _ _ from ?_)
    refine opL 0 56 (v := .bool false) (w' := w7) (by kernel_rfl) (by rw [hs]; decide) ?z105 ?z106
    case z105 => (intro o ho; obtain rfl := Option.some.inj ho; exact ⟨rfl, o_eqB rfl (ev_tmp h51) rfl (by decide)⟩)
    case z106 =>
    intro a F0
    replace hs := F0.z.trans hs
    replace hd := F0.e.trans hd
    replace h1 := (F0.n 1 (by decide)).trans h1
    replace h2 := (F0.n 2 (by decide)).trans h2
    replace h8 := (F0.n 8 (by decide)).trans h8
    replace h11 := (F0.n 11 (by decide)).trans h11
    replace h51 := (F0.n 51 (by decide)).trans h51
    have h56 := F0.s
    clear F0
    refine opL 1 55 (v := .bool false) (w' := w7) (by kernel_rfl) (by rw [hs]; decide) ?z107 ?z108
    case z107 => (intro o ho; obtain rfl := Option.some.inj ho; exact ⟨rfl, k_assign rfl (ev_tmp h56)⟩)
    case z108 =>
    intro a F0
    replace hs := F0.z.trans hs
    replace hd := F0.e.trans hd
    replace h1 := (F0.n 1 (by decide)).trans h1
    replace h2 := (F0.n 2 (by decide)).trans h2
    replace h8 := (F0.n 8 (by decide)).trans h8
    replace h11 := (F0.n 11 (by decide)).trans h11
    replace h51 := (F0.n 51 (by decide)).trans h51
    clear h56
    have h55 := F0.s
    clear F0
    refine wp_cond_false (ev_tmp h55) ?_
    refine wp_seq ?_
    refine wp_region (show wpOps _ _ _ [0, 1] _ _ from ?_)
    refine opL 0 60 (v := .bool false) (w' := w7) (by kernel_rfl) (by rw [hs]; decide) ?z109 ?z110
    case z109 => (intro o ho; obtain rfl := Option.some.inj ho; exact ⟨rfl, o_eqB rfl (ev_tmp h51) rfl (by decide)⟩)
    case z110 =>
    intro a F0
    replace hs := F0.z.trans hs
    replace hd := F0.e.trans hd
    replace h1 := (F0.n 1 (by decide)).trans h1
    replace h2 := (F0.n 2 (by decide)).trans h2
    replace h8 := (F0.n 8 (by decide)).trans h8
    replace h11 := (F0.n 11 (by decide)).trans h11
    replace h51 := (F0.n 51 (by decide)).trans h51
    replace h55 := (F0.n 55 (by decide)).trans h55
    have h60 := F0.s
    clear F0
    refine opL 1 59 (v := .bool false) (w' := w7) (by kernel_rfl) (by rw [hs]; decide) ?z111 ?z112
    case z111 => (intro o ho; obtain rfl := Option.some.inj ho; exact ⟨rfl, k_assign rfl (ev_tmp h60)⟩)
    case z112 =>
    intro a F0
    replace hs := F0.z.trans hs
    replace hd := F0.e.trans hd
    replace h1 := (F0.n 1 (by decide)).trans h1
    replace h2 := (F0.n 2 (by decide)).trans h2
    replace h8 := (F0.n 8 (by decide)).trans h8
    replace h11 := (F0.n 11 (by decide)).trans h11
    replace h51 := (F0.n 51 (by decide)).trans h51
    replace h55 := (F0.n 55 (by decide)).trans h55
    clear h60
    have h59 := F0.s
    clear F0
    refine wp_cond_false (ev_tmp h59) ?_
    refine wp_seq ?_
    refine wp_region (show wpOps _ _ _ [0, 1] _ _ from ?_)
    refine opL 0 64 (v := .bool false) (w' := w7) (by kernel_rfl) (by rw [hs]; decide) ?z113 ?z114
    case z113 => (intro o ho; obtain rfl := Option.some.inj ho; exact ⟨rfl, o_eqB rfl (ev_tmp h51) rfl (by decide)⟩)
    case z114 =>
    intro a F0
    replace hs := F0.z.trans hs
    replace hd := F0.e.trans hd
    replace h1 := (F0.n 1 (by decide)).trans h1
    replace h2 := (F0.n 2 (by decide)).trans h2
    replace h8 := (F0.n 8 (by decide)).trans h8
    replace h11 := (F0.n 11 (by decide)).trans h11
    replace h51 := (F0.n 51 (by decide)).trans h51
    replace h55 := (F0.n 55 (by decide)).trans h55
    replace h59 := (F0.n 59 (by decide)).trans h59
    have h64 := F0.s
    clear F0
    refine opL 1 63 (v := .bool false) (w' := w7) (by kernel_rfl) (by rw [hs]; decide) ?z115 ?z116
    case z115 => (intro o ho; obtain rfl := Option.some.inj ho; exact ⟨rfl, k_assign rfl (ev_tmp h64)⟩)
    case z116 =>
    intro a F0
    replace hs := F0.z.trans hs
    replace hd := F0.e.trans hd
    replace h1 := (F0.n 1 (by decide)).trans h1
    replace h2 := (F0.n 2 (by decide)).trans h2
    replace h8 := (F0.n 8 (by decide)).trans h8
    replace h11 := (F0.n 11 (by decide)).trans h11
    replace h51 := (F0.n 51 (by decide)).trans h51
    replace h55 := (F0.n 55 (by decide)).trans h55
    replace h59 := (F0.n 59 (by decide)).trans h59
    clear h64
    have h63 := F0.s
    clear F0
    refine wp_cond_false (ev_tmp h63) ?_
    refine wp_seq ?_
    refine wp_region (show wpOps _ _ _ [0, 1] _ _ from ?_)
    refine opL 0 68 (v := .bool true) (w' := w7) (by kernel_rfl) (by rw [hs]; decide) ?z117 ?z118
    case z117 => (intro o ho; obtain rfl := Option.some.inj ho; exact ⟨rfl, o_eqB rfl (ev_tmp h51) rfl (by decide)⟩)
    case z118 =>
    intro a F0
    replace hs := F0.z.trans hs
    replace hd := F0.e.trans hd
    replace h1 := (F0.n 1 (by decide)).trans h1
    replace h2 := (F0.n 2 (by decide)).trans h2
    replace h8 := (F0.n 8 (by decide)).trans h8
    replace h11 := (F0.n 11 (by decide)).trans h11
    replace h51 := (F0.n 51 (by decide)).trans h51
    replace h55 := (F0.n 55 (by decide)).trans h55
    replace h59 := (F0.n 59 (by decide)).trans h59
    replace h63 := (F0.n 63 (by decide)).trans h63
    have h68 := F0.s
    clear F0
    refine opL 1 67 (v := .bool true) (w' := w7) (by kernel_rfl) (by rw [hs]; decide) ?z119 ?z120
    case z119 => (intro o ho; obtain rfl := Option.some.inj ho; exact ⟨rfl, k_assign rfl (ev_tmp h68)⟩)
    case z120 =>
    intro a F0
    replace hs := F0.z.trans hs
    replace hd := F0.e.trans hd
    replace h1 := (F0.n 1 (by decide)).trans h1
    replace h2 := (F0.n 2 (by decide)).trans h2
    replace h8 := (F0.n 8 (by decide)).trans h8
    replace h11 := (F0.n 11 (by decide)).trans h11
    replace h51 := (F0.n 51 (by decide)).trans h51
    replace h55 := (F0.n 55 (by decide)).trans h55
    replace h59 := (F0.n 59 (by decide)).trans h59
    replace h63 := (F0.n 63 (by decide)).trans h63
    clear h68
    have h67 := F0.s
    clear F0
    refine wp_cond_true (ev_tmp h67) ?_
    refine wp_region (show wpOps _ _ _ [0, 1, 2] _ _ from ?_)
    refine opL 0 69 (v := .int .i64 n) (w' := w7) (by kernel_rfl) (by rw [hs]; decide) ?z121 ?z122
    case z121 => (intro o ho; obtain rfl := Option.some.inj ho; exact ⟨rfl, k_move rfl (ev_tmp h2)⟩)
    case z122 =>
    intro a F0
    replace hs := F0.z.trans hs
    replace hd := F0.e.trans hd
    replace h1 := (F0.n 1 (by decide)).trans h1
    replace h2 := (F0.n 2 (by decide)).trans h2
    replace h8 := (F0.n 8 (by decide)).trans h8
    replace h11 := (F0.n 11 (by decide)).trans h11
    replace h51 := (F0.n 51 (by decide)).trans h51
    replace h55 := (F0.n 55 (by decide)).trans h55
    replace h59 := (F0.n 59 (by decide)).trans h59
    replace h63 := (F0.n 63 (by decide)).trans h63
    replace h67 := (F0.n 67 (by decide)).trans h67
    have h69 := F0.s
    clear F0
    refine opL 1 70 (v := .pointer (some ⟨w4.heap.size, 3, none⟩)) (w' := w7) (by kernel_rfl) (by rw [hs]; decide) ?z123 ?z124
    case z123 => (intro o ho; obtain rfl := Option.some.inj ho; exact ⟨rfl, k_field3 rfl (ev_tmp h11)⟩)
    case z124 =>
    intro a F0
    replace hs := F0.z.trans hs
    replace hd := F0.e.trans hd
    replace h1 := (F0.n 1 (by decide)).trans h1
    replace h2 := (F0.n 2 (by decide)).trans h2
    replace h8 := (F0.n 8 (by decide)).trans h8
    replace h11 := (F0.n 11 (by decide)).trans h11
    replace h51 := (F0.n 51 (by decide)).trans h51
    replace h55 := (F0.n 55 (by decide)).trans h55
    replace h59 := (F0.n 59 (by decide)).trans h59
    replace h63 := (F0.n 63 (by decide)).trans h63
    replace h67 := (F0.n 67 (by decide)).trans h67
    replace h69 := (F0.n 69 (by decide)).trans h69
    have h70 := F0.s
    clear F0
    refine opL_store 2 (w' := (w7.setCell ⟨w4.heap.size, 3, none⟩ (.int .i64 n))) (by kernel_rfl) ?z125 ?z126
    case z125 => (intro o ho; obtain rfl := Option.some.inj ho; exact ⟨rfl, k_storeU rfl (ev_tmp h70) (ev_tmp h69) B7 (by simp)⟩)
    case z126 =>
    clear h69
    clear h70
    obtain ⟨w8, hww8⟩ : ∃ wn, wn = w7.setCell ⟨w4.heap.size, 3, none⟩ (.int .i64 n) := ⟨_, rfl⟩
    rw [← hww8]
    have B8 : Blk w8 w4.heap.size 38 #[.int .i64 (F.tmod 4), .int .i64 (Mk.iv I), .int .i64 (Mk.cnt E C), .int .i64 n, .slice A1 (Mk.mon lm).length c1, .slice A2 (Mk.D F ld).length c2, .slice A3 ((Mk.W F lw).map (·.1)).length c3, .slice A4 (Mk.P F lm ld lw lp).length c4] := by rw [hww8]; exact B7.set 3 _
    have e8 : ∀ B, Exc B w4.heap.size w7 w8 := by rw [hww8]; exact exc_set w7 w4.heap.size 3 _
    clear hww8
    refine wp_seq ?_
    have L8 := (F7.exc (e8 w7.heap.size) (.inr (Nat.le_refl _)) t1 t2 t3 t4).lists
    have r8 := R7.trans ((e8 w.heap.size).below (by omega))
    have hx := fun Q hQ => twoMay a w8 Q hQ _ _ _ _ _ _ _ _ _ _ _ _ _ _ _ _ _ hs h11 B8.rule L8
    refine hx _ ?hb28 ?hr28
    case hb28 => (repeat (first | exact hQ | refine blind_then ?_ | refine blind_block ?_))
    case hr28 =>
    intro a wz h10 hd' lz
    replace hd := hd'.trans hd
    refine wp_ret ?_
    exact hfin a wz hd h10 (r8.trans (lz.mono r8.size))
  · refine wp_seq ?_
    refine wp_seq ?_
    refine wp_region (show wpOps _ _ _ [0, 1] _ _ from ?_)
    refine opL 0 50 (v := .int .u8 what) (w' := w7) (by kernel_rfl) (by rw [hs]; decide) ?z127 ?z128
    case z127 => (intro o ho; obtain rfl := Option.some.inj ho; exact ⟨rfl, k_move rfl (ev_tmp h1)⟩)
    case z128 =>
    intro a F0
    replace hs := F0.z.trans hs
    replace hd := F0.e.trans hd
    replace h1 := (F0.n 1 (by decide)).trans h1
    replace h2 := (F0.n 2 (by decide)).trans h2
    replace h8 := (F0.n 8 (by decide)).trans h8
    replace h11 := (F0.n 11 (by decide)).trans h11
    have h50 := F0.s
    clear F0
    refine opL 1 51 (v := .int .u8 4) (w' := w7) (by kernel_rfl) (by rw [hs]; decide) ?z129 ?z130
    case z129 => (intro o ho; obtain rfl := Option.some.inj ho; exact ⟨rfl, o_remB rfl (ev_tmp h50) rfl (by decide) hk⟩)
    case z130 =>
    intro a F0
    replace hs := F0.z.trans hs
    replace hd := F0.e.trans hd
    replace h1 := (F0.n 1 (by decide)).trans h1
    replace h2 := (F0.n 2 (by decide)).trans h2
    replace h8 := (F0.n 8 (by decide)).trans h8
    replace h11 := (F0.n 11 (by decide)).trans h11
    clear h50
    have h51 := F0.s
    clear F0
    refine wp_block ?_
    refine wp_seq ?_
    refine wp_region (show wpOps _ _ _ [0, 1] _ _ from ?_)
    refine opL 0 56 (v := .bool false) (w' := w7) (by kernel_rfl) (by rw [hs]; decide) ?z131 ?z132
    case z131 => (intro o ho; obtain rfl := Option.some.inj ho; exact ⟨rfl, o_eqB rfl (ev_tmp h51) rfl (by decide)⟩)
    case z132 =>
    intro a F0
    replace hs := F0.z.trans hs
    replace hd := F0.e.trans hd
    replace h1 := (F0.n 1 (by decide)).trans h1
    replace h2 := (F0.n 2 (by decide)).trans h2
    replace h8 := (F0.n 8 (by decide)).trans h8
    replace h11 := (F0.n 11 (by decide)).trans h11
    replace h51 := (F0.n 51 (by decide)).trans h51
    have h56 := F0.s
    clear F0
    refine opL 1 55 (v := .bool false) (w' := w7) (by kernel_rfl) (by rw [hs]; decide) ?z133 ?z134
    case z133 => (intro o ho; obtain rfl := Option.some.inj ho; exact ⟨rfl, k_assign rfl (ev_tmp h56)⟩)
    case z134 =>
    intro a F0
    replace hs := F0.z.trans hs
    replace hd := F0.e.trans hd
    replace h1 := (F0.n 1 (by decide)).trans h1
    replace h2 := (F0.n 2 (by decide)).trans h2
    replace h8 := (F0.n 8 (by decide)).trans h8
    replace h11 := (F0.n 11 (by decide)).trans h11
    replace h51 := (F0.n 51 (by decide)).trans h51
    clear h56
    have h55 := F0.s
    clear F0
    refine wp_cond_false (ev_tmp h55) ?_
    refine wp_seq ?_
    refine wp_region (show wpOps _ _ _ [0, 1] _ _ from ?_)
    refine opL 0 60 (v := .bool false) (w' := w7) (by kernel_rfl) (by rw [hs]; decide) ?z135 ?z136
    case z135 => (intro o ho; obtain rfl := Option.some.inj ho; exact ⟨rfl, o_eqB rfl (ev_tmp h51) rfl (by decide)⟩)
    case z136 =>
    intro a F0
    replace hs := F0.z.trans hs
    replace hd := F0.e.trans hd
    replace h1 := (F0.n 1 (by decide)).trans h1
    replace h2 := (F0.n 2 (by decide)).trans h2
    replace h8 := (F0.n 8 (by decide)).trans h8
    replace h11 := (F0.n 11 (by decide)).trans h11
    replace h51 := (F0.n 51 (by decide)).trans h51
    replace h55 := (F0.n 55 (by decide)).trans h55
    have h60 := F0.s
    clear F0
    refine opL 1 59 (v := .bool false) (w' := w7) (by kernel_rfl) (by rw [hs]; decide) ?z137 ?z138
    case z137 => (intro o ho; obtain rfl := Option.some.inj ho; exact ⟨rfl, k_assign rfl (ev_tmp h60)⟩)
    case z138 =>
    intro a F0
    replace hs := F0.z.trans hs
    replace hd := F0.e.trans hd
    replace h1 := (F0.n 1 (by decide)).trans h1
    replace h2 := (F0.n 2 (by decide)).trans h2
    replace h8 := (F0.n 8 (by decide)).trans h8
    replace h11 := (F0.n 11 (by decide)).trans h11
    replace h51 := (F0.n 51 (by decide)).trans h51
    replace h55 := (F0.n 55 (by decide)).trans h55
    clear h60
    have h59 := F0.s
    clear F0
    refine wp_cond_false (ev_tmp h59) ?_
    refine wp_seq ?_
    refine wp_region (show wpOps _ _ _ [0, 1] _ _ from ?_)
    refine opL 0 64 (v := .bool false) (w' := w7) (by kernel_rfl) (by rw [hs]; decide) ?z139 ?z140
    case z139 => (intro o ho; obtain rfl := Option.some.inj ho; exact ⟨rfl, o_eqB rfl (ev_tmp h51) rfl (by decide)⟩)
    case z140 =>
    intro a F0
    replace hs := F0.z.trans hs
    replace hd := F0.e.trans hd
    replace h1 := (F0.n 1 (by decide)).trans h1
    replace h2 := (F0.n 2 (by decide)).trans h2
    replace h8 := (F0.n 8 (by decide)).trans h8
    replace h11 := (F0.n 11 (by decide)).trans h11
    replace h51 := (F0.n 51 (by decide)).trans h51
    replace h55 := (F0.n 55 (by decide)).trans h55
    replace h59 := (F0.n 59 (by decide)).trans h59
    have h64 := F0.s
    clear F0
    refine opL 1 63 (v := .bool false) (w' := w7) (by kernel_rfl) (by rw [hs]; decide) ?z141 ?z142
    case z141 => (intro o ho; obtain rfl := Option.some.inj ho; exact ⟨rfl, k_assign rfl (ev_tmp h64)⟩)
    case z142 =>
    intro a F0
    replace hs := F0.z.trans hs
    replace hd := F0.e.trans hd
    replace h1 := (F0.n 1 (by decide)).trans h1
    replace h2 := (F0.n 2 (by decide)).trans h2
    replace h8 := (F0.n 8 (by decide)).trans h8
    replace h11 := (F0.n 11 (by decide)).trans h11
    replace h51 := (F0.n 51 (by decide)).trans h51
    replace h55 := (F0.n 55 (by decide)).trans h55
    replace h59 := (F0.n 59 (by decide)).trans h59
    clear h64
    have h63 := F0.s
    clear F0
    refine wp_cond_false (ev_tmp h63) ?_
    refine wp_seq ?_
    refine wp_region (show wpOps _ _ _ [0, 1] _ _ from ?_)
    refine opL 0 68 (v := .bool false) (w' := w7) (by kernel_rfl) (by rw [hs]; decide) ?z143 ?z144
    case z143 => (intro o ho; obtain rfl := Option.some.inj ho; exact ⟨rfl, o_eqB rfl (ev_tmp h51) rfl (by decide)⟩)
    case z144 =>
    intro a F0
    replace hs := F0.z.trans hs
    replace hd := F0.e.trans hd
    replace h1 := (F0.n 1 (by decide)).trans h1
    replace h2 := (F0.n 2 (by decide)).trans h2
    replace h8 := (F0.n 8 (by decide)).trans h8
    replace h11 := (F0.n 11 (by decide)).trans h11
    replace h51 := (F0.n 51 (by decide)).trans h51
    replace h55 := (F0.n 55 (by decide)).trans h55
    replace h59 := (F0.n 59 (by decide)).trans h59
    replace h63 := (F0.n 63 (by decide)).trans h63
    have h68 := F0.s
    clear F0
    refine opL 1 67 (v := .bool false) (w' := w7) (by kernel_rfl) (by rw [hs]; decide) ?z145 ?z146
    case z145 => (intro o ho; obtain rfl := Option.some.inj ho; exact ⟨rfl, k_assign rfl (ev_tmp h68)⟩)
    case z146 =>
    intro a F0
    replace hs := F0.z.trans hs
    replace hd := F0.e.trans hd
    replace h1 := (F0.n 1 (by decide)).trans h1
    replace h2 := (F0.n 2 (by decide)).trans h2
    replace h8 := (F0.n 8 (by decide)).trans h8
    replace h11 := (F0.n 11 (by decide)).trans h11
    replace h51 := (F0.n 51 (by decide)).trans h51
    replace h55 := (F0.n 55 (by decide)).trans h55
    replace h59 := (F0.n 59 (by decide)).trans h59
    replace h63 := (F0.n 63 (by decide)).trans h63
    clear h68
    have h67 := F0.s
    clear F0
    refine wp_cond_false (ev_tmp h67) ?_
    refine wp_seq ?_
    refine wp_region (show wpOps _ _ _ [0, 1] _ _ from ?_)
    refine opL 0 72 (v := .bool true) (w' := w7) (by kernel_rfl) (by rw [hs]; decide) ?z147 ?z148
    case z147 => (intro o ho; obtain rfl := Option.some.inj ho; exact ⟨rfl, o_eqB rfl (ev_tmp h51) rfl (by decide)⟩)
    case z148 =>
    intro a F0
    replace hs := F0.z.trans hs
    replace hd := F0.e.trans hd
    replace h1 := (F0.n 1 (by decide)).trans h1
    replace h2 := (F0.n 2 (by decide)).trans h2
    replace h8 := (F0.n 8 (by decide)).trans h8
    replace h11 := (F0.n 11 (by decide)).trans h11
    replace h51 := (F0.n 51 (by decide)).trans h51
    replace h55 := (F0.n 55 (by decide)).trans h55
    replace h59 := (F0.n 59 (by decide)).trans h59
    replace h63 := (F0.n 63 (by decide)).trans h63
    replace h67 := (F0.n 67 (by decide)).trans h67
    have h72 := F0.s
    clear F0
    refine opL 1 71 (v := .bool true) (w' := w7) (by kernel_rfl) (by rw [hs]; decide) ?z149 ?z150
    case z149 => (intro o ho; obtain rfl := Option.some.inj ho; exact ⟨rfl, k_assign rfl (ev_tmp h72)⟩)
    case z150 =>
    intro a F0
    replace hs := F0.z.trans hs
    replace hd := F0.e.trans hd
    replace h1 := (F0.n 1 (by decide)).trans h1
    replace h2 := (F0.n 2 (by decide)).trans h2
    replace h8 := (F0.n 8 (by decide)).trans h8
    replace h11 := (F0.n 11 (by decide)).trans h11
    replace h51 := (F0.n 51 (by decide)).trans h51
    replace h55 := (F0.n 55 (by decide)).trans h55
    replace h59 := (F0.n 59 (by decide)).trans h59
    replace h63 := (F0.n 63 (by decide)).trans h63
    replace h67 := (F0.n 67 (by decide)).trans h67
    clear h72
    have h71 := F0.s
    clear F0
    refine wp_cond_true (ev_tmp h71) ?_
    refine wp_region (show wpOps _ _ _ [0, 1, 2, 3, 4, 5, 6] _ _ from ?_)
    refine opL 0 73 (v := .pointer (some ⟨w4.heap.size, 4, none⟩)) (w' := w7) (by kernel_rfl) (by rw [hs]; decide) ?z151 ?z152
    case z151 => (intro o ho; obtain rfl := Option.some.inj ho; exact ⟨rfl, k_field4 rfl (ev_tmp h11)⟩)
    case z152 =>
    intro a F0
    replace hs := F0.z.trans hs
    replace hd := F0.e.trans hd
    replace h1 := (F0.n 1 (by decide)).trans h1
    replace h2 := (F0.n 2 (by decide)).trans h2
    replace h8 := (F0.n 8 (by decide)).trans h8
    replace h11 := (F0.n 11 (by decide)).trans h11
    replace h51 := (F0.n 51 (by decide)).trans h51
    replace h55 := (F0.n 55 (by decide)).trans h55
    replace h59 := (F0.n 59 (by decide)).trans h59
    replace h63 := (F0.n 63 (by decide)).trans h63
    replace h67 := (F0.n 67 (by decide)).trans h67
    replace h71 := (F0.n 71 (by decide)).trans h71
    have h73 := F0.s
    clear F0
    refine opL 1 74 (v := .slice A1 (Mk.mon lm).length c1) (w' := w7) (by kernel_rfl) (by rw [hs]; decide) ?z153 ?z154
    case z153 => (intro o ho; obtain rfl := Option.some.inj ho; exact ⟨rfl, k_loadL rfl (ev_tmp h73) (B7.cell 4)⟩)
    case z154 =>
    intro a F0
    replace hs := F0.z.trans hs
    replace hd := F0.e.trans hd
    replace h1 := (F0.n 1 (by decide)).trans h1
    replace h2 := (F0.n 2 (by decide)).trans h2
    replace h8 := (F0.n 8 (by decide)).trans h8
    replace h11 := (F0.n 11 (by decide)).trans h11
    replace h51 := (F0.n 51 (by decide)).trans h51
    replace h55 := (F0.n 55 (by decide)).trans h55
    replace h59 := (F0.n 59 (by decide)).trans h59
    replace h63 := (F0.n 63 (by decide)).trans h63
    replace h67 := (F0.n 67 (by decide)).trans h67
    replace h71 := (F0.n 71 (by decide)).trans h71
    clear h73
    have h74 := F0.s
    clear F0
    refine opL 2 75 (v := .int .i64 n) (w' := w7) (by kernel_rfl) (by rw [hs]; decide) ?z155 ?z156
    case z155 => (intro o ho; obtain rfl := Option.some.inj ho; exact ⟨rfl, k_move rfl (ev_tmp h2)⟩)
    case z156 =>
    intro a F0
    replace hs := F0.z.trans hs
    replace hd := F0.e.trans hd
    replace h1 := (F0.n 1 (by decide)).trans h1
    replace h2 := (F0.n 2 (by decide)).trans h2
    replace h8 := (F0.n 8 (by decide)).trans h8
    replace h11 := (F0.n 11 (by decide)).trans h11
    replace h51 := (F0.n 51 (by decide)).trans h51
    replace h55 := (F0.n 55 (by decide)).trans h55
    replace h59 := (F0.n 59 (by decide)).trans h59
    replace h63 := (F0.n 63 (by decide)).trans h63
    replace h67 := (F0.n 67 (by decide)).trans h67
    replace h71 := (F0.n 71 (by decide)).trans h71
    replace h74 := (F0.n 74 (by decide)).trans h74
    have h75 := F0.s
    clear F0
    refine opL 3 76 (v := .slice (some ⟨w7.heap.size, 0, none⟩) 1 1) (w' := (w7.alloc (.cells #[.int .i64 n] 3))) (by kernel_rfl) (by rw [hs]; decide) ?z157 ?z158
    case z157 => (intro o ho; obtain rfl := Option.some.inj ho; exact ⟨rfl, k_slice1 rfl (ev_tmp h75)⟩)
    case z158 =>
    intro a F0
    replace hs := F0.z.trans hs
    replace hd := F0.e.trans hd
    replace h1 := (F0.n 1 (by decide)).trans h1
    replace h2 := (F0.n 2 (by decide)).trans h2
    replace h8 := (F0.n 8 (by decide)).trans h8
    replace h11 := (F0.n 11 (by decide)).trans h11
    replace h51 := (F0.n 51 (by decide)).trans h51
    replace h55 := (F0.n 55 (by decide)).trans h55
    replace h59 := (F0.n 59 (by decide)).trans h59
    replace h63 := (F0.n 63 (by decide)).trans h63
    replace h67 := (F0.n 67 (by decide)).trans h67
    replace h71 := (F0.n 71 (by decide)).trans h71
    replace h74 := (F0.n 74 (by decide)).trans h74
    clear h75
    have h76 := F0.s
    clear F0
    obtain ⟨wa, hwa⟩ : ∃ wn, wn = w7.alloc (.cells #[.int .i64 n] 3) := ⟨_, rfl⟩
    rw [← hwa]
    have qa : Blk wa w7.heap.size 3 #[.int .i64 n] := by rw [hwa]; exact Blk.alloc _ _ _
    have la : Below w7.heap.size w7 wa := by rw [hwa]; exact (Below.refl _ _).alloc (Nat.le_refl _) _
    clear hwa
    have Fa := F7.below la
    have Ba := B7.below la B7.lt
    have hza := la.size
    obtain ⟨v', wb, hr, ob, gb⟩ := append_int_g (c := 1) (Fa.oM.base (Nat.le_refl _)) (qa.cell 0) (by omega) (by omega)
    obtain ⟨A', cap', rfl, -, -, -⟩ := ob.ints
    have hown : ∀ g, (Value.slice A1 (Mk.mon lm).length c1).ownBlock = some g → g < w4.heap.size := fun g hg => (F4.oM.lt g hg).2
    have Bb := Ba.grown gb (fun e => by have := hown _ e; omega)
    refine opL 4 77 (v := .slice A' ((Mk.mon lm) ++ [n]).length cap') (w' := wb) (by kernel_rfl) (by rw [hs]; decide) ?z159 ?z160
    case z159 => (intro o ho; obtain rfl := Option.some.inj ho; exact ⟨rfl, k_append rfl rfl (ev_tmp h74) (ev_tmp h76) hr⟩)
    case z160 =>
    intro a F0
    replace hs := F0.z.trans hs
    replace hd := F0.e.trans hd
    replace h1 := (F0.n 1 (by decide)).trans h1
    replace h2 := (F0.n 2 (by decide)).trans h2
    replace h8 := (F0.n 8 (by decide)).trans h8
    replace h11 := (F0.n 11 (by decide)).trans h11
    replace h51 := (F0.n 51 (by decide)).trans h51
    replace h55 := (F0.n 55 (by decide)).trans h55
    replace h59 := (F0.n 59 (by decide)).trans h59
    replace h63 := (F0.n 63 (by decide)).trans h63
    replace h67 := (F0.n 67 (by decide)).trans h67
    replace h71 := (F0.n 71 (by decide)).trans h71
    clear h74
    clear h76
    have h77 := F0.s
    clear F0
    refine opL 5 78 (v := .pointer (some ⟨w4.heap.size, 4, none⟩)) (w' := wb) (by kernel_rfl) (by rw [hs]; decide) ?z161 ?z162
    case z161 => (intro o ho; obtain rfl := Option.some.inj ho; exact ⟨rfl, k_field4 rfl (ev_tmp h11)⟩)
    case z162 =>
    intro a F0
    replace hs := F0.z.trans hs
    replace hd := F0.e.trans hd
    replace h1 := (F0.n 1 (by decide)).trans h1
    replace h2 := (F0.n 2 (by decide)).trans h2
    replace h8 := (F0.n 8 (by decide)).trans h8
    replace h11 := (F0.n 11 (by decide)).trans h11
    replace h51 := (F0.n 51 (by decide)).trans h51
    replace h55 := (F0.n 55 (by decide)).trans h55
    replace h59 := (F0.n 59 (by decide)).trans h59
    replace h63 := (F0.n 63 (by decide)).trans h63
    replace h67 := (F0.n 67 (by decide)).trans h67
    replace h71 := (F0.n 71 (by decide)).trans h71
    replace h77 := (F0.n 77 (by decide)).trans h77
    have h78 := F0.s
    clear F0
    refine opL_store 6 (w' := (wb.setCell ⟨w4.heap.size, 4, none⟩ (.slice A' ((Mk.mon lm) ++ [n]).length cap'))) (by kernel_rfl) ?z163 ?z164
    case z163 => (intro o ho; obtain rfl := Option.some.inj ho; exact ⟨rfl, k_storeL rfl (ev_tmp h78) (ev_tmp h77) Bb (by simp)⟩)
    case z164 =>
    clear h77
    clear h78
    obtain ⟨w8, hww8⟩ : ∃ wn, wn = wb.setCell ⟨w4.heap.size, 4, none⟩ (.slice A' ((Mk.mon lm) ++ [n]).length cap') := ⟨_, rfl⟩
    rw [← hww8]
    have B8 : Blk w8 w4.heap.size 38 #[.int .i64 (F.tmod 4), .int .i64 (Mk.iv I), .int .i64 (Mk.cnt E C), .int .i64 (Mk.unt E U), .slice A' ((Mk.mon lm) ++ [n]).length cap', .slice A2 (Mk.D F ld).length c2, .slice A3 ((Mk.W F lw).map (·.1)).length c3, .slice A4 (Mk.P F lm ld lw lp).length c4] := by rw [hww8]; exact Bb.set 4 _
    have e8 : ∀ B, Exc B w4.heap.size wb w8 := by rw [hww8]; exact exc_set wb w4.heap.size 4 _
    clear hww8
    refine wp_seq ?_
    have hob : ∀ g, (Value.slice A' ((Mk.mon lm) ++ [n]).length cap').ownBlock = some g → g ≠ w4.heap.size := fun g hg e => by
      subst e
      have := ob.blk w4.heap.size hg
      rw [show wb.heap[w4.heap.size]? = _ from Bb] at this
      exact absurd (show (38 : Nat) = 3 from this) (by decide)
    have hj1 := (ob.exc (e8 wb.heap.size) (fun g hg => ⟨(ob.lt g hg).2, hob g hg⟩)).inn
    have hj2 := ((own_kept Fa.oD gb (fun g hg g' e h => by have a1 := F4.gM g' e; have a2 := (F4.oD.lt g hg).1; have := F4.hW; have := F4.hP; omega)).exc (e8 wb.heap.size) (fun g hg => ⟨(own_kept Fa.oD gb (fun g hg g' e h => by have a1 := F4.gM g' e; have a2 := (F4.oD.lt g hg).1; have := F4.hW; have := F4.hP; omega)).lt g hg |>.2, by have := (F4.oD.lt g hg).2; omega⟩)).inn
    have hj3 := ((own_keptN Fa.oW gb (fun g hg g' e h => by have a1 := F4.gM g' e; have a2 := (F4.oW.lt g hg).1; have := F4.hW; have := F4.hP; omega)).exc (e8 wb.heap.size) (fun g hg => ⟨(own_keptN Fa.oW gb (fun g hg g' e h => by have a1 := F4.gM g' e; have a2 := (F4.oW.lt g hg).1; have := F4.hW; have := F4.hP; omega)).lt g hg |>.2, by have := (F4.oW.lt g hg).2; omega⟩)).inn
    have hj4 := ((own_kept Fa.oP gb (fun g hg g' e h => by have a1 := F4.gM g' e; have a2 := (F4.oP.lt g hg).1; have := F4.hW; have := F4.hP; omega)).exc (e8 wb.heap.size) (fun g hg => ⟨(own_kept Fa.oP gb (fun g hg g' e h => by have a1 := F4.gM g' e; have a2 := (F4.oP.lt g hg).1; have := F4.hW; have := F4.hP; omega)).lt g hg |>.2, by have := (F4.oP.lt g hg).2; omega⟩)).inn
    have L8 : ListsIn w8 A' A2 A3 A4 ((Mk.mon lm) ++ [n]) (Mk.D F ld) ((Mk.W F lw).map (·.1)) (Mk.P F lm ld lw lp) := ⟨hj1.2, hj2.2, hj3.2, hj4.2, hj1.1, hj2.1, hj3.1, hj4.1⟩
    have gx : Exc w.heap.size w.heap.size wa wb := ⟨gb.os, gb.tape, gb.output, gb.size, fun k h1 _ => gb.block k (by have := R7.size; omega) (fun e => by have := (Fa.oM.lt k e.symm).1; have := F4.hD; have := F4.hW; have := F4.hP; have := m4.size; omega)⟩
    have r8 := ((R7.trans (la.mono R7.size)).trans (gx.below (Nat.le_refl _))).trans ((e8 w.heap.size).below (by omega))
    have hx := fun Q hQ => twoMay a w8 Q hQ _ _ _ _ _ _ _ _ _ _ _ _ _ _ _ _ _ hs h11 B8.rule L8
    refine hx _ ?hb28 ?hr28
    case hb28 => (repeat (first | exact hQ | refine blind_then ?_ | refine blind_block ?_))
    case hr28 =>
    intro a wz h10 hd' lz
    replace hd := hd'.trans hd
    refine wp_ret ?_
    exact hfin a wz hd h10 (r8.trans (lz.mono r8.size))
  · refine wp_seq ?_
    refine wp_seq ?_
    refine wp_region (show wpOps _ _ _ [0, 1] _ _ from ?_)
    refine opL 0 50 (v := .int .u8 what) (w' := w7) (by kernel_rfl) (by rw [hs]; decide) ?z165 ?z166
    case z165 => (intro o ho; obtain rfl := Option.some.inj ho; exact ⟨rfl, k_move rfl (ev_tmp h1)⟩)
    case z166 =>
    intro a F0
    replace hs := F0.z.trans hs
    replace hd := F0.e.trans hd
    replace h1 := (F0.n 1 (by decide)).trans h1
    replace h2 := (F0.n 2 (by decide)).trans h2
    replace h8 := (F0.n 8 (by decide)).trans h8
    replace h11 := (F0.n 11 (by decide)).trans h11
    have h50 := F0.s
    clear F0
    refine opL 1 51 (v := .int .u8 5) (w' := w7) (by kernel_rfl) (by rw [hs]; decide) ?z167 ?z168
    case z167 => (intro o ho; obtain rfl := Option.some.inj ho; exact ⟨rfl, o_remB rfl (ev_tmp h50) rfl (by decide) hk⟩)
    case z168 =>
    intro a F0
    replace hs := F0.z.trans hs
    replace hd := F0.e.trans hd
    replace h1 := (F0.n 1 (by decide)).trans h1
    replace h2 := (F0.n 2 (by decide)).trans h2
    replace h8 := (F0.n 8 (by decide)).trans h8
    replace h11 := (F0.n 11 (by decide)).trans h11
    clear h50
    have h51 := F0.s
    clear F0
    refine wp_block ?_
    refine wp_seq ?_
    refine wp_region (show wpOps _ _ _ [0, 1] _ _ from ?_)
    refine opL 0 56 (v := .bool false) (w' := w7) (by kernel_rfl) (by rw [hs]; decide) ?z169 ?z170
    case z169 => (intro o ho; obtain rfl := Option.some.inj ho; exact ⟨rfl, o_eqB rfl (ev_tmp h51) rfl (by decide)⟩)
    case z170 =>
    intro a F0
    replace hs := F0.z.trans hs
    replace hd := F0.e.trans hd
    replace h1 := (F0.n 1 (by decide)).trans h1
    replace h2 := (F0.n 2 (by decide)).trans h2
    replace h8 := (F0.n 8 (by decide)).trans h8
    replace h11 := (F0.n 11 (by decide)).trans h11
    replace h51 := (F0.n 51 (by decide)).trans h51
    have h56 := F0.s
    clear F0
    refine opL 1 55 (v := .bool false) (w' := w7) (by kernel_rfl) (by rw [hs]; decide) ?z171 ?z172
    case z171 => (intro o ho; obtain rfl := Option.some.inj ho; exact ⟨rfl, k_assign rfl (ev_tmp h56)⟩)
    case z172 =>
    intro a F0
    replace hs := F0.z.trans hs
    replace hd := F0.e.trans hd
    replace h1 := (F0.n 1 (by decide)).trans h1
    replace h2 := (F0.n 2 (by decide)).trans h2
    replace h8 := (F0.n 8 (by decide)).trans h8
    replace h11 := (F0.n 11 (by decide)).trans h11
    replace h51 := (F0.n 51 (by decide)).trans h51
    clear h56
    have h55 := F0.s
    clear F0
    refine wp_cond_false (ev_tmp h55) ?_
    refine wp_seq ?_
    refine wp_region (show wpOps _ _ _ [0, 1] _ _ from ?_)
    refine opL 0 60 (v := .bool false) (w' := w7) (by kernel_rfl) (by rw [hs]; decide) ?z173 ?z174
    case z173 => (intro o ho; obtain rfl := Option.some.inj ho; exact ⟨rfl, o_eqB rfl (ev_tmp h51) rfl (by decide)⟩)
    case z174 =>
    intro a F0
    replace hs := F0.z.trans hs
    replace hd := F0.e.trans hd
    replace h1 := (F0.n 1 (by decide)).trans h1
    replace h2 := (F0.n 2 (by decide)).trans h2
    replace h8 := (F0.n 8 (by decide)).trans h8
    replace h11 := (F0.n 11 (by decide)).trans h11
    replace h51 := (F0.n 51 (by decide)).trans h51
    replace h55 := (F0.n 55 (by decide)).trans h55
    have h60 := F0.s
    clear F0
    refine opL 1 59 (v := .bool false) (w' := w7) (by kernel_rfl) (by rw [hs]; decide) ?z175 ?z176
    case z175 => (intro o ho; obtain rfl := Option.some.inj ho; exact ⟨rfl, k_assign rfl (ev_tmp h60)⟩)
    case z176 =>
    intro a F0
    replace hs := F0.z.trans hs
    replace hd := F0.e.trans hd
    replace h1 := (F0.n 1 (by decide)).trans h1
    replace h2 := (F0.n 2 (by decide)).trans h2
    replace h8 := (F0.n 8 (by decide)).trans h8
    replace h11 := (F0.n 11 (by decide)).trans h11
    replace h51 := (F0.n 51 (by decide)).trans h51
    replace h55 := (F0.n 55 (by decide)).trans h55
    clear h60
    have h59 := F0.s
    clear F0
    refine wp_cond_false (ev_tmp h59) ?_
    refine wp_seq ?_
    refine wp_region (show wpOps _ _ _ [0, 1] _ _ from ?_)
    refine opL 0 64 (v := .bool false) (w' := w7) (by kernel_rfl) (by rw [hs]; decide) ?z177 ?z178
    case z177 => (intro o ho; obtain rfl := Option.some.inj ho; exact ⟨rfl, o_eqB rfl (ev_tmp h51) rfl (by decide)⟩)
    case z178 =>
    intro a F0
    replace hs := F0.z.trans hs
    replace hd := F0.e.trans hd
    replace h1 := (F0.n 1 (by decide)).trans h1
    replace h2 := (F0.n 2 (by decide)).trans h2
    replace h8 := (F0.n 8 (by decide)).trans h8
    replace h11 := (F0.n 11 (by decide)).trans h11
    replace h51 := (F0.n 51 (by decide)).trans h51
    replace h55 := (F0.n 55 (by decide)).trans h55
    replace h59 := (F0.n 59 (by decide)).trans h59
    have h64 := F0.s
    clear F0
    refine opL 1 63 (v := .bool false) (w' := w7) (by kernel_rfl) (by rw [hs]; decide) ?z179 ?z180
    case z179 => (intro o ho; obtain rfl := Option.some.inj ho; exact ⟨rfl, k_assign rfl (ev_tmp h64)⟩)
    case z180 =>
    intro a F0
    replace hs := F0.z.trans hs
    replace hd := F0.e.trans hd
    replace h1 := (F0.n 1 (by decide)).trans h1
    replace h2 := (F0.n 2 (by decide)).trans h2
    replace h8 := (F0.n 8 (by decide)).trans h8
    replace h11 := (F0.n 11 (by decide)).trans h11
    replace h51 := (F0.n 51 (by decide)).trans h51
    replace h55 := (F0.n 55 (by decide)).trans h55
    replace h59 := (F0.n 59 (by decide)).trans h59
    clear h64
    have h63 := F0.s
    clear F0
    refine wp_cond_false (ev_tmp h63) ?_
    refine wp_seq ?_
    refine wp_region (show wpOps _ _ _ [0, 1] _ _ from ?_)
    refine opL 0 68 (v := .bool false) (w' := w7) (by kernel_rfl) (by rw [hs]; decide) ?z181 ?z182
    case z181 => (intro o ho; obtain rfl := Option.some.inj ho; exact ⟨rfl, o_eqB rfl (ev_tmp h51) rfl (by decide)⟩)
    case z182 =>
    intro a F0
    replace hs := F0.z.trans hs
    replace hd := F0.e.trans hd
    replace h1 := (F0.n 1 (by decide)).trans h1
    replace h2 := (F0.n 2 (by decide)).trans h2
    replace h8 := (F0.n 8 (by decide)).trans h8
    replace h11 := (F0.n 11 (by decide)).trans h11
    replace h51 := (F0.n 51 (by decide)).trans h51
    replace h55 := (F0.n 55 (by decide)).trans h55
    replace h59 := (F0.n 59 (by decide)).trans h59
    replace h63 := (F0.n 63 (by decide)).trans h63
    have h68 := F0.s
    clear F0
    refine opL 1 67 (v := .bool false) (w' := w7) (by kernel_rfl) (by rw [hs]; decide) ?z183 ?z184
    case z183 => (intro o ho; obtain rfl := Option.some.inj ho; exact ⟨rfl, k_assign rfl (ev_tmp h68)⟩)
    case z184 =>
    intro a F0
    replace hs := F0.z.trans hs
    replace hd := F0.e.trans hd
    replace h1 := (F0.n 1 (by decide)).trans h1
    replace h2 := (F0.n 2 (by decide)).trans h2
    replace h8 := (F0.n 8 (by decide)).trans h8
    replace h11 := (F0.n 11 (by decide)).trans h11
    replace h51 := (F0.n 51 (by decide)).trans h51
    replace h55 := (F0.n 55 (by decide)).trans h55
    replace h59 := (F0.n 59 (by decide)).trans h59
    replace h63 := (F0.n 63 (by decide)).trans h63
    clear h68
    have h67 := F0.s
    clear F0
    refine wp_cond_false (ev_tmp h67) ?_
    refine wp_seq ?_
    refine wp_region (show wpOps _ _ _ [0, 1] _ _ from ?_)
    refine opL 0 72 (v := .bool false) (w' := w7) (by kernel_rfl) (by rw [hs]; decide) ?z185 ?z186
    case z185 => (intro o ho; obtain rfl := Option.some.inj ho; exact ⟨rfl, o_eqB rfl (ev_tmp h51) rfl (by decide)⟩)
    case z186 =>
    intro a F0
    replace hs := F0.z.trans hs
    replace hd := F0.e.trans hd
    replace h1 := (F0.n 1 (by decide)).trans h1
    replace h2 := (F0.n 2 (by decide)).trans h2
    replace h8 := (F0.n 8 (by decide)).trans h8
    replace h11 := (F0.n 11 (by decide)).trans h11
    replace h51 := (F0.n 51 (by decide)).trans h51
    replace h55 := (F0.n 55 (by decide)).trans h55
    replace h59 := (F0.n 59 (by decide)).trans h59
    replace h63 := (F0.n 63 (by decide)).trans h63
    replace h67 := (F0.n 67 (by decide)).trans h67
    have h72 := F0.s
    clear F0
    refine opL 1 71 (v := .bool false) (w' := w7) (by kernel_rfl) (by rw [hs]; decide) ?z187 ?z188
    case z187 => (intro o ho; obtain rfl := Option.some.inj ho; exact ⟨rfl, k_assign rfl (ev_tmp h72)⟩)
    case z188 =>
    intro a F0
    replace hs := F0.z.trans hs
    replace hd := F0.e.trans hd
    replace h1 := (F0.n 1 (by decide)).trans h1
    replace h2 := (F0.n 2 (by decide)).trans h2
    replace h8 := (F0.n 8 (by decide)).trans h8
    replace h11 := (F0.n 11 (by decide)).trans h11
    replace h51 := (F0.n 51 (by decide)).trans h51
    replace h55 := (F0.n 55 (by decide)).trans h55
    replace h59 := (F0.n 59 (by decide)).trans h59
    replace h63 := (F0.n 63 (by decide)).trans h63
    replace h67 := (F0.n 67 (by decide)).trans h67
    clear h72
    have h71 := F0.s
    clear F0
    refine wp_cond_false (ev_tmp h71) ?_
    refine wp_seq ?_
    refine wp_region (show wpOps _ _ _ [0, 1] _ _ from ?_)
    refine opL 0 80 (v := .bool true) (w' := w7) (by kernel_rfl) (by rw [hs]; decide) ?z189 ?z190
    case z189 => (intro o ho; obtain rfl := Option.some.inj ho; exact ⟨rfl, o_eqB rfl (ev_tmp h51) rfl (by decide)⟩)
    case z190 =>
    intro a F0
    replace hs := F0.z.trans hs
    replace hd := F0.e.trans hd
    replace h1 := (F0.n 1 (by decide)).trans h1
    replace h2 := (F0.n 2 (by decide)).trans h2
    replace h8 := (F0.n 8 (by decide)).trans h8
    replace h11 := (F0.n 11 (by decide)).trans h11
    replace h51 := (F0.n 51 (by decide)).trans h51
    replace h55 := (F0.n 55 (by decide)).trans h55
    replace h59 := (F0.n 59 (by decide)).trans h59
    replace h63 := (F0.n 63 (by decide)).trans h63
    replace h67 := (F0.n 67 (by decide)).trans h67
    replace h71 := (F0.n 71 (by decide)).trans h71
    have h80 := F0.s
    clear F0
    refine opL 1 79 (v := .bool true) (w' := w7) (by kernel_rfl) (by rw [hs]; decide) ?z191 ?z192
    case z191 => (intro o ho; obtain rfl := Option.some.inj ho; exact ⟨rfl, k_assign rfl (ev_tmp h80)⟩)
    case z192 =>
    intro a F0
    replace hs := F0.z.trans hs
    replace hd := F0.e.trans hd
    replace h1 := (F0.n 1 (by decide)).trans h1
    replace h2 := (F0.n 2 (by decide)).trans h2
    replace h8 := (F0.n 8 (by decide)).trans h8
    replace h11 := (F0.n 11 (by decide)).trans h11
    replace h51 := (F0.n 51 (by decide)).trans h51
    replace h55 := (F0.n 55 (by decide)).trans h55
    replace h59 := (F0.n 59 (by decide)).trans h59
    replace h63 := (F0.n 63 (by decide)).trans h63
    replace h67 := (F0.n 67 (by decide)).trans h67
    replace h71 := (F0.n 71 (by decide)).trans h71
    clear h80
    have h79 := F0.s
    clear F0
    refine wp_cond_true (ev_tmp h79) ?_
    refine wp_region (show wpOps _ _ _ [0, 1, 2, 3, 4, 5, 6] _ _ from ?_)
    refine opL 0 81 (v := .pointer (some ⟨w4.heap.size, 5, none⟩)) (w' := w7) (by kernel_rfl) (by rw [hs]; decide) ?z193 ?z194
    case z193 => (intro o ho; obtain rfl := Option.some.inj ho; exact ⟨rfl, k_field5 rfl (ev_tmp h11)⟩)
    case z194 =>
    intro a F0
    replace hs := F0.z.trans hs
    replace hd := F0.e.trans hd
    replace h1 := (F0.n 1 (by decide)).trans h1
    replace h2 := (F0.n 2 (by decide)).trans h2
    replace h8 := (F0.n 8 (by decide)).trans h8
    replace h11 := (F0.n 11 (by decide)).trans h11
    replace h51 := (F0.n 51 (by decide)).trans h51
    replace h55 := (F0.n 55 (by decide)).trans h55
    replace h59 := (F0.n 59 (by decide)).trans h59
    replace h63 := (F0.n 63 (by decide)).trans h63
    replace h67 := (F0.n 67 (by decide)).trans h67
    replace h71 := (F0.n 71 (by decide)).trans h71
    replace h79 := (F0.n 79 (by decide)).trans h79
    have h81 := F0.s
    clear F0
    refine opL 1 82 (v := .slice A2 (Mk.D F ld).length c2) (w' := w7) (by kernel_rfl) (by rw [hs]; decide) ?z195 ?z196
    case z195 => (intro o ho; obtain rfl := Option.some.inj ho; exact ⟨rfl, k_loadL rfl (ev_tmp h81) (B7.cell 5)⟩)
    case z196 =>
    intro a F0
    replace hs := F0.z.trans hs
    replace hd := F0.e.trans hd
    replace h1 := (F0.n 1 (by decide)).trans h1
    replace h2 := (F0.n 2 (by decide)).trans h2
    replace h8 := (F0.n 8 (by decide)).trans h8
    replace h11 := (F0.n 11 (by decide)).trans h11
    replace h51 := (F0.n 51 (by decide)).trans h51
    replace h55 := (F0.n 55 (by decide)).trans h55
    replace h59 := (F0.n 59 (by decide)).trans h59
    replace h63 := (F0.n 63 (by decide)).trans h63
    replace h67 := (F0.n 67 (by decide)).trans h67
    replace h71 := (F0.n 71 (by decide)).trans h71
    replace h79 := (F0.n 79 (by decide)).trans h79
    clear h81
    have h82 := F0.s
    clear F0
    refine opL 2 83 (v := .int .i64 n) (w' := w7) (by kernel_rfl) (by rw [hs]; decide) ?z197 ?z198
    case z197 => (intro o ho; obtain rfl := Option.some.inj ho; exact ⟨rfl, k_move rfl (ev_tmp h2)⟩)
    case z198 =>
    intro a F0
    replace hs := F0.z.trans hs
    replace hd := F0.e.trans hd
    replace h1 := (F0.n 1 (by decide)).trans h1
    replace h2 := (F0.n 2 (by decide)).trans h2
    replace h8 := (F0.n 8 (by decide)).trans h8
    replace h11 := (F0.n 11 (by decide)).trans h11
    replace h51 := (F0.n 51 (by decide)).trans h51
    replace h55 := (F0.n 55 (by decide)).trans h55
    replace h59 := (F0.n 59 (by decide)).trans h59
    replace h63 := (F0.n 63 (by decide)).trans h63
    replace h67 := (F0.n 67 (by decide)).trans h67
    replace h71 := (F0.n 71 (by decide)).trans h71
    replace h79 := (F0.n 79 (by decide)).trans h79
    replace h82 := (F0.n 82 (by decide)).trans h82
    have h83 := F0.s
    clear F0
    refine opL 3 84 (v := .slice (some ⟨w7.heap.size, 0, none⟩) 1 1) (w' := (w7.alloc (.cells #[.int .i64 n] 3))) (by kernel_rfl) (by rw [hs]; decide) ?z199 ?z200
    case z199 => (intro o ho; obtain rfl := Option.some.inj ho; exact ⟨rfl, k_slice1 rfl (ev_tmp h83)⟩)
    case z200 =>
    intro a F0
    replace hs := F0.z.trans hs
    replace hd := F0.e.trans hd
    replace h1 := (F0.n 1 (by decide)).trans h1
    replace h2 := (F0.n 2 (by decide)).trans h2
    replace h8 := (F0.n 8 (by decide)).trans h8
    replace h11 := (F0.n 11 (by decide)).trans h11
    replace h51 := (F0.n 51 (by decide)).trans h51
    replace h55 := (F0.n 55 (by decide)).trans h55
    replace h59 := (F0.n 59 (by decide)).trans h59
    replace h63 := (F0.n 63 (by decide)).trans h63
    replace h67 := (F0.n 67 (by decide)).trans h67
    replace h71 := (F0.n 71 (by decide)).trans h71
    replace h79 := (F0.n 79 (by decide)).trans h79
    replace h82 := (F0.n 82 (by decide)).trans h82
    clear h83
    have h84 := F0.s
    clear F0
    obtain ⟨wa, hwa⟩ : ∃ wn, wn = w7.alloc (.cells #[.int .i64 n] 3) := ⟨_, rfl⟩
    rw [← hwa]
    have qa : Blk wa w7.heap.size 3 #[.int .i64 n] := by rw [hwa]; exact Blk.alloc _ _ _
    have la : Below w7.heap.size w7 wa := by rw [hwa]; exact (Below.refl _ _).alloc (Nat.le_refl _) _
    clear hwa
    have Fa := F7.below la
    have Ba := B7.below la B7.lt
    have hza := la.size
    obtain ⟨v', wb, hr, ob, gb⟩ := append_int_g (c := 1) (Fa.oD.base F4.hD) (qa.cell 0) (by omega) (by omega)
    obtain ⟨A', cap', rfl, -, -, -⟩ := ob.ints
    have hown : ∀ g, (Value.slice A2 (Mk.D F ld).length c2).ownBlock = some g → g < w4.heap.size := fun g hg => (F4.oD.lt g hg).2
    have Bb := Ba.grown gb (fun e => by have := hown _ e; omega)
    refine opL 4 85 (v := .slice A' ((Mk.D F ld) ++ [n]).length cap') (w' := wb) (by kernel_rfl) (by rw [hs]; decide) ?z201 ?z202
    case z201 => (intro o ho; obtain rfl := Option.some.inj ho; exact ⟨rfl, k_append rfl rfl (ev_tmp h82) (ev_tmp h84) hr⟩)
    case z202 =>
    intro a F0
    replace hs := F0.z.trans hs
    replace hd := F0.e.trans hd
    replace h1 := (F0.n 1 (by decide)).trans h1
    replace h2 := (F0.n 2 (by decide)).trans h2
    replace h8 := (F0.n 8 (by decide)).trans h8
    replace h11 := (F0.n 11 (by decide)).trans h11
    replace h51 := (F0.n 51 (by decide)).trans h51
    replace h55 := (F0.n 55 (by decide)).trans h55
    replace h59 := (F0.n 59 (by decide)).trans h59
    replace h63 := (F0.n 63 (by decide)).trans h63
    replace h67 := (F0.n 67 (by decide)).trans h67
    replace h71 := (F0.n 71 (by decide)).trans h71
    replace h79 := (F0.n 79 (by decide)).trans h79
    clear h82
    clear h84
    have h85 := F0.s
    clear F0
    refine opL 5 86 (v := .pointer (some ⟨w4.heap.size, 5, none⟩)) (w' := wb) (by kernel_rfl) (by rw [hs]; decide) ?z203 ?z204
    case z203 => (intro o ho; obtain rfl := Option.some.inj ho; exact ⟨rfl, k_field5 rfl (ev_tmp h11)⟩)
    case z204 =>
    intro a F0
    replace hs := F0.z.trans hs
    replace hd := F0.e.trans hd
    replace h1 := (F0.n 1 (by decide)).trans h1
    replace h2 := (F0.n 2 (by decide)).trans h2
    replace h8 := (F0.n 8 (by decide)).trans h8
    replace h11 := (F0.n 11 (by decide)).trans h11
    replace h51 := (F0.n 51 (by decide)).trans h51
    replace h55 := (F0.n 55 (by decide)).trans h55
    replace h59 := (F0.n 59 (by decide)).trans h59
    replace h63 := (F0.n 63 (by decide)).trans h63
    replace h67 := (F0.n 67 (by decide)).trans h67
    replace h71 := (F0.n 71 (by decide)).trans h71
    replace h79 := (F0.n 79 (by decide)).trans h79
    replace h85 := (F0.n 85 (by decide)).trans h85
    have h86 := F0.s
    clear F0
    refine opL_store 6 (w' := (wb.setCell ⟨w4.heap.size, 5, none⟩ (.slice A' ((Mk.D F ld) ++ [n]).length cap'))) (by kernel_rfl) ?z205 ?z206
    case z205 => (intro o ho; obtain rfl := Option.some.inj ho; exact ⟨rfl, k_storeL rfl (ev_tmp h86) (ev_tmp h85) Bb (by simp)⟩)
    case z206 =>
    clear h85
    clear h86
    obtain ⟨w8, hww8⟩ : ∃ wn, wn = wb.setCell ⟨w4.heap.size, 5, none⟩ (.slice A' ((Mk.D F ld) ++ [n]).length cap') := ⟨_, rfl⟩
    rw [← hww8]
    have B8 : Blk w8 w4.heap.size 38 #[.int .i64 (F.tmod 4), .int .i64 (Mk.iv I), .int .i64 (Mk.cnt E C), .int .i64 (Mk.unt E U), .slice A1 (Mk.mon lm).length c1, .slice A' ((Mk.D F ld) ++ [n]).length cap', .slice A3 ((Mk.W F lw).map (·.1)).length c3, .slice A4 (Mk.P F lm ld lw lp).length c4] := by rw [hww8]; exact Bb.set 5 _
    have e8 : ∀ B, Exc B w4.heap.size wb w8 := by rw [hww8]; exact exc_set wb w4.heap.size 5 _
    clear hww8
    refine wp_seq ?_
    have hob : ∀ g, (Value.slice A' ((Mk.D F ld) ++ [n]).length cap').ownBlock = some g → g ≠ w4.heap.size := fun g hg e => by
      subst e
      have := ob.blk w4.heap.size hg
      rw [show wb.heap[w4.heap.size]? = _ from Bb] at this
      exact absurd (show (38 : Nat) = 3 from this) (by decide)
    have hj1 := ((own_kept Fa.oM gb (fun g hg g' e h => by have a1 := (Fa.oD.lt g' e).1; have a2 := F4.gM g hg; have := F4.hW; have := F4.hP; omega)).exc (e8 wb.heap.size) (fun g hg => ⟨(own_kept Fa.oM gb (fun g hg g' e h => by have a1 := (Fa.oD.lt g' e).1; have a2 := F4.gM g hg; have := F4.hW; have := F4.hP; omega)).lt g hg |>.2, by have := (F4.oM.lt g hg).2; omega⟩)).inn
    have hj2 := (ob.exc (e8 wb.heap.size) (fun g hg => ⟨(ob.lt g hg).2, hob g hg⟩)).inn
    have hj3 := ((own_keptN Fa.oW gb (fun g hg g' e h => by have a1 := F4.gD g' e; have a2 := (F4.oW.lt g hg).1; have := F4.hW; have := F4.hP; omega)).exc (e8 wb.heap.size) (fun g hg => ⟨(own_keptN Fa.oW gb (fun g hg g' e h => by have a1 := F4.gD g' e; have a2 := (F4.oW.lt g hg).1; have := F4.hW; have := F4.hP; omega)).lt g hg |>.2, by have := (F4.oW.lt g hg).2; omega⟩)).inn
    have hj4 := ((own_kept Fa.oP gb (fun g hg g' e h => by have a1 := F4.gD g' e; have a2 := (F4.oP.lt g hg).1; have := F4.hW; have := F4.hP; omega)).exc (e8 wb.heap.size) (fun g hg => ⟨(own_kept Fa.oP gb (fun g hg g' e h => by have a1 := F4.gD g' e; have a2 := (F4.oP.lt g hg).1; have := F4.hW; have := F4.hP; omega)).lt g hg |>.2, by have := (F4.oP.lt g hg).2; omega⟩)).inn
    have L8 : ListsIn w8 A1 A' A3 A4 (Mk.mon lm) ((Mk.D F ld) ++ [n]) ((Mk.W F lw).map (·.1)) (Mk.P F lm ld lw lp) := ⟨hj1.2, hj2.2, hj3.2, hj4.2, hj1.1, hj2.1, hj3.1, hj4.1⟩
    have gx : Exc w.heap.size w.heap.size wa wb := ⟨gb.os, gb.tape, gb.output, gb.size, fun k h1 _ => gb.block k (by have := R7.size; omega) (fun e => by have := (Fa.oD.lt k e.symm).1; have := F4.hD; have := F4.hW; have := F4.hP; have := m4.size; omega)⟩
    have r8 := ((R7.trans (la.mono R7.size)).trans (gx.below (Nat.le_refl _))).trans ((e8 w.heap.size).below (by omega))
    have hx := fun Q hQ => twoMay a w8 Q hQ _ _ _ _ _ _ _ _ _ _ _ _ _ _ _ _ _ hs h11 B8.rule L8
    refine hx _ ?hb28 ?hr28
    case hb28 => (repeat (first | exact hQ | refine blind_then ?_ | refine blind_block ?_))
    case hr28 =>
    intro a wz h10 hd' lz
    replace hd := hd'.trans hd
    refine wp_ret ?_
    exact hfin a wz hd h10 (r8.trans (lz.mono r8.size))
  · refine wp_seq ?_
    refine wp_seq ?_
    refine wp_region (show wpOps _ _ _ [0, 1] _ _ from ?_)
    refine opL 0 50 (v := .int .u8 what) (w' := w7) (by kernel_rfl) (by rw [hs]; decide) ?z207 ?z208
    case z207 => (intro o ho; obtain rfl := Option.some.inj ho; exact ⟨rfl, k_move rfl (ev_tmp h1)⟩)
    case z208 =>
    intro a F0
    replace hs := F0.z.trans hs
    replace hd := F0.e.trans hd
    replace h1 := (F0.n 1 (by decide)).trans h1
    replace h2 := (F0.n 2 (by decide)).trans h2
    replace h8 := (F0.n 8 (by decide)).trans h8
    replace h11 := (F0.n 11 (by decide)).trans h11
    have h50 := F0.s
    clear F0
    refine opL 1 51 (v := .int .u8 6) (w' := w7) (by kernel_rfl) (by rw [hs]; decide) ?z209 ?z210
    case z209 => (intro o ho; obtain rfl := Option.some.inj ho; exact ⟨rfl, o_remB rfl (ev_tmp h50) rfl (by decide) hk⟩)
    case z210 =>
    intro a F0
    replace hs := F0.z.trans hs
    replace hd := F0.e.trans hd
    replace h1 := (F0.n 1 (by decide)).trans h1
    replace h2 := (F0.n 2 (by decide)).trans h2
    replace h8 := (F0.n 8 (by decide)).trans h8
    replace h11 := (F0.n 11 (by decide)).trans h11
    clear h50
    have h51 := F0.s
    clear F0
    refine wp_block ?_
    refine wp_seq ?_
    refine wp_region (show wpOps _ _ _ [0, 1] _ _ from ?_)
    refine opL 0 56 (v := .bool false) (w' := w7) (by kernel_rfl) (by rw [hs]; decide) ?z211 ?z212
    case z211 => (intro o ho; obtain rfl := Option.some.inj ho; exact ⟨rfl, o_eqB rfl (ev_tmp h51) rfl (by decide)⟩)
    case z212 =>
    intro a F0
    replace hs := F0.z.trans hs
    replace hd := F0.e.trans hd
    replace h1 := (F0.n 1 (by decide)).trans h1
    replace h2 := (F0.n 2 (by decide)).trans h2
    replace h8 := (F0.n 8 (by decide)).trans h8
    replace h11 := (F0.n 11 (by decide)).trans h11
    replace h51 := (F0.n 51 (by decide)).trans h51
    have h56 := F0.s
    clear F0
    refine opL 1 55 (v := .bool false) (w' := w7) (by kernel_rfl) (by rw [hs]; decide) ?z213 ?z214
    case z213 => (intro o ho; obtain rfl := Option.some.inj ho; exact ⟨rfl, k_assign rfl (ev_tmp h56)⟩)
    case z214 =>
    intro a F0
    replace hs := F0.z.trans hs
    replace hd := F0.e.trans hd
    replace h1 := (F0.n 1 (by decide)).trans h1
    replace h2 := (F0.n 2 (by decide)).trans h2
    replace h8 := (F0.n 8 (by decide)).trans h8
    replace h11 := (F0.n 11 (by decide)).trans h11
    replace h51 := (F0.n 51 (by decide)).trans h51
    clear h56
    have h55 := F0.s
    clear F0
    refine wp_cond_false (ev_tmp h55) ?_
    refine wp_seq ?_
    refine wp_region (show wpOps _ _ _ [0, 1] _ _ from ?_)
    refine opL 0 60 (v := .bool false) (w' := w7) (by kernel_rfl) (by rw [hs]; decide) ?z215 ?z216
    case z215 => (intro o ho; obtain rfl := Option.some.inj ho; exact ⟨rfl, o_eqB rfl (ev_tmp h51) rfl (by decide)⟩)
    case z216 =>
    intro a F0
    replace hs := F0.z.trans hs
    replace hd := F0.e.trans hd
    replace h1 := (F0.n 1 (by decide)).trans h1
    replace h2 := (F0.n 2 (by decide)).trans h2
    replace h8 := (F0.n 8 (by decide)).trans h8
    replace h11 := (F0.n 11 (by decide)).trans h11
    replace h51 := (F0.n 51 (by decide)).trans h51
    replace h55 := (F0.n 55 (by decide)).trans h55
    have h60 := F0.s
    clear F0
    refine opL 1 59 (v := .bool false) (w' := w7) (by kernel_rfl) (by rw [hs]; decide) ?z217 ?z218
    case z217 => (intro o ho; obtain rfl := Option.some.inj ho; exact ⟨rfl, k_assign rfl (ev_tmp h60)⟩)
    case z218 =>
    intro a F0
    replace hs := F0.z.trans hs
    replace hd := F0.e.trans hd
    replace h1 := (F0.n 1 (by decide)).trans h1
    replace h2 := (F0.n 2 (by decide)).trans h2
    replace h8 := (F0.n 8 (by decide)).trans h8
    replace h11 := (F0.n 11 (by decide)).trans h11
    replace h51 := (F0.n 51 (by decide)).trans h51
    replace h55 := (F0.n 55 (by decide)).trans h55
    clear h60
    have h59 := F0.s
    clear F0
    refine wp_cond_false (ev_tmp h59) ?_
    refine wp_seq ?_
    refine wp_region (show wpOps _ _ _ [0, 1] _ _ from ?_)
    refine opL 0 64 (v := .bool false) (w' := w7) (by kernel_rfl) (by rw [hs]; decide) ?z219 ?z220
    case z219 => (intro o ho; obtain rfl := Option.some.inj ho; exact ⟨rfl, o_eqB rfl (ev_tmp h51) rfl (by decide)⟩)
    case z220 =>
    intro a F0
    replace hs := F0.z.trans hs
    replace hd := F0.e.trans hd
    replace h1 := (F0.n 1 (by decide)).trans h1
    replace h2 := (F0.n 2 (by decide)).trans h2
    replace h8 := (F0.n 8 (by decide)).trans h8
    replace h11 := (F0.n 11 (by decide)).trans h11
    replace h51 := (F0.n 51 (by decide)).trans h51
    replace h55 := (F0.n 55 (by decide)).trans h55
    replace h59 := (F0.n 59 (by decide)).trans h59
    have h64 := F0.s
    clear F0
    refine opL 1 63 (v := .bool false) (w' := w7) (by kernel_rfl) (by rw [hs]; decide) ?z221 ?z222
    case z221 => (intro o ho; obtain rfl := Option.some.inj ho; exact ⟨rfl, k_assign rfl (ev_tmp h64)⟩)
    case z222 =>
    intro a F0
    replace hs := F0.z.trans hs
    replace hd := F0.e.trans hd
    replace h1 := (F0.n 1 (by decide)).trans h1
    replace h2 := (F0.n 2 (by decide)).trans h2
    replace h8 := (F0.n 8 (by decide)).trans h8
    replace h11 := (F0.n 11 (by decide)).trans h11
    replace h51 := (F0.n 51 (by decide)).trans h51
    replace h55 := (F0.n 55 (by decide)).trans h55
    replace h59 := (F0.n 59 (by decide)).trans h59
    clear h64
    have h63 := F0.s
    clear F0
    refine wp_cond_false (ev_tmp h63) ?_
    refine wp_seq ?_
    refine wp_region (show wpOps _ _ _ [0, 1] _ _ from ?_)
    refine opL 0 68 (v := .bool false) (w' := w7) (by kernel_rfl) (by rw [hs]; decide) ?z223 ?z224
    case z223 => (intro o ho; obtain rfl := Option.some.inj ho; exact ⟨rfl, o_eqB rfl (ev_tmp h51) rfl (by decide)⟩)
    case z224 =>
    intro a F0
    replace hs := F0.z.trans hs
    replace hd := F0.e.trans hd
    replace h1 := (F0.n 1 (by decide)).trans h1
    replace h2 := (F0.n 2 (by decide)).trans h2
    replace h8 := (F0.n 8 (by decide)).trans h8
    replace h11 := (F0.n 11 (by decide)).trans h11
    replace h51 := (F0.n 51 (by decide)).trans h51
    replace h55 := (F0.n 55 (by decide)).trans h55
    replace h59 := (F0.n 59 (by decide)).trans h59
    replace h63 := (F0.n 63 (by decide)).trans h63
    have h68 := F0.s
    clear F0
    refine opL 1 67 (v := .bool false) (w' := w7) (by kernel_rfl) (by rw [hs]; decide) ?z225 ?z226
    case z225 => (intro o ho; obtain rfl := Option.some.inj ho; exact ⟨rfl, k_assign rfl (ev_tmp h68)⟩)
    case z226 =>
    intro a F0
    replace hs := F0.z.trans hs
    replace hd := F0.e.trans hd
    replace h1 := (F0.n 1 (by decide)).trans h1
    replace h2 := (F0.n 2 (by decide)).trans h2
    replace h8 := (F0.n 8 (by decide)).trans h8
    replace h11 := (F0.n 11 (by decide)).trans h11
    replace h51 := (F0.n 51 (by decide)).trans h51
    replace h55 := (F0.n 55 (by decide)).trans h55
    replace h59 := (F0.n 59 (by decide)).trans h59
    replace h63 := (F0.n 63 (by decide)).trans h63
    clear h68
    have h67 := F0.s
    clear F0
    refine wp_cond_false (ev_tmp h67) ?_
    refine wp_seq ?_
    refine wp_region (show wpOps _ _ _ [0, 1] _ _ from ?_)
    refine opL 0 72 (v := .bool false) (w' := w7) (by kernel_rfl) (by rw [hs]; decide) ?z227 ?z228
    case z227 => (intro o ho; obtain rfl := Option.some.inj ho; exact ⟨rfl, o_eqB rfl (ev_tmp h51) rfl (by decide)⟩)
    case z228 =>
    intro a F0
    replace hs := F0.z.trans hs
    replace hd := F0.e.trans hd
    replace h1 := (F0.n 1 (by decide)).trans h1
    replace h2 := (F0.n 2 (by decide)).trans h2
    replace h8 := (F0.n 8 (by decide)).trans h8
    replace h11 := (F0.n 11 (by decide)).trans h11
    replace h51 := (F0.n 51 (by decide)).trans h51
    replace h55 := (F0.n 55 (by decide)).trans h55
    replace h59 := (F0.n 59 (by decide)).trans h59
    replace h63 := (F0.n 63 (by decide)).trans h63
    replace h67 := (F0.n 67 (by decide)).trans h67
    have h72 := F0.s
    clear F0
    refine opL 1 71 (v := .bool false) (w' := w7) (by kernel_rfl) (by rw [hs]; decide) ?z229 ?z230
    case z229 => (intro o ho; obtain rfl := Option.some.inj ho; exact ⟨rfl, k_assign rfl (ev_tmp h72)⟩)
    case z230 =>
    intro a F0
    replace hs := F0.z.trans hs
    replace hd := F0.e.trans hd
    replace h1 := (F0.n 1 (by decide)).trans h1
    replace h2 := (F0.n 2 (by decide)).trans h2
    replace h8 := (F0.n 8 (by decide)).trans h8
    replace h11 := (F0.n 11 (by decide)).trans h11
    replace h51 := (F0.n 51 (by decide)).trans h51
    replace h55 := (F0.n 55 (by decide)).trans h55
    replace h59 := (F0.n 59 (by decide)).trans h59
    replace h63 := (F0.n 63 (by decide)).trans h63
    replace h67 := (F0.n 67 (by decide)).trans h67
    clear h72
    have h71 := F0.s
    clear F0
    refine wp_cond_false (ev_tmp h71) ?_
    refine wp_seq ?_
    refine wp_region (show wpOps _ _ _ [0, 1] _ _ from ?_)
    refine opL 0 80 (v := .bool false) (w' := w7) (by kernel_rfl) (by rw [hs]; decide) ?z231 ?z232
    case z231 => (intro o ho; obtain rfl := Option.some.inj ho; exact ⟨rfl, o_eqB rfl (ev_tmp h51) rfl (by decide)⟩)
    case z232 =>
    intro a F0
    replace hs := F0.z.trans hs
    replace hd := F0.e.trans hd
    replace h1 := (F0.n 1 (by decide)).trans h1
    replace h2 := (F0.n 2 (by decide)).trans h2
    replace h8 := (F0.n 8 (by decide)).trans h8
    replace h11 := (F0.n 11 (by decide)).trans h11
    replace h51 := (F0.n 51 (by decide)).trans h51
    replace h55 := (F0.n 55 (by decide)).trans h55
    replace h59 := (F0.n 59 (by decide)).trans h59
    replace h63 := (F0.n 63 (by decide)).trans h63
    replace h67 := (F0.n 67 (by decide)).trans h67
    replace h71 := (F0.n 71 (by decide)).trans h71
    have h80 := F0.s
    clear F0
    refine opL 1 79 (v := .bool false) (w' := w7) (by kernel_rfl) (by rw [hs]; decide) ?z233 ?z234
    case z233 => (intro o ho; obtain rfl := Option.some.inj ho; exact ⟨rfl, k_assign rfl (ev_tmp h80)⟩)
    case z234 =>
    intro a F0
    replace hs := F0.z.trans hs
    replace hd := F0.e.trans hd
    replace h1 := (F0.n 1 (by decide)).trans h1
    replace h2 := (F0.n 2 (by decide)).trans h2
    replace h8 := (F0.n 8 (by decide)).trans h8
    replace h11 := (F0.n 11 (by decide)).trans h11
    replace h51 := (F0.n 51 (by decide)).trans h51
    replace h55 := (F0.n 55 (by decide)).trans h55
    replace h59 := (F0.n 59 (by decide)).trans h59
    replace h63 := (F0.n 63 (by decide)).trans h63
    replace h67 := (F0.n 67 (by decide)).trans h67
    replace h71 := (F0.n 71 (by decide)).trans h71
    clear h80
    have h79 := F0.s
    clear F0
    refine wp_cond_false (ev_tmp h79) ?_
    refine wp_seq ?_
    refine wp_region (show wpOps _ _ _ [0, 1] _ _ from ?_)
    refine opL 0 88 (v := .bool true) (w' := w7) (by kernel_rfl) (by rw [hs]; decide) ?z235 ?z236
    case z235 => (intro o ho; obtain rfl := Option.some.inj ho; exact ⟨rfl, o_eqB rfl (ev_tmp h51) rfl (by decide)⟩)
    case z236 =>
    intro a F0
    replace hs := F0.z.trans hs
    replace hd := F0.e.trans hd
    replace h1 := (F0.n 1 (by decide)).trans h1
    replace h2 := (F0.n 2 (by decide)).trans h2
    replace h8 := (F0.n 8 (by decide)).trans h8
    replace h11 := (F0.n 11 (by decide)).trans h11
    replace h51 := (F0.n 51 (by decide)).trans h51
    replace h55 := (F0.n 55 (by decide)).trans h55
    replace h59 := (F0.n 59 (by decide)).trans h59
    replace h63 := (F0.n 63 (by decide)).trans h63
    replace h67 := (F0.n 67 (by decide)).trans h67
    replace h71 := (F0.n 71 (by decide)).trans h71
    replace h79 := (F0.n 79 (by decide)).trans h79
    have h88 := F0.s
    clear F0
    refine opL 1 87 (v := .bool true) (w' := w7) (by kernel_rfl) (by rw [hs]; decide) ?z237 ?z238
    case z237 => (intro o ho; obtain rfl := Option.some.inj ho; exact ⟨rfl, k_assign rfl (ev_tmp h88)⟩)
    case z238 =>
    intro a F0
    replace hs := F0.z.trans hs
    replace hd := F0.e.trans hd
    replace h1 := (F0.n 1 (by decide)).trans h1
    replace h2 := (F0.n 2 (by decide)).trans h2
    replace h8 := (F0.n 8 (by decide)).trans h8
    replace h11 := (F0.n 11 (by decide)).trans h11
    replace h51 := (F0.n 51 (by decide)).trans h51
    replace h55 := (F0.n 55 (by decide)).trans h55
    replace h59 := (F0.n 59 (by decide)).trans h59
    replace h63 := (F0.n 63 (by decide)).trans h63
    replace h67 := (F0.n 67 (by decide)).trans h67
    replace h71 := (F0.n 71 (by decide)).trans h71
    replace h79 := (F0.n 79 (by decide)).trans h79
    clear h88
    have h87 := F0.s
    clear F0
    refine wp_cond_true (ev_tmp h87) ?_
    refine wp_region (show wpOps _ _ _ [0, 1, 2, 3, 4, 5, 6] _ _ from ?_)
    refine opL 0 89 (v := .pointer (some ⟨w4.heap.size, 6, none⟩)) (w' := w7) (by kernel_rfl) (by rw [hs]; decide) ?z239 ?z240
    case z239 => (intro o ho; obtain rfl := Option.some.inj ho; exact ⟨rfl, k_field6 rfl (ev_tmp h11)⟩)
    case z240 =>
    intro a F0
    replace hs := F0.z.trans hs
    replace hd := F0.e.trans hd
    replace h1 := (F0.n 1 (by decide)).trans h1
    replace h2 := (F0.n 2 (by decide)).trans h2
    replace h8 := (F0.n 8 (by decide)).trans h8
    replace h11 := (F0.n 11 (by decide)).trans h11
    replace h51 := (F0.n 51 (by decide)).trans h51
    replace h55 := (F0.n 55 (by decide)).trans h55
    replace h59 := (F0.n 59 (by decide)).trans h59
    replace h63 := (F0.n 63 (by decide)).trans h63
    replace h67 := (F0.n 67 (by decide)).trans h67
    replace h71 := (F0.n 71 (by decide)).trans h71
    replace h79 := (F0.n 79 (by decide)).trans h79
    replace h87 := (F0.n 87 (by decide)).trans h87
    have h89 := F0.s
    clear F0
    refine opL 1 90 (v := .slice A3 ((Mk.W F lw).map (·.1)).length c3) (w' := w7) (by kernel_rfl) (by rw [hs]; decide) ?z241 ?z242
    case z241 => (intro o ho; obtain rfl := Option.some.inj ho; exact ⟨rfl, k_loadW rfl (ev_tmp h89) (B7.cell 6)⟩)
    case z242 =>
    intro a F0
    replace hs := F0.z.trans hs
    replace hd := F0.e.trans hd
    replace h1 := (F0.n 1 (by decide)).trans h1
    replace h2 := (F0.n 2 (by decide)).trans h2
    replace h8 := (F0.n 8 (by decide)).trans h8
    replace h11 := (F0.n 11 (by decide)).trans h11
    replace h51 := (F0.n 51 (by decide)).trans h51
    replace h55 := (F0.n 55 (by decide)).trans h55
    replace h59 := (F0.n 59 (by decide)).trans h59
    replace h63 := (F0.n 63 (by decide)).trans h63
    replace h67 := (F0.n 67 (by decide)).trans h67
    replace h71 := (F0.n 71 (by decide)).trans h71
    replace h79 := (F0.n 79 (by decide)).trans h79
    replace h87 := (F0.n 87 (by decide)).trans h87
    clear h89
    have h90 := F0.s
    clear F0
    refine opL 2 91 (v := .agg #[.int .i64 p, .int .i64 q]) (w' := w7) (by kernel_rfl) (by rw [hs]; decide) ?z243 ?z244
    case z243 => (intro o ho; obtain rfl := Option.some.inj ho; exact ⟨rfl, k_loadNs rfl (ev_tmp h8) Q8⟩)
    case z244 =>
    intro a F0
    replace hs := F0.z.trans hs
    replace hd := F0.e.trans hd
    replace h1 := (F0.n 1 (by decide)).trans h1
    replace h2 := (F0.n 2 (by decide)).trans h2
    replace h8 := (F0.n 8 (by decide)).trans h8
    replace h11 := (F0.n 11 (by decide)).trans h11
    replace h51 := (F0.n 51 (by decide)).trans h51
    replace h55 := (F0.n 55 (by decide)).trans h55
    replace h59 := (F0.n 59 (by decide)).trans h59
    replace h63 := (F0.n 63 (by decide)).trans h63
    replace h67 := (F0.n 67 (by decide)).trans h67
    replace h71 := (F0.n 71 (by decide)).trans h71
    replace h79 := (F0.n 79 (by decide)).trans h79
    replace h87 := (F0.n 87 (by decide)).trans h87
    replace h90 := (F0.n 90 (by decide)).trans h90
    have h91 := F0.s
    clear F0
    refine opL 3 92 (v := .slice (some ⟨w7.heap.size, 0, none⟩) 1 1) (w' := (w7.alloc (.cells #[.int .i64 p, .int .i64 q] 31))) (by kernel_rfl) (by rw [hs]; decide) ?z245 ?z246
    case z245 => (intro o ho; obtain rfl := Option.some.inj ho; exact ⟨rfl, k_sliceN rfl (ev_tmp h91)⟩)
    case z246 =>
    intro a F0
    replace hs := F0.z.trans hs
    replace hd := F0.e.trans hd
    replace h1 := (F0.n 1 (by decide)).trans h1
    replace h2 := (F0.n 2 (by decide)).trans h2
    replace h8 := (F0.n 8 (by decide)).trans h8
    replace h11 := (F0.n 11 (by decide)).trans h11
    replace h51 := (F0.n 51 (by decide)).trans h51
    replace h55 := (F0.n 55 (by decide)).trans h55
    replace h59 := (F0.n 59 (by decide)).trans h59
    replace h63 := (F0.n 63 (by decide)).trans h63
    replace h67 := (F0.n 67 (by decide)).trans h67
    replace h71 := (F0.n 71 (by decide)).trans h71
    replace h79 := (F0.n 79 (by decide)).trans h79
    replace h87 := (F0.n 87 (by decide)).trans h87
    replace h90 := (F0.n 90 (by decide)).trans h90
    clear h91
    have h92 := F0.s
    clear F0
    obtain ⟨wa, hwa⟩ : ∃ wn, wn = w7.alloc (.cells #[.int .i64 p, .int .i64 q] 31) := ⟨_, rfl⟩
    rw [← hwa]
    have qa : Blk wa w7.heap.size 31 #[.int .i64 p, .int .i64 q] := by rw [hwa]; exact Blk.alloc _ _ _
    have la : Below w7.heap.size w7 wa := by rw [hwa]; exact (Below.refl _ _).alloc (Nat.le_refl _) _
    clear hwa
    have Fa := F7.below la
    have Ba := B7.below la B7.lt
    have hza := la.size
    obtain ⟨v', wb, hr, ob, gb⟩ := append_nth_g (c := 1) (Fa.oW.base (Nat.le_trans F4.hD F4.hW)) (qa.cell 0) (qa.cell 1) (by omega) (by omega)
    obtain ⟨A', cap', rfl, -, -, -⟩ := ob.nths
    have hown : ∀ g, (Value.slice A3 ((Mk.W F lw).map (·.1)).length c3).ownBlock = some g → g < w4.heap.size := fun g hg => (F4.oW.lt g hg).2
    have Bb := Ba.grown gb (fun e => by have := hown _ e; omega)
    refine opL 4 93 (v := .slice A' (((Mk.W F lw).map (·.1)) ++ [(p, q)]).length cap') (w' := wb) (by kernel_rfl) (by rw [hs]; decide) ?z247 ?z248
    case z247 => (intro o ho; obtain rfl := Option.some.inj ho; exact ⟨rfl, k_append rfl rfl (ev_tmp h90) (ev_tmp h92) hr⟩)
    case z248 =>
    intro a F0
    replace hs := F0.z.trans hs
    replace hd := F0.e.trans hd
    replace h1 := (F0.n 1 (by decide)).trans h1
    replace h2 := (F0.n 2 (by decide)).trans h2
    replace h8 := (F0.n 8 (by decide)).trans h8
    replace h11 := (F0.n 11 (by decide)).trans h11
    replace h51 := (F0.n 51 (by decide)).trans h51
    replace h55 := (F0.n 55 (by decide)).trans h55
    replace h59 := (F0.n 59 (by decide)).trans h59
    replace h63 := (F0.n 63 (by decide)).trans h63
    replace h67 := (F0.n 67 (by decide)).trans h67
    replace h71 := (F0.n 71 (by decide)).trans h71
    replace h79 := (F0.n 79 (by decide)).trans h79
    replace h87 := (F0.n 87 (by decide)).trans h87
    clear h90
    clear h92
    have h93 := F0.s
    clear F0
    refine opL 5 94 (v := .pointer (some ⟨w4.heap.size, 6, none⟩)) (w' := wb) (by kernel_rfl) (by rw [hs]; decide) ?z249 ?z250
    case z249 => (intro o ho; obtain rfl := Option.some.inj ho; exact ⟨rfl, k_field6 rfl (ev_tmp h11)⟩)
    case z250 =>
    intro a F0
    replace hs := F0.z.trans hs
    replace hd := F0.e.trans hd
    replace h1 := (F0.n 1 (by decide)).trans h1
    replace h2 := (F0.n 2 (by decide)).trans h2
    replace h8 := (F0.n 8 (by decide)).trans h8
    replace h11 := (F0.n 11 (by decide)).trans h11
    replace h51 := (F0.n 51 (by decide)).trans h51
    replace h55 := (F0.n 55 (by decide)).trans h55
    replace h59 := (F0.n 59 (by decide)).trans h59
    replace h63 := (F0.n 63 (by decide)).trans h63
    replace h67 := (F0.n 67 (by decide)).trans h67
    replace h71 := (F0.n 71 (by decide)).trans h71
    replace h79 := (F0.n 79 (by decide)).trans h79
    replace h87 := (F0.n 87 (by decide)).trans h87
    replace h93 := (F0.n 93 (by decide)).trans h93
    have h94 := F0.s
    clear F0
    refine opL_store 6 (w' := (wb.setCell ⟨w4.heap.size, 6, none⟩ (.slice A' (((Mk.W F lw).map (·.1)) ++ [(p, q)]).length cap'))) (by kernel_rfl) ?z251 ?z252
    case z251 => (intro o ho; obtain rfl := Option.some.inj ho; exact ⟨rfl, k_storeW rfl (ev_tmp h94) (ev_tmp h93) Bb (by simp)⟩)
    case z252 =>
    clear h93
    clear h94
    obtain ⟨w8, hww8⟩ : ∃ wn, wn = wb.setCell ⟨w4.heap.size, 6, none⟩ (.slice A' (((Mk.W F lw).map (·.1)) ++ [(p, q)]).length cap') := ⟨_, rfl⟩
    rw [← hww8]
    have B8 : Blk w8 w4.heap.size 38 #[.int .i64 (F.tmod 4), .int .i64 (Mk.iv I), .int .i64 (Mk.cnt E C), .int .i64 (Mk.unt E U), .slice A1 (Mk.mon lm).length c1, .slice A2 (Mk.D F ld).length c2, .slice A' (((Mk.W F lw).map (·.1)) ++ [(p, q)]).length cap', .slice A4 (Mk.P F lm ld lw lp).length c4] := by rw [hww8]; exact Bb.set 6 _
    have e8 : ∀ B, Exc B w4.heap.size wb w8 := by rw [hww8]; exact exc_set wb w4.heap.size 6 _
    clear hww8
    refine wp_seq ?_
    have hob : ∀ g, (Value.slice A' (((Mk.W F lw).map (·.1)) ++ [(p, q)]).length cap').ownBlock = some g → g ≠ w4.heap.size := fun g hg e => by
      subst e
      have := ob.blk w4.heap.size hg
      rw [show wb.heap[w4.heap.size]? = _ from Bb] at this
      exact absurd (show (38 : Nat) = 31 from this) (by decide)
    have hj1 := ((own_kept Fa.oM gb (fun g hg g' e h => by have a1 := (Fa.oW.lt g' e).1; have a2 := F4.gM g hg; have := F4.hW; have := F4.hP; omega)).exc (e8 wb.heap.size) (fun g hg => ⟨(own_kept Fa.oM gb (fun g hg g' e h => by have a1 := (Fa.oW.lt g' e).1; have a2 := F4.gM g hg; have := F4.hW; have := F4.hP; omega)).lt g hg |>.2, by have := (F4.oM.lt g hg).2; omega⟩)).inn
    have hj2 := ((own_kept Fa.oD gb (fun g hg g' e h => by have a1 := (Fa.oW.lt g' e).1; have a2 := F4.gD g hg; have := F4.hW; have := F4.hP; omega)).exc (e8 wb.heap.size) (fun g hg => ⟨(own_kept Fa.oD gb (fun g hg g' e h => by have a1 := (Fa.oW.lt g' e).1; have a2 := F4.gD g hg; have := F4.hW; have := F4.hP; omega)).lt g hg |>.2, by have := (F4.oD.lt g hg).2; omega⟩)).inn
    have hj3 := (ob.exc (e8 wb.heap.size) (fun g hg => ⟨(ob.lt g hg).2, hob g hg⟩)).inn
    have hj4 := ((own_kept Fa.oP gb (fun g hg g' e h => by have a1 := F4.gW g' e; have a2 := (F4.oP.lt g hg).1; have := F4.hW; have := F4.hP; omega)).exc (e8 wb.heap.size) (fun g hg => ⟨(own_kept Fa.oP gb (fun g hg g' e h => by have a1 := F4.gW g' e; have a2 := (F4.oP.lt g hg).1; have := F4.hW; have := F4.hP; omega)).lt g hg |>.2, by have := (F4.oP.lt g hg).2; omega⟩)).inn
    have L8 : ListsIn w8 A1 A2 A' A4 (Mk.mon lm) (Mk.D F ld) (((Mk.W F lw).map (·.1)) ++ [(p, q)]) (Mk.P F lm ld lw lp) := ⟨hj1.2, hj2.2, hj3.2, hj4.2, hj1.1, hj2.1, hj3.1, hj4.1⟩
    have gx : Exc w.heap.size w.heap.size wa wb := ⟨gb.os, gb.tape, gb.output, gb.size, fun k h1 _ => gb.block k (by have := R7.size; omega) (fun e => by have := (Fa.oW.lt k e.symm).1; have := F4.hD; have := F4.hW; have := F4.hP; have := m4.size; omega)⟩
    have r8 := ((R7.trans (la.mono R7.size)).trans (gx.below (Nat.le_refl _))).trans ((e8 w.heap.size).below (by omega))
    have hx := fun Q hQ => twoMay a w8 Q hQ _ _ _ _ _ _ _ _ _ _ _ _ _ _ _ _ _ hs h11 B8.rule L8
    refine hx _ ?hb28 ?hr28
    case hb28 => (repeat (first | exact hQ | refine blind_then ?_ | refine blind_block ?_))
    case hr28 =>
    intro a wz h10 hd' lz
    replace hd := hd'.trans hd
    refine wp_ret ?_
    exact hfin a wz hd h10 (r8.trans (lz.mono r8.size))
  · refine wp_seq ?_
    refine wp_seq ?_
    refine wp_region (show wpOps _ _ _ [0, 1] _ _ from ?_)
    refine opL 0 50 (v := .int .u8 what) (w' := w7) (by kernel_rfl) (by rw [hs]; decide) ?z253 ?z254
    case z253 => (intro o ho; obtain rfl := Option.some.inj ho; exact ⟨rfl, k_move rfl (ev_tmp h1)⟩)
    case z254 =>
    intro a F0
    replace hs := F0.z.trans hs
    replace hd := F0.e.trans hd
    replace h1 := (F0.n 1 (by decide)).trans h1
    replace h2 := (F0.n 2 (by decide)).trans h2
    replace h8 := (F0.n 8 (by decide)).trans h8
    replace h11 := (F0.n 11 (by decide)).trans h11
    have h50 := F0.s
    clear F0
    refine opL 1 51 (v := .int .u8 7) (w' := w7) (by kernel_rfl) (by rw [hs]; decide) ?z255 ?z256
    case z255 => (intro o ho; obtain rfl := Option.some.inj ho; exact ⟨rfl, o_remB rfl (ev_tmp h50) rfl (by decide) hk⟩)
    case z256 =>
    intro a F0
    replace hs := F0.z.trans hs
    replace hd := F0.e.trans hd
    replace h1 := (F0.n 1 (by decide)).trans h1
    replace h2 := (F0.n 2 (by decide)).trans h2
    replace h8 := (F0.n 8 (by decide)).trans h8
    replace h11 := (F0.n 11 (by decide)).trans h11
    clear h50
    have h51 := F0.s
    clear F0
    refine wp_block ?_
    refine wp_seq ?_
    refine wp_region (show wpOps _ _ _ [0, 1] _ _ from ?_)
    refine opL 0 56 (v := .bool false) (w' := w7) (by kernel_rfl) (by rw [hs]; decide) ?z257 ?z258
    case z257 => (intro o ho; obtain rfl := Option.some.inj ho; exact ⟨rfl, o_eqB rfl (ev_tmp h51) rfl (by decide)⟩)
    case z258 =>
    intro a F0
    replace hs := F0.z.trans hs
    replace hd := F0.e.trans hd
    replace h1 := (F0.n 1 (by decide)).trans h1
    replace h2 := (F0.n 2 (by decide)).trans h2
    replace h8 := (F0.n 8 (by decide)).trans h8
    replace h11 := (F0.n 11 (by decide)).trans h11
    replace h51 := (F0.n 51 (by decide)).trans h51
    have h56 := F0.s
    clear F0
    refine opL 1 55 (v := .bool false) (w' := w7) (by kernel_rfl) (by rw [hs]; decide) ?z259 ?z260
    case z259 => (intro o ho; obtain rfl := Option.some.inj ho; exact ⟨rfl, k_assign rfl (ev_tmp h56)⟩)
    case z260 =>
    intro a F0
    replace hs := F0.z.trans hs
    replace hd := F0.e.trans hd
    replace h1 := (F0.n 1 (by decide)).trans h1
    replace h2 := (F0.n 2 (by decide)).trans h2
    replace h8 := (F0.n 8 (by decide)).trans h8
    replace h11 := (F0.n 11 (by decide)).trans h11
    replace h51 := (F0.n 51 (by decide)).trans h51
    clear h56
    have h55 := F0.s
    clear F0
    refine wp_cond_false (ev_tmp h55) ?_
    refine wp_seq ?_
    refine wp_region (show wpOps _ _ _ [0, 1] _ _ from ?_)
    refine opL 0 60 (v := .bool false) (w' := w7) (by kernel_rfl) (by rw [hs]; decide) ?z261 ?z262
    case z261 => (intro o ho; obtain rfl := Option.some.inj ho; exact ⟨rfl, o_eqB rfl (ev_tmp h51) rfl (by decide)⟩)
    case z262 =>
    intro a F0
    replace hs := F0.z.trans hs
    replace hd := F0.e.trans hd
    replace h1 := (F0.n 1 (by decide)).trans h1
    replace h2 := (F0.n 2 (by decide)).trans h2
    replace h8 := (F0.n 8 (by decide)).trans h8
    replace h11 := (F0.n 11 (by decide)).trans h11
    replace h51 := (F0.n 51 (by decide)).trans h51
    replace h55 := (F0.n 55 (by decide)).trans h55
    have h60 := F0.s
    clear F0
    refine opL 1 59 (v := .bool false) (w' := w7) (by kernel_rfl) (by rw [hs]; decide) ?z263 ?z264
    case z263 => (intro o ho; obtain rfl := Option.some.inj ho; exact ⟨rfl, k_assign rfl (ev_tmp h60)⟩)
    case z264 =>
    intro a F0
    replace hs := F0.z.trans hs
    replace hd := F0.e.trans hd
    replace h1 := (F0.n 1 (by decide)).trans h1
    replace h2 := (F0.n 2 (by decide)).trans h2
    replace h8 := (F0.n 8 (by decide)).trans h8
    replace h11 := (F0.n 11 (by decide)).trans h11
    replace h51 := (F0.n 51 (by decide)).trans h51
    replace h55 := (F0.n 55 (by decide)).trans h55
    clear h60
    have h59 := F0.s
    clear F0
    refine wp_cond_false (ev_tmp h59) ?_
    refine wp_seq ?_
    refine wp_region (show wpOps _ _ _ [0, 1] _ _ from ?_)
    refine opL 0 64 (v := .bool false) (w' := w7) (by kernel_rfl) (by rw [hs]; decide) ?z265 ?z266
    case z265 => (intro o ho; obtain rfl := Option.some.inj ho; exact ⟨rfl, o_eqB rfl (ev_tmp h51) rfl (by decide)⟩)
    case z266 =>
    intro a F0
    replace hs := F0.z.trans hs
    replace hd := F0.e.trans hd
    replace h1 := (F0.n 1 (by decide)).trans h1
    replace h2 := (F0.n 2 (by decide)).trans h2
    replace h8 := (F0.n 8 (by decide)).trans h8
    replace h11 := (F0.n 11 (by decide)).trans h11
    replace h51 := (F0.n 51 (by decide)).trans h51
    replace h55 := (F0.n 55 (by decide)).trans h55
    replace h59 := (F0.n 59 (by decide)).trans h59
    have h64 := F0.s
    clear F0
    refine opL 1 63 (v := .bool false) (w' := w7) (by kernel_rfl) (by rw [hs]; decide) ?z267 ?z268
    case z267 => (intro o ho; obtain rfl := Option.some.inj ho; exact ⟨rfl, k_assign rfl (ev_tmp h64)⟩)
    case z268 =>
    intro a F0
    replace hs := F0.z.trans hs
    replace hd := F0.e.trans hd
    replace h1 := (F0.n 1 (by decide)).trans h1
    replace h2 := (F0.n 2 (by decide)).trans h2
    replace h8 := (F0.n 8 (by decide)).trans h8
    replace h11 := (F0.n 11 (by decide)).trans h11
    replace h51 := (F0.n 51 (by decide)).trans h51
    replace h55 := (F0.n 55 (by decide)).trans h55
    replace h59 := (F0.n 59 (by decide)).trans h59
    clear h64
    have h63 := F0.s
    clear F0
    refine wp_cond_false (ev_tmp h63) ?_
    refine wp_seq ?_
    refine wp_region (show wpOps _ _ _ [0, 1] _ _ from ?_)
    refine opL 0 68 (v := .bool false) (w' := w7) (by kernel_rfl) (by rw [hs]; decide) ?z269 ?z270
    case z269 => (intro o ho; obtain rfl := Option.some.inj ho; exact ⟨rfl, o_eqB rfl (ev_tmp h51) rfl (by decide)⟩)
    case z270 =>
    intro a F0
    replace hs := F0.z.trans hs
    replace hd := F0.e.trans hd
    replace h1 := (F0.n 1 (by decide)).trans h1
    replace h2 := (F0.n 2 (by decide)).trans h2
    replace h8 := (F0.n 8 (by decide)).trans h8
    replace h11 := (F0.n 11 (by decide)).trans h11
    replace h51 := (F0.n 51 (by decide)).trans h51
    replace h55 := (F0.n 55 (by decide)).trans h55
    replace h59 := (F0.n 59 (by decide)).trans h59
    replace h63 := (F0.n 63 (by decide)).trans h63
    have h68 := F0.s
    clear F0
    refine opL 1 67 (v := .bool false) (w' := w7) (by kernel_rfl) (by rw [hs]; decide) ?z271 ?z272
    case z271 => (intro o ho; obtain rfl := Option.some.inj ho; exact ⟨rfl, k_assign rfl (ev_tmp h68)⟩)
    case z272 =>
    intro a F0
    replace hs := F0.z.trans hs
    replace hd := F0.e.trans hd
    replace h1 := (F0.n 1 (by decide)).trans h1
    replace h2 := (F0.n 2 (by decide)).trans h2
    replace h8 := (F0.n 8 (by decide)).trans h8
    replace h11 := (F0.n 11 (by decide)).trans h11
    replace h51 := (F0.n 51 (by decide)).trans h51
    replace h55 := (F0.n 55 (by decide)).trans h55
    replace h59 := (F0.n 59 (by decide)).trans h59
    replace h63 := (F0.n 63 (by decide)).trans h63
    clear h68
    have h67 := F0.s
    clear F0
    refine wp_cond_false (ev_tmp h67) ?_
    refine wp_seq ?_
    refine wp_region (show wpOps _ _ _ [0, 1] _ _ from ?_)
    refine opL 0 72 (v := .bool false) (w' := w7) (by kernel_rfl) (by rw [hs]; decide) ?z273 ?z274
    case z273 => (intro o ho; obtain rfl := Option.some.inj ho; exact ⟨rfl, o_eqB rfl (ev_tmp h51) rfl (by decide)⟩)
    case z274 =>
    intro a F0
    replace hs := F0.z.trans hs
    replace hd := F0.e.trans hd
    replace h1 := (F0.n 1 (by decide)).trans h1
    replace h2 := (F0.n 2 (by decide)).trans h2
    replace h8 := (F0.n 8 (by decide)).trans h8
    replace h11 := (F0.n 11 (by decide)).trans h11
    replace h51 := (F0.n 51 (by decide)).trans h51
    replace h55 := (F0.n 55 (by decide)).trans h55
    replace h59 := (F0.n 59 (by decide)).trans h59
    replace h63 := (F0.n 63 (by decide)).trans h63
    replace h67 := (F0.n 67 (by decide)).trans h67
    have h72 := F0.s
    clear F0
    refine opL 1 71 (v := .bool false) (w' := w7) (by kernel_rfl) (by rw [hs]; decide) ?z275 ?z276
    case z275 => (intro o ho; obtain rfl := Option.some.inj ho; exact ⟨rfl, k_assign rfl (ev_tmp h72)⟩)
    case z276 =>
    intro a F0
    replace hs := F0.z.trans hs
    replace hd := F0.e.trans hd
    replace h1 := (F0.n 1 (by decide)).trans h1
    replace h2 := (F0.n 2 (by decide)).trans h2
    replace h8 := (F0.n 8 (by decide)).trans h8
    replace h11 := (F0.n 11 (by decide)).trans h11
    replace h51 := (F0.n 51 (by decide)).trans h51
    replace h55 := (F0.n 55 (by decide)).trans h55
    replace h59 := (F0.n 59 (by decide)).trans h59
    replace h63 := (F0.n 63 (by decide)).trans h63
    replace h67 := (F0.n 67 (by decide)).trans h67
    clear h72
    have h71 := F0.s
    clear F0
    refine wp_cond_false (ev_tmp h71) ?_
    refine wp_seq ?_
    refine wp_region (show wpOps _ _ _ [0, 1] _ _ from ?_)
    refine opL 0 80 (v := .bool false) (w' := w7) (by kernel_rfl) (by rw [hs]; decide) ?z277 ?z278
    case z277 => (intro o ho; obtain rfl := Option.some.inj ho; exact ⟨rfl, o_eqB rfl (ev_tmp h51) rfl (by decide)⟩)
    case z278 =>
    intro a F0
    replace hs := F0.z.trans hs
    replace hd := F0.e.trans hd
    replace h1 := (F0.n 1 (by decide)).trans h1
    replace h2 := (F0.n 2 (by decide)).trans h2
    replace h8 := (F0.n 8 (by decide)).trans h8
    replace h11 := (F0.n 11 (by decide)).trans h11
    replace h51 := (F0.n 51 (by decide)).trans h51
    replace h55 := (F0.n 55 (by decide)).trans h55
    replace h59 := (F0.n 59 (by decide)).trans h59
    replace h63 := (F0.n 63 (by decide)).trans h63
    replace h67 := (F0.n 67 (by decide)).trans h67
    replace h71 := (F0.n 71 (by decide)).trans h71
    have h80 := F0.s
    clear F0
    refine opL 1 79 (v := .bool false) (w' := w7) (by kernel_rfl) (by rw [hs]; decide) ?z279 ?z280
    case z279 => (intro o ho; obtain rfl := Option.some.inj ho; exact ⟨rfl, k_assign rfl (ev_tmp h80)⟩)
    case z280 =>
    intro a F0
    replace hs := F0.z.trans hs
    replace hd := F0.e.trans hd
    replace h1 := (F0.n 1 (by decide)).trans h1
    replace h2 := (F0.n 2 (by decide)).trans h2
    replace h8 := (F0.n 8 (by decide)).trans h8
    replace h11 := (F0.n 11 (by decide)).trans h11
    replace h51 := (F0.n 51 (by decide)).trans h51
    replace h55 := (F0.n 55 (by decide)).trans h55
    replace h59 := (F0.n 59 (by decide)).trans h59
    replace h63 := (F0.n 63 (by decide)).trans h63
    replace h67 := (F0.n 67 (by decide)).trans h67
    replace h71 := (F0.n 71 (by decide)).trans h71
    clear h80
    have h79 := F0.s
    clear F0
    refine wp_cond_false (ev_tmp h79) ?_
    refine wp_seq ?_
    refine wp_region (show wpOps _ _ _ [0, 1] _ _ from ?_)
    refine opL 0 88 (v := .bool false) (w' := w7) (by kernel_rfl) (by rw [hs]; decide) ?z281 ?z282
    case z281 => (intro o ho; obtain rfl := Option.some.inj ho; exact ⟨rfl, o_eqB rfl (ev_tmp h51) rfl (by decide)⟩)
    case z282 =>
    intro a F0
    replace hs := F0.z.trans hs
    replace hd := F0.e.trans hd
    replace h1 := (F0.n 1 (by decide)).trans h1
    replace h2 := (F0.n 2 (by decide)).trans h2
    replace h8 := (F0.n 8 (by decide)).trans h8
    replace h11 := (F0.n 11 (by decide)).trans h11
    replace h51 := (F0.n 51 (by decide)).trans h51
    replace h55 := (F0.n 55 (by decide)).trans h55
    replace h59 := (F0.n 59 (by decide)).trans h59
    replace h63 := (F0.n 63 (by decide)).trans h63
    replace h67 := (F0.n 67 (by decide)).trans h67
    replace h71 := (F0.n 71 (by decide)).trans h71
    replace h79 := (F0.n 79 (by decide)).trans h79
    have h88 := F0.s
    clear F0
    refine opL 1 87 (v := .bool false) (w' := w7) (by kernel_rfl) (by rw [hs]; decide) ?z283 ?z284
    case z283 => (intro o ho; obtain rfl := Option.some.inj ho; exact ⟨rfl, k_assign rfl (ev_tmp h88)⟩)
    case z284 =>
    intro a F0
    replace hs := F0.z.trans hs
    replace hd := F0.e.trans hd
    replace h1 := (F0.n 1 (by decide)).trans h1
    replace h2 := (F0.n 2 (by decide)).trans h2
    replace h8 := (F0.n 8 (by decide)).trans h8
    replace h11 := (F0.n 11 (by decide)).trans h11
    replace h51 := (F0.n 51 (by decide)).trans h51
    replace h55 := (F0.n 55 (by decide)).trans h55
    replace h59 := (F0.n 59 (by decide)).trans h59
    replace h63 := (F0.n 63 (by decide)).trans h63
    replace h67 := (F0.n 67 (by decide)).trans h67
    replace h71 := (F0.n 71 (by decide)).trans h71
    replace h79 := (F0.n 79 (by decide)).trans h79
    clear h88
    have h87 := F0.s
    clear F0
    refine wp_cond_false (ev_tmp h87) ?_
    refine wp_seq ?_
    refine wp_region (show wpOps _ _ _ [0, 1] _ _ from ?_)
    refine opL 0 96 (v := .bool true) (w' := w7) (by kernel_rfl) (by rw [hs]; decide) ?z285 ?z286
    case z285 => (intro o ho; obtain rfl := Option.some.inj ho; exact ⟨rfl, o_eqB rfl (ev_tmp h51) rfl (by decide)⟩)
    case z286 =>
    intro a F0
    replace hs := F0.z.trans hs
    replace hd := F0.e.trans hd
    replace h1 := (F0.n 1 (by decide)).trans h1
    replace h2 := (F0.n 2 (by decide)).trans h2
    replace h8 := (F0.n 8 (by decide)).trans h8
    replace h11 := (F0.n 11 (by decide)).trans h11
    replace h51 := (F0.n 51 (by decide)).trans h51
    replace h55 := (F0.n 55 (by decide)).trans h55
    replace h59 := (F0.n 59 (by decide)).trans h59
    replace h63 := (F0.n 63 (by decide)).trans h63
    replace h67 := (F0.n 67 (by decide)).trans h67
    replace h71 := (F0.n 71 (by decide)).trans h71
    replace h79 := (F0.n 79 (by decide)).trans h79
    replace h87 := (F0.n 87 (by decide)).trans h87
    have h96 := F0.s
    clear F0
    refine opL 1 95 (v := .bool true) (w' := w7) (by kernel_rfl) (by rw [hs]; decide) ?z287 ?z288
    case z287 => (intro o ho; obtain rfl := Option.some.inj ho; exact ⟨rfl, k_assign rfl (ev_tmp h96)⟩)
    case z288 =>
    intro a F0
    replace hs := F0.z.trans hs
    replace hd := F0.e.trans hd
    replace h1 := (F0.n 1 (by decide)).trans h1
    replace h2 := (F0.n 2 (by decide)).trans h2
    replace h8 := (F0.n 8 (by decide)).trans h8
    replace h11 := (F0.n 11 (by decide)).trans h11
    replace h51 := (F0.n 51 (by decide)).trans h51
    replace h55 := (F0.n 55 (by decide)).trans h55
    replace h59 := (F0.n 59 (by decide)).trans h59
    replace h63 := (F0.n 63 (by decide)).trans h63
    replace h67 := (F0.n 67 (by decide)).trans h67
    replace h71 := (F0.n 71 (by decide)).trans h71
    replace h79 := (F0.n 79 (by decide)).trans h79
    replace h87 := (F0.n 87 (by decide)).trans h87
    clear h96
    have h95 := F0.s
    clear F0
    refine wp_cond_true (ev_tmp h95) ?_
    refine wp_region (show wpOps _ _ _ [0, 1, 2, 3, 4, 5, 6] _ _ from ?_)
    refine opL 0 97 (v := .pointer (some ⟨w4.heap.size, 7, none⟩)) (w' := w7) (by kernel_rfl) (by rw [hs]; decide) ?z289 ?z290
    case z289 => (intro o ho; obtain rfl := Option.some.inj ho; exact ⟨rfl, k_field7 rfl (ev_tmp h11)⟩)
    case z290 =>
    intro a F0
    replace hs := F0.z.trans hs
    replace hd := F0.e.trans hd
    replace h1 := (F0.n 1 (by decide)).trans h1
    replace h2 := (F0.n 2 (by decide)).trans h2
    replace h8 := (F0.n 8 (by decide)).trans h8
    replace h11 := (F0.n 11 (by decide)).trans h11
    replace h51 := (F0.n 51 (by decide)).trans h51
    replace h55 := (F0.n 55 (by decide)).trans h55
    replace h59 := (F0.n 59 (by decide)).trans h59
    replace h63 := (F0.n 63 (by decide)).trans h63
    replace h67 := (F0.n 67 (by decide)).trans h67
    replace h71 := (F0.n 71 (by decide)).trans h71
    replace h79 := (F0.n 79 (by decide)).trans h79
    replace h87 := (F0.n 87 (by decide)).trans h87
    replace h95 := (F0.n 95 (by decide)).trans h95
    have h97 := F0.s
    clear F0
    refine opL 1 98 (v := .slice A4 (Mk.P F lm ld lw lp).length c4) (w' := w7) (by kernel_rfl) (by rw [hs]; decide) ?z291 ?z292
    case z291 => (intro o ho; obtain rfl := Option.some.inj ho; exact ⟨rfl, k_loadL rfl (ev_tmp h97) (B7.cell 7)⟩)
    case z292 =>
    intro a F0
    replace hs := F0.z.trans hs
    replace hd := F0.e.trans hd
    replace h1 := (F0.n 1 (by decide)).trans h1
    replace h2 := (F0.n 2 (by decide)).trans h2
    replace h8 := (F0.n 8 (by decide)).trans h8
    replace h11 := (F0.n 11 (by decide)).trans h11
    replace h51 := (F0.n 51 (by decide)).trans h51
    replace h55 := (F0.n 55 (by decide)).trans h55
    replace h59 := (F0.n 59 (by decide)).trans h59
    replace h63 := (F0.n 63 (by decide)).trans h63
    replace h67 := (F0.n 67 (by decide)).trans h67
    replace h71 := (F0.n 71 (by decide)).trans h71
    replace h79 := (F0.n 79 (by decide)).trans h79
    replace h87 := (F0.n 87 (by decide)).trans h87
    replace h95 := (F0.n 95 (by decide)).trans h95
    clear h97
    have h98 := F0.s
    clear F0
    refine opL 2 99 (v := .int .i64 n) (w' := w7) (by kernel_rfl) (by rw [hs]; decide) ?z293 ?z294
    case z293 => (intro o ho; obtain rfl := Option.some.inj ho; exact ⟨rfl, k_move rfl (ev_tmp h2)⟩)
    case z294 =>
    intro a F0
    replace hs := F0.z.trans hs
    replace hd := F0.e.trans hd
    replace h1 := (F0.n 1 (by decide)).trans h1
    replace h2 := (F0.n 2 (by decide)).trans h2
    replace h8 := (F0.n 8 (by decide)).trans h8
    replace h11 := (F0.n 11 (by decide)).trans h11
    replace h51 := (F0.n 51 (by decide)).trans h51
    replace h55 := (F0.n 55 (by decide)).trans h55
    replace h59 := (F0.n 59 (by decide)).trans h59
    replace h63 := (F0.n 63 (by decide)).trans h63
    replace h67 := (F0.n 67 (by decide)).trans h67
    replace h71 := (F0.n 71 (by decide)).trans h71
    replace h79 := (F0.n 79 (by decide)).trans h79
    replace h87 := (F0.n 87 (by decide)).trans h87
    replace h95 := (F0.n 95 (by decide)).trans h95
    replace h98 := (F0.n 98 (by decide)).trans h98
    have h99 := F0.s
    clear F0
    refine opL 3 100 (v := .slice (some ⟨w7.heap.size, 0, none⟩) 1 1) (w' := (w7.alloc (.cells #[.int .i64 n] 3))) (by kernel_rfl) (by rw [hs]; decide) ?z295 ?z296
    case z295 => (intro o ho; obtain rfl := Option.some.inj ho; exact ⟨rfl, k_slice1 rfl (ev_tmp h99)⟩)
    case z296 =>
    intro a F0
    replace hs := F0.z.trans hs
    replace hd := F0.e.trans hd
    replace h1 := (F0.n 1 (by decide)).trans h1
    replace h2 := (F0.n 2 (by decide)).trans h2
    replace h8 := (F0.n 8 (by decide)).trans h8
    replace h11 := (F0.n 11 (by decide)).trans h11
    replace h51 := (F0.n 51 (by decide)).trans h51
    replace h55 := (F0.n 55 (by decide)).trans h55
    replace h59 := (F0.n 59 (by decide)).trans h59
    replace h63 := (F0.n 63 (by decide)).trans h63
    replace h67 := (F0.n 67 (by decide)).trans h67
    replace h71 := (F0.n 71 (by decide)).trans h71
    replace h79 := (F0.n 79 (by decide)).trans h79
    replace h87 := (F0.n 87 (by decide)).trans h87
    replace h95 := (F0.n 95 (by decide)).trans h95
    replace h98 := (F0.n 98 (by decide)).trans h98
    clear h99
    have h100 := F0.s
    clear F0
    obtain ⟨wa, hwa⟩ : ∃ wn, wn = w7.alloc (.cells #[.int .i64 n] 3) := ⟨_, rfl⟩
    rw [← hwa]
    have qa : Blk wa w7.heap.size 3 #[.int .i64 n] := by rw [hwa]; exact Blk.alloc _ _ _
    have la : Below w7.heap.size w7 wa := by rw [hwa]; exact (Below.refl _ _).alloc (Nat.le_refl _) _
    clear hwa
    have Fa := F7.below la
    have Ba := B7.below la B7.lt
    have hza := la.size
    obtain ⟨v', wb, hr, ob, gb⟩ := append_int_g (c := 1) (Fa.oP.base (Nat.le_trans F4.hD (Nat.le_trans F4.hW F4.hP))) (qa.cell 0) (by omega) (by omega)
    obtain ⟨A', cap', rfl, -, -, -⟩ := ob.ints
    have hown : ∀ g, (Value.slice A4 (Mk.P F lm ld lw lp).length c4).ownBlock = some g → g < w4.heap.size := fun g hg => (F4.oP.lt g hg).2
    have Bb := Ba.grown gb (fun e => by have := hown _ e; omega)
    refine opL 4 101 (v := .slice A' ((Mk.P F lm ld lw lp) ++ [n]).length cap') (w' := wb) (by kernel_rfl) (by rw [hs]; decide) ?z297 ?z298
    case z297 => (intro o ho; obtain rfl := Option.some.inj ho; exact ⟨rfl, k_append rfl rfl (ev_tmp h98) (ev_tmp h100) hr⟩)
    case z298 =>
    intro a F0
    replace hs := F0.z.trans hs
    replace hd := F0.e.trans hd
    replace h1 := (F0.n 1 (by decide)).trans h1
    replace h2 := (F0.n 2 (by decide)).trans h2
    replace h8 := (F0.n 8 (by decide)).trans h8
    replace h11 := (F0.n 11 (by decide)).trans h11
    replace h51 := (F0.n 51 (by decide)).trans h51
    replace h55 := (F0.n 55 (by decide)).trans h55
    replace h59 := (F0.n 59 (by decide)).trans h59
    replace h63 := (F0.n 63 (by decide)).trans h63
    replace h67 := (F0.n 67 (by decide)).trans h67
    replace h71 := (F0.n 71 (by decide)).trans h71
    replace h79 := (F0.n 79 (by decide)).trans h79
    replace h87 := (F0.n 87 (by decide)).trans h87
    replace h95 := (F0.n 95 (by decide)).trans h95
    clear h98
    clear h100
    have h101 := F0.s
    clear F0
    refine opL 5 102 (v := .pointer (some ⟨w4.heap.size, 7, none⟩)) (w' := wb) (by kernel_rfl) (by rw [hs]; decide) ?z299 ?z300
    case z299 => (intro o ho; obtain rfl := Option.some.inj ho; exact ⟨rfl, k_field7 rfl (ev_tmp h11)⟩)
    case z300 =>
    intro a F0
    replace hs := F0.z.trans hs
    replace hd := F0.e.trans hd
    replace h1 := (F0.n 1 (by decide)).trans h1
    replace h2 := (F0.n 2 (by decide)).trans h2
    replace h8 := (F0.n 8 (by decide)).trans h8
    replace h11 := (F0.n 11 (by decide)).trans h11
    replace h51 := (F0.n 51 (by decide)).trans h51
    replace h55 := (F0.n 55 (by decide)).trans h55
    replace h59 := (F0.n 59 (by decide)).trans h59
    replace h63 := (F0.n 63 (by decide)).trans h63
    replace h67 := (F0.n 67 (by decide)).trans h67
    replace h71 := (F0.n 71 (by decide)).trans h71
    replace h79 := (F0.n 79 (by decide)).trans h79
    replace h87 := (F0.n 87 (by decide)).trans h87
    replace h95 := (F0.n 95 (by decide)).trans h95
    replace h101 := (F0.n 101 (by decide)).trans h101
    have h102 := F0.s
    clear F0
    refine opL_store 6 (w' := (wb.setCell ⟨w4.heap.size, 7, none⟩ (.slice A' ((Mk.P F lm ld lw lp) ++ [n]).length cap'))) (by kernel_rfl) ?z301 ?z302
    case z301 => (intro o ho; obtain rfl := Option.some.inj ho; exact ⟨rfl, k_storeL rfl (ev_tmp h102) (ev_tmp h101) Bb (by simp)⟩)
    case z302 =>
    clear h101
    clear h102
    obtain ⟨w8, hww8⟩ : ∃ wn, wn = wb.setCell ⟨w4.heap.size, 7, none⟩ (.slice A' ((Mk.P F lm ld lw lp) ++ [n]).length cap') := ⟨_, rfl⟩
    rw [← hww8]
    have B8 : Blk w8 w4.heap.size 38 #[.int .i64 (F.tmod 4), .int .i64 (Mk.iv I), .int .i64 (Mk.cnt E C), .int .i64 (Mk.unt E U), .slice A1 (Mk.mon lm).length c1, .slice A2 (Mk.D F ld).length c2, .slice A3 ((Mk.W F lw).map (·.1)).length c3, .slice A' ((Mk.P F lm ld lw lp) ++ [n]).length cap'] := by rw [hww8]; exact Bb.set 7 _
    have e8 : ∀ B, Exc B w4.heap.size wb w8 := by rw [hww8]; exact exc_set wb w4.heap.size 7 _
    clear hww8
    refine wp_seq ?_
    have hob : ∀ g, (Value.slice A' ((Mk.P F lm ld lw lp) ++ [n]).length cap').ownBlock = some g → g ≠ w4.heap.size := fun g hg e => by
      subst e
      have := ob.blk w4.heap.size hg
      rw [show wb.heap[w4.heap.size]? = _ from Bb] at this
      exact absurd (show (38 : Nat) = 3 from this) (by decide)
    have hj1 := ((own_kept Fa.oM gb (fun g hg g' e h => by have a1 := (Fa.oP.lt g' e).1; have a2 := F4.gM g hg; have := F4.hW; have := F4.hP; omega)).exc (e8 wb.heap.size) (fun g hg => ⟨(own_kept Fa.oM gb (fun g hg g' e h => by have a1 := (Fa.oP.lt g' e).1; have a2 := F4.gM g hg; have := F4.hW; have := F4.hP; omega)).lt g hg |>.2, by have := (F4.oM.lt g hg).2; omega⟩)).inn
    have hj2 := ((own_kept Fa.oD gb (fun g hg g' e h => by have a1 := (Fa.oP.lt g' e).1; have a2 := F4.gD g hg; have := F4.hW; have := F4.hP; omega)).exc (e8 wb.heap.size) (fun g hg => ⟨(own_kept Fa.oD gb (fun g hg g' e h => by have a1 := (Fa.oP.lt g' e).1; have a2 := F4.gD g hg; have := F4.hW; have := F4.hP; omega)).lt g hg |>.2, by have := (F4.oD.lt g hg).2; omega⟩)).inn
    have hj3 := ((own_keptN Fa.oW gb (fun g hg g' e h => by have a1 := (Fa.oP.lt g' e).1; have a2 := F4.gW g hg; have := F4.hW; have := F4.hP; omega)).exc (e8 wb.heap.size) (fun g hg => ⟨(own_keptN Fa.oW gb (fun g hg g' e h => by have a1 := (Fa.oP.lt g' e).1; have a2 := F4.gW g hg; have := F4.hW; have := F4.hP; omega)).lt g hg |>.2, by have := (F4.oW.lt g hg).2; omega⟩)).inn
    have hj4 := (ob.exc (e8 wb.heap.size) (fun g hg => ⟨(ob.lt g hg).2, hob g hg⟩)).inn
    have L8 : ListsIn w8 A1 A2 A3 A' (Mk.mon lm) (Mk.D F ld) ((Mk.W F lw).map (·.1)) ((Mk.P F lm ld lw lp) ++ [n]) := ⟨hj1.2, hj2.2, hj3.2, hj4.2, hj1.1, hj2.1, hj3.1, hj4.1⟩
    have gx : Exc w.heap.size w.heap.size wa wb := ⟨gb.os, gb.tape, gb.output, gb.size, fun k h1 _ => gb.block k (by have := R7.size; omega) (fun e => by have := (Fa.oP.lt k e.symm).1; have := F4.hD; have := F4.hW; have := F4.hP; have := m4.size; omega)⟩
    have r8 := ((R7.trans (la.mono R7.size)).trans (gx.below (Nat.le_refl _))).trans ((e8 w.heap.size).below (by omega))
    have hx := fun Q hQ => twoMay a w8 Q hQ _ _ _ _ _ _ _ _ _ _ _ _ _ _ _ _ _ hs h11 B8.rule L8
    refine hx _ ?hb28 ?hr28
    case hb28 => (repeat (first | exact hQ | refine blind_then ?_ | refine blind_block ?_))
    case hr28 =>
    intro a wz h10 hd' lz
    replace hd := hd'.trans hd
    refine wp_ret ?_
    exact hfin a wz hd h10 (r8.trans (lz.mono r8.size))
  · refine wp_seq ?_
    refine wp_seq ?_
    refine wp_region (show wpOps _ _ _ [0, 1] _ _ from ?_)
    refine opL 0 50 (v := .int .u8 what) (w' := w7) (by kernel_rfl) (by rw [hs]; decide) ?z303 ?z304
    case z303 => (intro o ho; obtain rfl := Option.some.inj ho; exact ⟨rfl, k_move rfl (ev_tmp h1)⟩)
    case z304 =>
    intro a F0
    replace hs := F0.z.trans hs
    replace hd := F0.e.trans hd
    replace h1 := (F0.n 1 (by decide)).trans h1
    replace h2 := (F0.n 2 (by decide)).trans h2
    replace h8 := (F0.n 8 (by decide)).trans h8
    replace h11 := (F0.n 11 (by decide)).trans h11
    have h50 := F0.s
    clear F0
    refine opL 1 51 (v := .int .u8 8) (w' := w7) (by kernel_rfl) (by rw [hs]; decide) ?z305 ?z306
    case z305 => (intro o ho; obtain rfl := Option.some.inj ho; exact ⟨rfl, o_remB rfl (ev_tmp h50) rfl (by decide) hk⟩)
    case z306 =>
    intro a F0
    replace hs := F0.z.trans hs
    replace hd := F0.e.trans hd
    replace h1 := (F0.n 1 (by decide)).trans h1
    replace h2 := (F0.n 2 (by decide)).trans h2
    replace h8 := (F0.n 8 (by decide)).trans h8
    replace h11 := (F0.n 11 (by decide)).trans h11
    clear h50
    have h51 := F0.s
    clear F0
    refine wp_block ?_
    refine wp_seq ?_
    refine wp_region (show wpOps _ _ _ [0, 1] _ _ from ?_)
    refine opL 0 56 (v := .bool false) (w' := w7) (by kernel_rfl) (by rw [hs]; decide) ?z307 ?z308
    case z307 => (intro o ho; obtain rfl := Option.some.inj ho; exact ⟨rfl, o_eqB rfl (ev_tmp h51) rfl (by decide)⟩)
    case z308 =>
    intro a F0
    replace hs := F0.z.trans hs
    replace hd := F0.e.trans hd
    replace h1 := (F0.n 1 (by decide)).trans h1
    replace h2 := (F0.n 2 (by decide)).trans h2
    replace h8 := (F0.n 8 (by decide)).trans h8
    replace h11 := (F0.n 11 (by decide)).trans h11
    replace h51 := (F0.n 51 (by decide)).trans h51
    have h56 := F0.s
    clear F0
    refine opL 1 55 (v := .bool false) (w' := w7) (by kernel_rfl) (by rw [hs]; decide) ?z309 ?z310
    case z309 => (intro o ho; obtain rfl := Option.some.inj ho; exact ⟨rfl, k_assign rfl (ev_tmp h56)⟩)
    case z310 =>
    intro a F0
    replace hs := F0.z.trans hs
    replace hd := F0.e.trans hd
    replace h1 := (F0.n 1 (by decide)).trans h1
    replace h2 := (F0.n 2 (by decide)).trans h2
    replace h8 := (F0.n 8 (by decide)).trans h8
    replace h11 := (F0.n 11 (by decide)).trans h11
    replace h51 := (F0.n 51 (by decide)).trans h51
    clear h56
    have h55 := F0.s
    clear F0
    refine wp_cond_false (ev_tmp h55) ?_
    refine wp_seq ?_
    refine wp_region (show wpOps _ _ _ [0, 1] _ _ from ?_)
    refine opL 0 60 (v := .bool false) (w' := w7) (by kernel_rfl) (by rw [hs]; decide) ?z311 ?z312
    case z311 => (intro o ho; obtain rfl := Option.some.inj ho; exact ⟨rfl, o_eqB rfl (ev_tmp h51) rfl (by decide)⟩)
    case z312 =>
    intro a F0
    replace hs := F0.z.trans hs
    replace hd := F0.e.trans hd
    replace h1 := (F0.n 1 (by decide)).trans h1
    replace h2 := (F0.n 2 (by decide)).trans h2
    replace h8 := (F0.n 8 (by decide)).trans h8
    replace h11 := (F0.n 11 (by decide)).trans h11
    replace h51 := (F0.n 51 (by decide)).trans h51
    replace h55 := (F0.n 55 (by decide)).trans h55
    have h60 := F0.s
    clear F0
    refine opL 1 59 (v := .bool false) (w' := w7) (by kernel_rfl) (by rw [hs]; decide) ?z313 ?z314
    case z313 => (intro o ho; obtain rfl := Option.some.inj ho; exact ⟨rfl, k_assign rfl (ev_tmp h60)⟩)
    case z314 =>
    intro a F0
    replace hs := F0.z.trans hs
    replace hd := F0.e.trans hd
    replace h1 := (F0.n 1 (by decide)).trans h1
    replace h2 := (F0.n 2 (by decide)).trans h2
    replace h8 := (F0.n 8 (by decide)).trans h8
    replace h11 := (F0.n 11 (by decide)).trans h11
    replace h51 := (F0.n 51 (by decide)).trans h51
    replace h55 := (F0.n 55 (by decide)).trans h55
    clear h60
    have h59 := F0.s
    clear F0
    refine wp_cond_false (ev_tmp h59) ?_
    refine wp_seq ?_
    refine wp_region (show wpOps _ _ _ [0, 1] _ _ from ?_)
    refine opL 0 64 (v := .bool false) (w' := w7) (by kernel_rfl) (by rw [hs]; decide) ?z315 ?z316
    case z315 => (intro o ho; obtain rfl := Option.some.inj ho; exact ⟨rfl, o_eqB rfl (ev_tmp h51) rfl (by decide)⟩)
    case z316 =>
    intro a F0
    replace hs := F0.z.trans hs
    replace hd := F0.e.trans hd
    replace h1 := (F0.n 1 (by decide)).trans h1
    replace h2 := (F0.n 2 (by decide)).trans h2
    replace h8 := (F0.n 8 (by decide)).trans h8
    replace h11 := (F0.n 11 (by decide)).trans h11
    replace h51 := (F0.n 51 (by decide)).trans h51
    replace h55 := (F0.n 55 (by decide)).trans h55
    replace h59 := (F0.n 59 (by decide)).trans h59
    have h64 := F0.s
    clear F0
    refine opL 1 63 (v := .bool false) (w' := w7) (by kernel_rfl) (by rw [hs]; decide) ?z317 ?z318
    case z317 => (intro o ho; obtain rfl := Option.some.inj ho; exact ⟨rfl, k_assign rfl (ev_tmp h64)⟩)
    case z318 =>
    intro a F0
    replace hs := F0.z.trans hs
    replace hd := F0.e.trans hd
    replace h1 := (F0.n 1 (by decide)).trans h1
    replace h2 := (F0.n 2 (by decide)).trans h2
    replace h8 := (F0.n 8 (by decide)).trans h8
    replace h11 := (F0.n 11 (by decide)).trans h11
    replace h51 := (F0.n 51 (by decide)).trans h51
    replace h55 := (F0.n 55 (by decide)).trans h55
    replace h59 := (F0.n 59 (by decide)).trans h59
    clear h64
    have h63 := F0.s
    clear F0
    refine wp_cond_false (ev_tmp h63) ?_
    refine wp_seq ?_
    refine wp_region (show wpOps _ _ _ [0, 1] _ _ from ?_)
    refine opL 0 68 (v := .bool false) (w' := w7) (by kernel_rfl) (by rw [hs]; decide) ?z319 ?z320
    case z319 => (intro o ho; obtain rfl := Option.some.inj ho; exact ⟨rfl, o_eqB rfl (ev_tmp h51) rfl (by decide)⟩)
    case z320 =>
    intro a F0
    replace hs := F0.z.trans hs
    replace hd := F0.e.trans hd
    replace h1 := (F0.n 1 (by decide)).trans h1
    replace h2 := (F0.n 2 (by decide)).trans h2
    replace h8 := (F0.n 8 (by decide)).trans h8
    replace h11 := (F0.n 11 (by decide)).trans h11
    replace h51 := (F0.n 51 (by decide)).trans h51
    replace h55 := (F0.n 55 (by decide)).trans h55
    replace h59 := (F0.n 59 (by decide)).trans h59
    replace h63 := (F0.n 63 (by decide)).trans h63
    have h68 := F0.s
    clear F0
    refine opL 1 67 (v := .bool false) (w' := w7) (by kernel_rfl) (by rw [hs]; decide) ?z321 ?z322
    case z321 => (intro o ho; obtain rfl := Option.some.inj ho; exact ⟨rfl, k_assign rfl (ev_tmp h68)⟩)
    case z322 =>
    intro a F0
    replace hs := F0.z.trans hs
    replace hd := F0.e.trans hd
    replace h1 := (F0.n 1 (by decide)).trans h1
    replace h2 := (F0.n 2 (by decide)).trans h2
    replace h8 := (F0.n 8 (by decide)).trans h8
    replace h11 := (F0.n 11 (by decide)).trans h11
    replace h51 := (F0.n 51 (by decide)).trans h51
    replace h55 := (F0.n 55 (by decide)).trans h55
    replace h59 := (F0.n 59 (by decide)).trans h59
    replace h63 := (F0.n 63 (by decide)).trans h63
    clear h68
    have h67 := F0.s
    clear F0
    refine wp_cond_false (ev_tmp h67) ?_
    refine wp_seq ?_
    refine wp_region (show wpOps _ _ _ [0, 1] _ _ from ?_)
    refine opL 0 72 (v := .bool false) (w' := w7) (by kernel_rfl) (by rw [hs]; decide) ?z323 ?z324
    case z323 => (intro o ho; obtain rfl := Option.some.inj ho; exact ⟨rfl, o_eqB rfl (ev_tmp h51) rfl (by decide)⟩)
    case z324 =>
    intro a F0
    replace hs := F0.z.trans hs
    replace hd := F0.e.trans hd
    replace h1 := (F0.n 1 (by decide)).trans h1
    replace h2 := (F0.n 2 (by decide)).trans h2
    replace h8 := (F0.n 8 (by decide)).trans h8
    replace h11 := (F0.n 11 (by decide)).trans h11
    replace h51 := (F0.n 51 (by decide)).trans h51
    replace h55 := (F0.n 55 (by decide)).trans h55
    replace h59 := (F0.n 59 (by decide)).trans h59
    replace h63 := (F0.n 63 (by decide)).trans h63
    replace h67 := (F0.n 67 (by decide)).trans h67
    have h72 := F0.s
    clear F0
    refine opL 1 71 (v := .bool false) (w' := w7) (by kernel_rfl) (by rw [hs]; decide) ?z325 ?z326
    case z325 => (intro o ho; obtain rfl := Option.some.inj ho; exact ⟨rfl, k_assign rfl (ev_tmp h72)⟩)
    case z326 =>
    intro a F0
    replace hs := F0.z.trans hs
    replace hd := F0.e.trans hd
    replace h1 := (F0.n 1 (by decide)).trans h1
    replace h2 := (F0.n 2 (by decide)).trans h2
    replace h8 := (F0.n 8 (by decide)).trans h8
    replace h11 := (F0.n 11 (by decide)).trans h11
    replace h51 := (F0.n 51 (by decide)).trans h51
    replace h55 := (F0.n 55 (by decide)).trans h55
    replace h59 := (F0.n 59 (by decide)).trans h59
    replace h63 := (F0.n 63 (by decide)).trans h63
    replace h67 := (F0.n 67 (by decide)).trans h67
    clear h72
    have h71 := F0.s
    clear F0
    refine wp_cond_false (ev_tmp h71) ?_
    refine wp_seq ?_
    refine wp_region (show wpOps _ _ _ [0, 1] _ _ from ?_)
    refine opL 0 80 (v := .bool false) (w' := w7) (by kernel_rfl) (by rw [hs]; decide) ?z327 ?z328
    case z327 => (intro o ho; obtain rfl := Option.some.inj ho; exact ⟨rfl, o_eqB rfl (ev_tmp h51) rfl (by decide)⟩)
    case z328 =>
    intro a F0
    replace hs := F0.z.trans hs
    replace hd := F0.e.trans hd
    replace h1 := (F0.n 1 (by decide)).trans h1
    replace h2 := (F0.n 2 (by decide)).trans h2
    replace h8 := (F0.n 8 (by decide)).trans h8
    replace h11 := (F0.n 11 (by decide)).trans h11
    replace h51 := (F0.n 51 (by decide)).trans h51
    replace h55 := (F0.n 55 (by decide)).trans h55
    replace h59 := (F0.n 59 (by decide)).trans h59
    replace h63 := (F0.n 63 (by decide)).trans h63
    replace h67 := (F0.n 67 (by decide)).trans h67
    replace h71 := (F0.n 71 (by decide)).trans h71
    have h80 := F0.s
    clear F0
    refine opL 1 79 (v := .bool false) (w' := w7) (by kernel_rfl) (by rw [hs]; decide) ?z329 ?z330
    case z329 => (intro o ho; obtain rfl := Option.some.inj ho; exact ⟨rfl, k_assign rfl (ev_tmp h80)⟩)
    case z330 =>
    intro a F0
    replace hs := F0.z.trans hs
    replace hd := F0.e.trans hd
    replace h1 := (F0.n 1 (by decide)).trans h1
    replace h2 := (F0.n 2 (by decide)).trans h2
    replace h8 := (F0.n 8 (by decide)).trans h8
    replace h11 := (F0.n 11 (by decide)).trans h11
    replace h51 := (F0.n 51 (by decide)).trans h51
    replace h55 := (F0.n 55 (by decide)).trans h55
    replace h59 := (F0.n 59 (by decide)).trans h59
    replace h63 := (F0.n 63 (by decide)).trans h63
    replace h67 := (F0.n 67 (by decide)).trans h67
    replace h71 := (F0.n 71 (by decide)).trans h71
    clear h80
    have h79 := F0.s
    clear F0
    refine wp_cond_false (ev_tmp h79) ?_
    refine wp_seq ?_
    refine wp_region (show wpOps _ _ _ [0, 1] _ _ from ?_)
    refine opL 0 88 (v := .bool false) (w' := w7) (by kernel_rfl) (by rw [hs]; decide) ?z331 ?z332
    case z331 => (intro o ho; obtain rfl := Option.some.inj ho; exact ⟨rfl, o_eqB rfl (ev_tmp h51) rfl (by decide)⟩)
    case z332 =>
    intro a F0
    replace hs := F0.z.trans hs
    replace hd := F0.e.trans hd
    replace h1 := (F0.n 1 (by decide)).trans h1
    replace h2 := (F0.n 2 (by decide)).trans h2
    replace h8 := (F0.n 8 (by decide)).trans h8
    replace h11 := (F0.n 11 (by decide)).trans h11
    replace h51 := (F0.n 51 (by decide)).trans h51
    replace h55 := (F0.n 55 (by decide)).trans h55
    replace h59 := (F0.n 59 (by decide)).trans h59
    replace h63 := (F0.n 63 (by decide)).trans h63
    replace h67 := (F0.n 67 (by decide)).trans h67
    replace h71 := (F0.n 71 (by decide)).trans h71
    replace h79 := (F0.n 79 (by decide)).trans h79
    have h88 := F0.s
    clear F0
    refine opL 1 87 (v := .bool false) (w' := w7) (by kernel_rfl) (by rw [hs]; decide) ?z333 ?z334
    case z333 => (intro o ho; obtain rfl := Option.some.inj ho; exact ⟨rfl, k_assign rfl (ev_tmp h88)⟩)
    case z334 =>
    intro a F0
    replace hs := F0.z.trans hs
    replace hd := F0.e.trans hd
    replace h1 := (F0.n 1 (by decide)).trans h1
    replace h2 := (F0.n 2 (by decide)).trans h2
    replace h8 := (F0.n 8 (by decide)).trans h8
    replace h11 := (F0.n 11 (by decide)).trans h11
    replace h51 := (F0.n 51 (by decide)).trans h51
    replace h55 := (F0.n 55 (by decide)).trans h55
    replace h59 := (F0.n 59 (by decide)).trans h59
    replace h63 := (F0.n 63 (by decide)).trans h63
    replace h67 := (F0.n 67 (by decide)).trans h67
    replace h71 := (F0.n 71 (by decide)).trans h71
    replace h79 := (F0.n 79 (by decide)).trans h79
    clear h88
    have h87 := F0.s
    clear F0
    refine wp_cond_false (ev_tmp h87) ?_
    refine wp_seq ?_
    refine wp_region (show wpOps _ _ _ [0, 1] _ _ from ?_)
    refine opL 0 96 (v := .bool false) (w' := w7) (by kernel_rfl) (by rw [hs]; decide) ?z335 ?z336
    case z335 => (intro o ho; obtain rfl := Option.some.inj ho; exact ⟨rfl, o_eqB rfl (ev_tmp h51) rfl (by decide)⟩)
    case z336 =>
    intro a F0
    replace hs := F0.z.trans hs
    replace hd := F0.e.trans hd
    replace h1 := (F0.n 1 (by decide)).trans h1
    replace h2 := (F0.n 2 (by decide)).trans h2
    replace h8 := (F0.n 8 (by decide)).trans h8
    replace h11 := (F0.n 11 (by decide)).trans h11
    replace h51 := (F0.n 51 (by decide)).trans h51
    replace h55 := (F0.n 55 (by decide)).trans h55
    replace h59 := (F0.n 59 (by decide)).trans h59
    replace h63 := (F0.n 63 (by decide)).trans h63
    replace h67 := (F0.n 67 (by decide)).trans h67
    replace h71 := (F0.n 71 (by decide)).trans h71
    replace h79 := (F0.n 79 (by decide)).trans h79
    replace h87 := (F0.n 87 (by decide)).trans h87
    have h96 := F0.s
    clear F0
    refine opL 1 95 (v := .bool false) (w' := w7) (by kernel_rfl) (by rw [hs]; decide) ?z337 ?z338
    case z337 => (intro o ho; obtain rfl := Option.some.inj ho; exact ⟨rfl, k_assign rfl (ev_tmp h96)⟩)
    case z338 =>
    intro a F0
    replace hs := F0.z.trans hs
    replace hd := F0.e.trans hd
    replace h1 := (F0.n 1 (by decide)).trans h1
    replace h2 := (F0.n 2 (by decide)).trans h2
    replace h8 := (F0.n 8 (by decide)).trans h8
    replace h11 := (F0.n 11 (by decide)).trans h11
    replace h51 := (F0.n 51 (by decide)).trans h51
    replace h55 := (F0.n 55 (by decide)).trans h55
    replace h59 := (F0.n 59 (by decide)).trans h59
    replace h63 := (F0.n 63 (by decide)).trans h63
    replace h67 := (F0.n 67 (by decide)).trans h67
    replace h71 := (F0.n 71 (by decide)).trans h71
    replace h79 := (F0.n 79 (by decide)).trans h79
    replace h87 := (F0.n 87 (by decide)).trans h87
    clear h96
    have h95 := F0.s
    clear F0
    refine wp_cond_false (ev_tmp h95) ?_
    refine wp_region (show wpOps _ _ _ [0, 1, 2, 3, 4, 5] _ _ from ?_)
    refine opL 0 52 (v := .pointer (some ⟨w4.heap.size, 4, none⟩)) (w' := w7) (by kernel_rfl) (by rw [hs]; decide) ?z339 ?z340
    case z339 => (intro o ho; obtain rfl := Option.some.inj ho; exact ⟨rfl, k_field4 rfl (ev_tmp h11)⟩)
    case z340 =>
    intro a F0
    replace hs := F0.z.trans hs
    replace hd := F0.e.trans hd
    replace h1 := (F0.n 1 (by decide)).trans h1
    replace h2 := (F0.n 2 (by decide)).trans h2
    replace h8 := (F0.n 8 (by decide)).trans h8
    replace h11 := (F0.n 11 (by decide)).trans h11
    replace h51 := (F0.n 51 (by decide)).trans h51
    replace h55 := (F0.n 55 (by decide)).trans h55
    replace h59 := (F0.n 59 (by decide)).trans h59
    replace h63 := (F0.n 63 (by decide)).trans h63
    replace h67 := (F0.n 67 (by decide)).trans h67
    replace h71 := (F0.n 71 (by decide)).trans h71
    replace h79 := (F0.n 79 (by decide)).trans h79
    replace h87 := (F0.n 87 (by decide)).trans h87
    replace h95 := (F0.n 95 (by decide)).trans h95
    have h52 := F0.s
    clear F0
    refine opL_store 1 (w' := (w7.setCell ⟨w4.heap.size, 4, none⟩ (.slice none 0 0))) (by kernel_rfl) ?z341 ?z342
    case z341 => (intro o ho; obtain rfl := Option.some.inj ho; exact ⟨rfl, k_storeL rfl (ev_tmp h52) rfl B7 (by simp)⟩)
    case z342 =>
    clear h52
    obtain ⟨wa, hwwa⟩ : ∃ wn, wn = w7.setCell ⟨w4.heap.size, 4, none⟩ (.slice none 0 0) := ⟨_, rfl⟩
    rw [← hwwa]
    have Ba : Blk wa w4.heap.size 38 #[.int .i64 (F.tmod 4), .int .i64 (Mk.iv I), .int .i64 (Mk.cnt E C), .int .i64 (Mk.unt E U), .slice none 0 0, .slice A2 (Mk.D F ld).length c2, .slice A3 ((Mk.W F lw).map (·.1)).length c3, .slice A4 (Mk.P F lm ld lw lp).length c4] := by rw [hwwa]; exact B7.set 4 _
    have ea : ∀ B, Exc B w4.heap.size w7 wa := by rw [hwwa]; exact exc_set w7 w4.heap.size 4 _
    clear hwwa
    refine opL 2 53 (v := .pointer (some ⟨w4.heap.size, 5, none⟩)) (w' := wa) (by kernel_rfl) (by rw [hs]; decide) ?z343 ?z344
    case z343 => (intro o ho; obtain rfl := Option.some.inj ho; exact ⟨rfl, k_field5 rfl (ev_tmp h11)⟩)
    case z344 =>
    intro a F0
    replace hs := F0.z.trans hs
    replace hd := F0.e.trans hd
    replace h1 := (F0.n 1 (by decide)).trans h1
    replace h2 := (F0.n 2 (by decide)).trans h2
    replace h8 := (F0.n 8 (by decide)).trans h8
    replace h11 := (F0.n 11 (by decide)).trans h11
    replace h51 := (F0.n 51 (by decide)).trans h51
    replace h55 := (F0.n 55 (by decide)).trans h55
    replace h59 := (F0.n 59 (by decide)).trans h59
    replace h63 := (F0.n 63 (by decide)).trans h63
    replace h67 := (F0.n 67 (by decide)).trans h67
    replace h71 := (F0.n 71 (by decide)).trans h71
    replace h79 := (F0.n 79 (by decide)).trans h79
    replace h87 := (F0.n 87 (by decide)).trans h87
    replace h95 := (F0.n 95 (by decide)).trans h95
    have h53 := F0.s
    clear F0
    refine opL_store 3 (w' := (wa.setCell ⟨w4.heap.size, 5, none⟩ (.slice none 0 0))) (by kernel_rfl) ?z345 ?z346
    case z345 => (intro o ho; obtain rfl := Option.some.inj ho; exact ⟨rfl, k_storeL rfl (ev_tmp h53) rfl Ba (by simp)⟩)
    case z346 =>
    clear h53
    obtain ⟨wb, hwwb⟩ : ∃ wn, wn = wa.setCell ⟨w4.heap.size, 5, none⟩ (.slice none 0 0) := ⟨_, rfl⟩
    rw [← hwwb]
    have Bb : Blk wb w4.heap.size 38 #[.int .i64 (F.tmod 4), .int .i64 (Mk.iv I), .int .i64 (Mk.cnt E C), .int .i64 (Mk.unt E U), .slice none 0 0, .slice none 0 0, .slice A3 ((Mk.W F lw).map (·.1)).length c3, .slice A4 (Mk.P F lm ld lw lp).length c4] := by rw [hwwb]; exact Ba.set 5 _
    have eb : ∀ B, Exc B w4.heap.size wa wb := by rw [hwwb]; exact exc_set wa w4.heap.size 5 _
    clear hwwb
    refine opL 4 54 (v := .pointer (some ⟨w4.heap.size, 6, none⟩)) (w' := wb) (by kernel_rfl) (by rw [hs]; decide) ?z347 ?z348
    case z347 => (intro o ho; obtain rfl := Option.some.inj ho; exact ⟨rfl, k_field6 rfl (ev_tmp h11)⟩)
    case z348 =>
    intro a F0
    replace hs := F0.z.trans hs
    replace hd := F0.e.trans hd
    replace h1 := (F0.n 1 (by decide)).trans h1
    replace h2 := (F0.n 2 (by decide)).trans h2
    replace h8 := (F0.n 8 (by decide)).trans h8
    replace h11 := (F0.n 11 (by decide)).trans h11
    replace h51 := (F0.n 51 (by decide)).trans h51
    replace h55 := (F0.n 55 (by decide)).trans h55
    replace h59 := (F0.n 59 (by decide)).trans h59
    replace h63 := (F0.n 63 (by decide)).trans h63
    replace h67 := (F0.n 67 (by decide)).trans h67
    replace h71 := (F0.n 71 (by decide)).trans h71
    replace h79 := (F0.n 79 (by decide)).trans h79
    replace h87 := (F0.n 87 (by decide)).trans h87
    replace h95 := (F0.n 95 (by decide)).trans h95
    have h54 := F0.s
    clear F0
    refine opL_store 5 (w' := (wb.setCell ⟨w4.heap.size, 6, none⟩ (.slice none 0 0))) (by kernel_rfl) ?z349 ?z350
    case z349 => (intro o ho; obtain rfl := Option.some.inj ho; exact ⟨rfl, k_storeW rfl (ev_tmp h54) rfl Bb (by simp)⟩)
    case z350 =>
    clear h54
    obtain ⟨w8, hww8⟩ : ∃ wn, wn = wb.setCell ⟨w4.heap.size, 6, none⟩ (.slice none 0 0) := ⟨_, rfl⟩
    rw [← hww8]
    have B8 : Blk w8 w4.heap.size 38 #[.int .i64 (F.tmod 4), .int .i64 (Mk.iv I), .int .i64 (Mk.cnt E C), .int .i64 (Mk.unt E U), .slice none 0 0, .slice none 0 0, .slice none 0 0, .slice A4 (Mk.P F lm ld lw lp).length c4] := by rw [hww8]; exact Bb.set 6 _
    have e8 : ∀ B, Exc B w4.heap.size wb w8 := by rw [hww8]; exact exc_set wb w4.heap.size 6 _
    clear hww8
    refine wp_seq ?_
    have ez := ((ea w7.heap.size).trans (eb w7.heap.size)).trans (e8 w7.heap.size)
    have L8 : ListsIn w8 none none none A4 [] [] [] (Mk.P F lm ld lw lp) := ⟨ints_nil _ _, ints_nil _ _, nths_nil _ _, (F7.exc ez (.inr (Nat.le_refl _)) t1 t2 t3 t4).lists.p, by simp [maxLen], by simp [maxLen], by simp [maxLen], F4.lists.lp⟩
    have r8 := R7.trans ((((ea w.heap.size).trans (eb w.heap.size)).trans (e8 w.heap.size)).below (by omega))
    have hx := fun Q hQ => twoMay a w8 Q hQ _ _ _ _ _ _ _ _ _ _ _ _ _ _ _ _ _ hs h11 B8.rule L8
    refine hx _ ?hb28 ?hr28
    case hb28 => (repeat (first | exact hQ | refine blind_then ?_ | refine blind_block ?_))
    case hr28 =>
    intro a wz h10 hd' lz
    replace hd := hd'.trans hd
    refine wp_ret ?_
    exact hfin a wz hd h10 (r8.trans (lz.mono r8.size))
theorem ruleMay_walk (F I E C U : Int) (AM AD AW AP : Option Addr) (cM cD cW cP : Nat) (lm ld : List Int) (lw : List (Int × Int)) (lp : List Int) (what n p q : Int) (near : Bool) (w : World) (hM : Months w) (hX : XIn0 w F I E C U AM AD AW AP lm ld lw lp) (hwh : 0 ≤ what ∧ what ≤ 255) (_ : -9223372036854775808 ≤ n ∧ n ≤ 9223372036854775807) (_ : -9223372036854775808 ≤ p ∧ p ≤ 9223372036854775807) (_ : -9223372036854775808 ≤ q ∧ q ≤ 9223372036854775807) :
    Calls Tryd.prog 3 #[.agg #[.int .u8 F, .int .u8 I, .int .u8 E, .int .u16 C, .int .u32 U, .slice AM lm.length cM, .slice AD ld.length cD, .slice AW lw.length cW, .slice AP lp.length cP], .int .u8 what, .int .i64 n, .agg #[.int .i64 p, .int .i64 q], .bool near] w fun e w' => e = .returned (.bool true) ∧ Below w.heap.size w w' := by
  cases hlt : light lm ld lw lp
  · exact ruleMay_heavy F I E C U AM AD AW AP cM cD cW cP lm ld lw lp what n p q near w hM hX hlt
  · exact ruleMay_light F I E C U AM AD AW AP cM cD cW cP lm ld lw lp what n p q near w hM hX hwh hlt
end Go.Proofs.YtoldjleojnlhiaaDoor
