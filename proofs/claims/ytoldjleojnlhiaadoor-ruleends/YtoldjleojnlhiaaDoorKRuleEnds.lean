/-
  The walk of the law RuleEnds, out of the contracts.
-/
import Derived.Test.YtoldjleojnlhiaaDoorLaws0
namespace Go.Proofs.YtoldjleojnlhiaaDoor
open Go.RowKit
noncomputable def ruleEndsBody : Code := Tryd.f8.body.getD .skip

theorem odd_not {f : Int} {M D : List Int} {W : List (Int × Int)} {P : List Int} (h1 : f = 1 → D = []) (h2 : P ≠ [] → 0 < M.length + D.length + W.length) : Rul.odd f M D W P = false := by
  have a1 : (f == 1 && decide (0 < D.length)) = false := by
    by_cases hf : f = 1
    · rw [h1 hf]; simp
    · simp [hf]
  have a2 : (decide (0 < P.length) && !(decide (0 < M.length) || decide (0 < D.length) || decide (0 < W.length))) = false := by
    by_cases hp : P = []
    · rw [hp]; simp
    · have h3 : 0 < M.length ∨ 0 < D.length ∨ 0 < W.length := by have := h2 hp; omega
      rcases h3 with h3 | h3 | h3
      · rw [decide_eq_true h3]; simp
      · rw [decide_eq_true h3]; simp
      · rw [decide_eq_true h3]; simp
  unfold Rul.odd
  rw [a1, a2]
  rfl
theorem one_in (w : World) (g : Nat) (x : Int) (h : Blk w g 3 #[.int .i64 x]) : IntsIn w (some ⟨g, 0, none⟩) [x] := fun k hk => by
  obtain rfl : k = 0 := by simpa using hk
  exact ⟨_, rfl, h.lt, h.cell 0⟩
set_option maxRecDepth 100000 in
set_option maxHeartbeats 1000000 in
theorem ruleEnds_heavy (F I E C U : Int) (AM AD AW AP : Option Addr) (cM cD cW cP : Nat) (lm ld : List Int) (lw : List (Int × Int)) (lp : List Int) (n m : Int) (wr : Bool) (w : World) (hM : Months w) (hX : XIn0 w F I E C U AM AD AW AP lm ld lw lp) (hlt : light lm ld lw lp = false) :
    Calls Tryd.prog 8 #[.agg #[.int .u8 F, .int .u8 I, .int .u8 E, .int .u16 C, .int .u32 U, .slice AM lm.length cM, .slice AD ld.length cD, .slice AW lw.length cW, .slice AP lp.length cP], .int .u16 n, .int .u32 m, .bool wr] w fun e w' => e = .returned (.bool true) ∧ Below w.heap.size w w' := by
  refine calls_of_wp Tryd.func8 (show Tryd.f8.body = some ruleEndsBody from rfl) ?_
  generalize hA : (Act.mk (#[.agg #[.int .u8 F, .int .u8 I, .int .u8 E, .int .u16 C, .int .u32 U, .slice AM lm.length cM, .slice AD ld.length cD, .slice AW lw.length cW, .slice AP lp.length cP], .int .u16 n, .int .u32 m, .bool wr] ++ Array.replicate (Tryd.f8.ntmps - (#[.agg #[.int .u8 F, .int .u8 I, .int .u8 E, .int .u16 C, .int .u32 U, .slice AM lm.length cM, .slice AD ld.length cD, .slice AW lw.length cW, .slice AP lp.length cP], .int .u16 n, .int .u32 m, .bool wr] : Array Value).size) undef) []) = a
  have hs : a.tmps.size = 45 := by rw [← hA]; simp [Tryd.ntmps8]
  have hd : a.defers = [] := by rw [← hA]
  have h0 : a.tmps.getD 0 undef = .agg #[.int .u8 F, .int .u8 I, .int .u8 E, .int .u16 C, .int .u32 U, .slice AM lm.length cM, .slice AD ld.length cD, .slice AW lw.length cW, .slice AP lp.length cP] := by rw [← hA]; simp
  have h1 : a.tmps.getD 1 undef = .int .u16 n := by rw [← hA]; simp
  have h2 : a.tmps.getD 2 undef = .int .u32 m := by rw [← hA]; simp
  have h3 : a.tmps.getD 3 undef = .bool wr := by rw [← hA]; simp
  clear hA
  refine Code.wp_mono NoPanic.imp ?_
  have hQ : Blind (NoPanic (bodyPost Tryd.prog Tryd.f8 fun e w' => e = .returned (.bool true) ∧ Below w.heap.size w w')) := fun _ _ _ _ q => q.elim
  have hfin : ∀ (a' : Act) (w' : World), a'.defers = [] → a'.tmps.getD 8 undef = .bool true → Below w.heap.size w w' → NoPanic (bodyPost Tryd.prog Tryd.f8 fun e w' => e = .returned (.bool true) ∧ Below w.heap.size w w') .ret a' w' := by
    intro a' w' k1 k2 k3
    exact ⟨k1, _, results_tmp rfl _ _ _, by rw [k2], k3⟩
  generalize NoPanic (bodyPost Tryd.prog Tryd.f8 fun e w' => e = .returned (.bool true) ∧ Below w.heap.size w w') = Q at hQ hfin
  unfold ruleEndsBody
  conv => arg 2; whnf
  refine wp_seq ?_
  refine wp_region (show wpOps _ _ _ [0, 1] _ _ from ?_)
  refine opL 0 4 (v := .pointer (some ⟨w.heap.size, 0, none⟩)) (w' := (w.alloc (.cells #[.int .u8 F, .int .u8 I, .int .u8 E, .int .u16 C, .int .u32 U, .slice AM lm.length cM, .slice AD ld.length cD, .slice AW lw.length cW, .slice AP lp.length cP] 29))) (by kernel_rfl) (by rw [hs]; decide) ?z1 ?z2
  case z1 => (intro o ho; obtain rfl := Option.some.inj ho; exact ⟨rfl, k_box9 rfl (ev_tmp h0)⟩)
  case z2 =>
  intro a F0
  replace hs := F0.z.trans hs
  replace hd := F0.e.trans hd
  clear h0
  replace h1 := (F0.n 1 (by decide)).trans h1
  replace h2 := (F0.n 2 (by decide)).trans h2
  replace h3 := (F0.n 3 (by decide)).trans h3
  have h4 := F0.s
  clear F0
  obtain ⟨w1, hw1⟩ : ∃ wn, wn = w.alloc (.cells #[.int .u8 F, .int .u8 I, .int .u8 E, .int .u16 C, .int .u32 U, .slice AM lm.length cM, .slice AD ld.length cD, .slice AW lw.length cW, .slice AP lp.length cP] 29) := ⟨_, rfl⟩
  rw [← hw1]
  have q1 : Blk w1 w.heap.size 29 #[.int .u8 F, .int .u8 I, .int .u8 E, .int .u16 C, .int .u32 U, .slice AM lm.length cM, .slice AD ld.length cD, .slice AW lw.length cW, .slice AP lp.length cP] := by rw [hw1]; exact Blk.alloc _ _ _
  have l1 : Below w.heap.size w w1 := by rw [hw1]; exact (Below.refl _ _).alloc (Nat.le_refl _) _
  clear hw1
  refine opL 1 8 (v := .bool false) (w' := w1) (by kernel_rfl) (by rw [hs]; decide) ?z3 ?z4
  case z3 => (intro o ho; obtain rfl := Option.some.inj ho; exact ⟨rfl, k_assign rfl rfl⟩)
  case z4 =>
  intro a F0
  replace hs := F0.z.trans hs
  replace hd := F0.e.trans hd
  replace h1 := (F0.n 1 (by decide)).trans h1
  replace h2 := (F0.n 2 (by decide)).trans h2
  replace h3 := (F0.n 3 (by decide)).trans h3
  replace h4 := (F0.n 4 (by decide)).trans h4
  have h8 := F0.s
  clear F0
  refine wp_seq ?_
  refine wp_seq ?_
  refine wp_region (show wpOps _ _ _ [0, 1] _ _ from ?_)
  refine opL_call 0 12 (f := 9) (args := #[]) (R := fun v w' => v = .bool true ∧ Below w1.heap.size w1 w') (by kernel_rfl) (by rw [hs]; decide) ?z5 (awake2' w1 (hM.grown l1)) ?z6
  case z5 => (intro o ho; obtain rfl := Option.some.inj ho; exact ⟨rfl, k_callAwake rfl rfl⟩)
  case z6 =>
  rintro _ w2 a ⟨rfl, l2⟩ F0
  replace hs := F0.z.trans hs
  replace hd := F0.e.trans hd
  replace h1 := (F0.n 1 (by decide)).trans h1
  replace h2 := (F0.n 2 (by decide)).trans h2
  replace h3 := (F0.n 3 (by decide)).trans h3
  replace h4 := (F0.n 4 (by decide)).trans h4
  replace h8 := (F0.n 8 (by decide)).trans h8
  have h12 := F0.s
  clear F0
  replace q1 := q1.below l2 q1.lt
  have m2 := l1.trans (l2.mono l1.size)
  clear l1 l2
  refine opL 1 13 (v := .bool false) (w' := w2) (by kernel_rfl) (by rw [hs]; decide) ?z7 ?z8
  case z7 => (intro o ho; obtain rfl := Option.some.inj ho; exact ⟨rfl, o_not rfl (ev_tmp h12) rfl⟩)
  case z8 =>
  intro a F0
  replace hs := F0.z.trans hs
  replace hd := F0.e.trans hd
  replace h1 := (F0.n 1 (by decide)).trans h1
  replace h2 := (F0.n 2 (by decide)).trans h2
  replace h3 := (F0.n 3 (by decide)).trans h3
  replace h4 := (F0.n 4 (by decide)).trans h4
  replace h8 := (F0.n 8 (by decide)).trans h8
  clear h12
  have h13 := F0.s
  clear F0
  refine wp_cond_false (ev_tmp h13) ?_
  refine wp_skip ?_
  refine wp_seq ?_
  refine wp_seq ?_
  refine wp_region (show wpOps _ _ _ [0, 1, 2] _ _ from ?_)
  refine opL 0 14 (v := .agg #[.int .u8 F, .int .u8 I, .int .u8 E, .int .u16 C, .int .u32 U, .slice AM lm.length cM, .slice AD ld.length cD, .slice AW lw.length cW, .slice AP lp.length cP]) (w' := w2) (by kernel_rfl) (by rw [hs]; decide) ?z9 ?z10
  case z9 => (intro o ho; obtain rfl := Option.some.inj ho; exact ⟨rfl, k_load9 rfl (ev_tmp h4) q1⟩)
  case z10 =>
  intro a F0
  replace hs := F0.z.trans hs
  replace hd := F0.e.trans hd
  replace h1 := (F0.n 1 (by decide)).trans h1
  replace h2 := (F0.n 2 (by decide)).trans h2
  replace h3 := (F0.n 3 (by decide)).trans h3
  replace h4 := (F0.n 4 (by decide)).trans h4
  replace h8 := (F0.n 8 (by decide)).trans h8
  replace h13 := (F0.n 13 (by decide)).trans h13
  have h14 := F0.s
  clear F0
  refine opL_call 1 15 (f := 10) (args := #[.agg #[.int .u8 F, .int .u8 I, .int .u8 E, .int .u16 C, .int .u32 U, .slice AM lm.length cM, .slice AD ld.length cD, .slice AW lw.length cW, .slice AP lp.length cP]]) (R := fun v w' => v = .bool (light lm ld lw lp) ∧ Below w2.heap.size w2 w') (by kernel_rfl) (by rw [hs]; decide) ?z11 (light_any _ _ _ _ _ AM AD AW AP cM cD cW cP lm ld lw lp w2 hX.lm1 hX.ld1 hX.lw1 hX.lp1) ?z12
  case z11 => (intro o ho; obtain rfl := Option.some.inj ho; exact ⟨rfl, c_Light rfl rfl (ev_tmp h14)⟩)
  case z12 =>
  rintro _ w3 a ⟨rfl, l3⟩ F0
  rw [hlt] at F0
  replace hs := F0.z.trans hs
  replace hd := F0.e.trans hd
  replace h1 := (F0.n 1 (by decide)).trans h1
  replace h2 := (F0.n 2 (by decide)).trans h2
  replace h3 := (F0.n 3 (by decide)).trans h3
  replace h4 := (F0.n 4 (by decide)).trans h4
  replace h8 := (F0.n 8 (by decide)).trans h8
  replace h13 := (F0.n 13 (by decide)).trans h13
  clear h14
  have h15 := F0.s
  clear F0
  replace q1 := q1.below l3 q1.lt
  have m3 := m2.trans (l3.mono m2.size)
  clear m2 l3
  refine opL 2 16 (v := .bool true) (w' := w3) (by kernel_rfl) (by rw [hs]; decide) ?z13 ?z14
  case z13 => (intro o ho; obtain rfl := Option.some.inj ho; exact ⟨rfl, o_not rfl (ev_tmp h15) rfl⟩)
  case z14 =>
  intro a F0
  replace hs := F0.z.trans hs
  replace hd := F0.e.trans hd
  replace h1 := (F0.n 1 (by decide)).trans h1
  replace h2 := (F0.n 2 (by decide)).trans h2
  replace h3 := (F0.n 3 (by decide)).trans h3
  replace h4 := (F0.n 4 (by decide)).trans h4
  replace h8 := (F0.n 8 (by decide)).trans h8
  replace h13 := (F0.n 13 (by decide)).trans h13
  clear h15
  have h16 := F0.s
  clear F0
  refine wp_cond_true (ev_tmp h16) ?_
  refine wp_seq ?_
  refine wp_region (show wpOps _ _ _ [0] _ _ from ?_)
  refine opL 0 8 (v := .bool true) (w' := w3) (by kernel_rfl) (by rw [hs]; decide) ?z15 ?z16
  case z15 => (intro o ho; obtain rfl := Option.some.inj ho; exact ⟨rfl, k_assign rfl rfl⟩)
  case z16 =>
  intro a F0
  replace hs := F0.z.trans hs
  replace hd := F0.e.trans hd
  replace h1 := (F0.n 1 (by decide)).trans h1
  replace h2 := (F0.n 2 (by decide)).trans h2
  replace h3 := (F0.n 3 (by decide)).trans h3
  replace h4 := (F0.n 4 (by decide)).trans h4
  clear h8
  replace h13 := (F0.n 13 (by decide)).trans h13
  replace h16 := (F0.n 16 (by decide)).trans h16
  have h8 := F0.s
  clear F0
  refine wp_ret ?_
  exact hfin a w3 hd h8 m3


set_option maxRecDepth 100000 in
set_option maxHeartbeats 1000000 in
theorem ruleEnds_false (F I E C U : Int) (AM AD AW AP : Option Addr) (cM cD cW cP : Nat) (lm ld : List Int) (lw : List (Int × Int)) (lp : List Int) (n m : Int) (w : World) (hM : Months w) (hX : XIn0 w F I E C U AM AD AW AP lm ld lw lp) (hn : 0 ≤ n ∧ n ≤ 65535) (hm : 0 ≤ m ∧ m ≤ 4294967295) (hlt : light lm ld lw lp = true) :
    Calls Tryd.prog 8 #[.agg #[.int .u8 F, .int .u8 I, .int .u8 E, .int .u16 C, .int .u32 U, .slice AM lm.length cM, .slice AD ld.length cD, .slice AW lw.length cW, .slice AP lp.length cP], .int .u16 n, .int .u32 m, .bool false] w fun e w' => e = .returned (.bool true) ∧ Below w.heap.size w w' := by
  have en : n.tmod 9999 = n % 9999 := Int.tmod_eq_emod_of_nonneg hn.1
  have em : m.tmod 3652059 = m % 3652059 := Int.tmod_eq_emod_of_nonneg hm.1
  have ll : lm.length ≤ 20 ∧ ld.length ≤ 20 ∧ lw.length ≤ 20 ∧ lp.length ≤ 20 := by simpa [light] using hlt
  obtain ⟨k1, k2, k3, k4, k5, k6, k7, k8, k9, k10, k11, k12, k13, k14⟩ := make_ok (hX.full hlt) (by omega) (by omega) (by omega) (by omega)
  have ck7 : Rul.check (F.tmod 4) (Mk.iv I) (1 + n.tmod 9999) (1 + m.tmod 3652059) (Mk.mon lm) (Mk.D F ld) ((Mk.W F lw).map (·.1)) (Mk.P F lm ld lw lp) = 7 := by
    have b1 : Rul.badNum (Mk.iv I) (1 + n.tmod 9999) (1 + m.tmod 3652059) = false := by
      have := Rul.btw_yes k14.1 k14.2
      simp [Rul.badNum, this]
      simp [Rul.btw]; omega
    have b2 : ((1 + n.tmod 9999) != 0 && (1 + m.tmod 3652059) != 0) = true := by simp; omega
    unfold Rul.check Rul.nums
    rw [k9, b1, b2]
    rfl
  have ck0 : Rul.check (F.tmod 4) (Mk.iv I) 0 0 (Mk.mon lm) (Mk.D F ld) ((Mk.W F lw).map (·.1)) (Mk.P F lm ld lw lp) = 0 := by
    have b1 : Rul.badNum (Mk.iv I) 0 0 = false := by
      have := Rul.btw_yes k14.1 k14.2
      simp only [Rul.badNum, this]
      rfl
    unfold Rul.check Rul.nums
    rw [k9, b1]
    have b3 : Rul.lists (F.tmod 4) (Mk.mon lm) (Mk.D F ld) ((Mk.W F lw).map (·.1)) (Mk.P F lm ld lw lp) = 0 := by
      simp only [Rul.lists, k1.chk k5, k2.chk k6, k3.chk k7, k4.chk k8]
      rfl
    have b4 := odd_not k10 k11
    rw [b3, b4]
    rfl
  clear k1 k2 k3 k4 k5 k6 k7 k8 k9 k10 k11 k12 k13 k14
  refine calls_of_wp Tryd.func8 (show Tryd.f8.body = some ruleEndsBody from rfl) ?_
  generalize hA : (Act.mk (#[.agg #[.int .u8 F, .int .u8 I, .int .u8 E, .int .u16 C, .int .u32 U, .slice AM lm.length cM, .slice AD ld.length cD, .slice AW lw.length cW, .slice AP lp.length cP], .int .u16 n, .int .u32 m, .bool false] ++ Array.replicate (Tryd.f8.ntmps - (#[.agg #[.int .u8 F, .int .u8 I, .int .u8 E, .int .u16 C, .int .u32 U, .slice AM lm.length cM, .slice AD ld.length cD, .slice AW lw.length cW, .slice AP lp.length cP], .int .u16 n, .int .u32 m, .bool false] : Array Value).size) undef) []) = a
  have hs : a.tmps.size = 45 := by rw [← hA]; simp [Tryd.ntmps8]
  have hd : a.defers = [] := by rw [← hA]
  have h0 : a.tmps.getD 0 undef = .agg #[.int .u8 F, .int .u8 I, .int .u8 E, .int .u16 C, .int .u32 U, .slice AM lm.length cM, .slice AD ld.length cD, .slice AW lw.length cW, .slice AP lp.length cP] := by rw [← hA]; simp
  have h1 : a.tmps.getD 1 undef = .int .u16 n := by rw [← hA]; simp
  have h2 : a.tmps.getD 2 undef = .int .u32 m := by rw [← hA]; simp
  have h3 : a.tmps.getD 3 undef = .bool false := by rw [← hA]; simp
  clear hA
  refine Code.wp_mono NoPanic.imp ?_
  have hQ : Blind (NoPanic (bodyPost Tryd.prog Tryd.f8 fun e w' => e = .returned (.bool true) ∧ Below w.heap.size w w')) := fun _ _ _ _ q => q.elim
  have hfin : ∀ (a' : Act) (w' : World), a'.defers = [] → a'.tmps.getD 8 undef = .bool true → Below w.heap.size w w' → NoPanic (bodyPost Tryd.prog Tryd.f8 fun e w' => e = .returned (.bool true) ∧ Below w.heap.size w w') .ret a' w' := by
    intro a' w' k1 k2 k3
    exact ⟨k1, _, results_tmp rfl _ _ _, by rw [k2], k3⟩
  generalize NoPanic (bodyPost Tryd.prog Tryd.f8 fun e w' => e = .returned (.bool true) ∧ Below w.heap.size w w') = Q at hQ hfin
  unfold ruleEndsBody
  conv => arg 2; whnf
  refine wp_seq ?_
  refine wp_region (show wpOps _ _ _ [0, 1] _ _ from ?_)
  refine opL 0 4 (v := .pointer (some ⟨w.heap.size, 0, none⟩)) (w' := (w.alloc (.cells #[.int .u8 F, .int .u8 I, .int .u8 E, .int .u16 C, .int .u32 U, .slice AM lm.length cM, .slice AD ld.length cD, .slice AW lw.length cW, .slice AP lp.length cP] 29))) (by kernel_rfl) (by rw [hs]; decide) ?z17 ?z18
  case z17 => (intro o ho; obtain rfl := Option.some.inj ho; exact ⟨rfl, k_box9 rfl (ev_tmp h0)⟩)
  case z18 =>
  intro a F0
  replace hs := F0.z.trans hs
  replace hd := F0.e.trans hd
  clear h0
  replace h1 := (F0.n 1 (by decide)).trans h1
  replace h2 := (F0.n 2 (by decide)).trans h2
  replace h3 := (F0.n 3 (by decide)).trans h3
  have h4 := F0.s
  clear F0
  obtain ⟨w1, hw1⟩ : ∃ wn, wn = w.alloc (.cells #[.int .u8 F, .int .u8 I, .int .u8 E, .int .u16 C, .int .u32 U, .slice AM lm.length cM, .slice AD ld.length cD, .slice AW lw.length cW, .slice AP lp.length cP] 29) := ⟨_, rfl⟩
  rw [← hw1]
  have q1 : Blk w1 w.heap.size 29 #[.int .u8 F, .int .u8 I, .int .u8 E, .int .u16 C, .int .u32 U, .slice AM lm.length cM, .slice AD ld.length cD, .slice AW lw.length cW, .slice AP lp.length cP] := by rw [hw1]; exact Blk.alloc _ _ _
  have l1 : Below w.heap.size w w1 := by rw [hw1]; exact (Below.refl _ _).alloc (Nat.le_refl _) _
  clear hw1
  refine opL 1 8 (v := .bool false) (w' := w1) (by kernel_rfl) (by rw [hs]; decide) ?z19 ?z20
  case z19 => (intro o ho; obtain rfl := Option.some.inj ho; exact ⟨rfl, k_assign rfl rfl⟩)
  case z20 =>
  intro a F0
  replace hs := F0.z.trans hs
  replace hd := F0.e.trans hd
  replace h1 := (F0.n 1 (by decide)).trans h1
  replace h2 := (F0.n 2 (by decide)).trans h2
  replace h3 := (F0.n 3 (by decide)).trans h3
  replace h4 := (F0.n 4 (by decide)).trans h4
  have h8 := F0.s
  clear F0
  refine wp_seq ?_
  refine wp_seq ?_
  refine wp_region (show wpOps _ _ _ [0, 1] _ _ from ?_)
  refine opL_call 0 12 (f := 9) (args := #[]) (R := fun v w' => v = .bool true ∧ Below w1.heap.size w1 w') (by kernel_rfl) (by rw [hs]; decide) ?z21 (awake2' w1 (hM.grown l1)) ?z22
  case z21 => (intro o ho; obtain rfl := Option.some.inj ho; exact ⟨rfl, k_callAwake rfl rfl⟩)
  case z22 =>
  rintro _ w2 a ⟨rfl, l2⟩ F0
  replace hs := F0.z.trans hs
  replace hd := F0.e.trans hd
  replace h1 := (F0.n 1 (by decide)).trans h1
  replace h2 := (F0.n 2 (by decide)).trans h2
  replace h3 := (F0.n 3 (by decide)).trans h3
  replace h4 := (F0.n 4 (by decide)).trans h4
  replace h8 := (F0.n 8 (by decide)).trans h8
  have h12 := F0.s
  clear F0
  replace q1 := q1.below l2 q1.lt
  have m2 := l1.trans (l2.mono l1.size)
  clear l1 l2
  refine opL 1 13 (v := .bool false) (w' := w2) (by kernel_rfl) (by rw [hs]; decide) ?z23 ?z24
  case z23 => (intro o ho; obtain rfl := Option.some.inj ho; exact ⟨rfl, o_not rfl (ev_tmp h12) rfl⟩)
  case z24 =>
  intro a F0
  replace hs := F0.z.trans hs
  replace hd := F0.e.trans hd
  replace h1 := (F0.n 1 (by decide)).trans h1
  replace h2 := (F0.n 2 (by decide)).trans h2
  replace h3 := (F0.n 3 (by decide)).trans h3
  replace h4 := (F0.n 4 (by decide)).trans h4
  replace h8 := (F0.n 8 (by decide)).trans h8
  clear h12
  have h13 := F0.s
  clear F0
  refine wp_cond_false (ev_tmp h13) ?_
  refine wp_skip ?_
  refine wp_seq ?_
  refine wp_seq ?_
  refine wp_region (show wpOps _ _ _ [0, 1, 2] _ _ from ?_)
  refine opL 0 14 (v := .agg #[.int .u8 F, .int .u8 I, .int .u8 E, .int .u16 C, .int .u32 U, .slice AM lm.length cM, .slice AD ld.length cD, .slice AW lw.length cW, .slice AP lp.length cP]) (w' := w2) (by kernel_rfl) (by rw [hs]; decide) ?z25 ?z26
  case z25 => (intro o ho; obtain rfl := Option.some.inj ho; exact ⟨rfl, k_load9 rfl (ev_tmp h4) q1⟩)
  case z26 =>
  intro a F0
  replace hs := F0.z.trans hs
  replace hd := F0.e.trans hd
  replace h1 := (F0.n 1 (by decide)).trans h1
  replace h2 := (F0.n 2 (by decide)).trans h2
  replace h3 := (F0.n 3 (by decide)).trans h3
  replace h4 := (F0.n 4 (by decide)).trans h4
  replace h8 := (F0.n 8 (by decide)).trans h8
  replace h13 := (F0.n 13 (by decide)).trans h13
  have h14 := F0.s
  clear F0
  refine opL_call 1 15 (f := 10) (args := #[.agg #[.int .u8 F, .int .u8 I, .int .u8 E, .int .u16 C, .int .u32 U, .slice AM lm.length cM, .slice AD ld.length cD, .slice AW lw.length cW, .slice AP lp.length cP]]) (R := fun v w' => v = .bool (light lm ld lw lp) ∧ Below w2.heap.size w2 w') (by kernel_rfl) (by rw [hs]; decide) ?z27 (light_any _ _ _ _ _ AM AD AW AP cM cD cW cP lm ld lw lp w2 hX.lm1 hX.ld1 hX.lw1 hX.lp1) ?z28
  case z27 => (intro o ho; obtain rfl := Option.some.inj ho; exact ⟨rfl, c_Light rfl rfl (ev_tmp h14)⟩)
  case z28 =>
  rintro _ w3 a ⟨rfl, l3⟩ F0
  rw [hlt] at F0
  replace hs := F0.z.trans hs
  replace hd := F0.e.trans hd
  replace h1 := (F0.n 1 (by decide)).trans h1
  replace h2 := (F0.n 2 (by decide)).trans h2
  replace h3 := (F0.n 3 (by decide)).trans h3
  replace h4 := (F0.n 4 (by decide)).trans h4
  replace h8 := (F0.n 8 (by decide)).trans h8
  replace h13 := (F0.n 13 (by decide)).trans h13
  clear h14
  have h15 := F0.s
  clear F0
  replace q1 := q1.below l3 q1.lt
  have m3 := m2.trans (l3.mono m2.size)
  clear m2 l3
  refine opL 2 16 (v := .bool false) (w' := w3) (by kernel_rfl) (by rw [hs]; decide) ?z29 ?z30
  case z29 => (intro o ho; obtain rfl := Option.some.inj ho; exact ⟨rfl, o_not rfl (ev_tmp h15) rfl⟩)
  case z30 =>
  intro a F0
  replace hs := F0.z.trans hs
  replace hd := F0.e.trans hd
  replace h1 := (F0.n 1 (by decide)).trans h1
  replace h2 := (F0.n 2 (by decide)).trans h2
  replace h3 := (F0.n 3 (by decide)).trans h3
  replace h4 := (F0.n 4 (by decide)).trans h4
  replace h8 := (F0.n 8 (by decide)).trans h8
  replace h13 := (F0.n 13 (by decide)).trans h13
  clear h15
  have h16 := F0.s
  clear F0
  refine wp_cond_false (ev_tmp h16) ?_
  refine wp_skip ?_
  refine wp_seq ?_
  refine wp_region (show wpOps _ _ _ [0, 1, 2, 3] _ _ from ?_)
  refine opL 0 17 (v := .agg #[.int .u8 F, .int .u8 I, .int .u8 E, .int .u16 C, .int .u32 U, .slice AM lm.length cM, .slice AD ld.length cD, .slice AW lw.length cW, .slice AP lp.length cP]) (w' := w3) (by kernel_rfl) (by rw [hs]; decide) ?z31 ?z32
  case z31 => (intro o ho; obtain rfl := Option.some.inj ho; exact ⟨rfl, k_load9 rfl (ev_tmp h4) q1⟩)
  case z32 =>
  intro a F0
  replace hs := F0.z.trans hs
  replace hd := F0.e.trans hd
  replace h1 := (F0.n 1 (by decide)).trans h1
  replace h2 := (F0.n 2 (by decide)).trans h2
  replace h3 := (F0.n 3 (by decide)).trans h3
  replace h4 := (F0.n 4 (by decide)).trans h4
  replace h8 := (F0.n 8 (by decide)).trans h8
  replace h13 := (F0.n 13 (by decide)).trans h13
  replace h16 := (F0.n 16 (by decide)).trans h16
  have h17 := F0.s
  clear F0
  have hc := make_any' F I E C U AM AD AW AP cM cD cW cP lm ld lw lp w3 ((hX.below m3).full hlt)
  have hx := fun ops Q rest d a i h1 h2 h3 => opL_call (P := Tryd.prog) (ops := ops) (Q := Q) (a := a) (w := w3) (rest := rest) i d h1 h2 h3 hc
  refine hx _ _ _ 18 _ 1 ?z33a ?z33b ?z33 ?z34
  case z33a => kernel_rfl
  case z33b => (rw [hs]; decide)
  case z33 => (intro o ho; obtain rfl := Option.some.inj ho; exact ⟨rfl, c_Make rfl rfl (ev_tmp h17)⟩)
  case z34 =>
  rintro _ w4 a ⟨A1, A2, A3, A4, c1, c2, c3, c4, tD, tW, tP, rfl, F4, l4⟩ F0
  replace hs := F0.z.trans hs
  replace hd := F0.e.trans hd
  replace h1 := (F0.n 1 (by decide)).trans h1
  replace h2 := (F0.n 2 (by decide)).trans h2
  replace h3 := (F0.n 3 (by decide)).trans h3
  replace h4 := (F0.n 4 (by decide)).trans h4
  replace h8 := (F0.n 8 (by decide)).trans h8
  replace h13 := (F0.n 13 (by decide)).trans h13
  replace h16 := (F0.n 16 (by decide)).trans h16
  clear h17
  have h18 := F0.s
  clear F0
  clear hx hc
  have m4 := m3.trans (l4.mono m3.size)
  clear m3
  refine opL 2 9 (v := .pointer (some ⟨w4.heap.size, 0, none⟩)) (w' := (w4.alloc (.cells #[.int .i64 0, .int .i64 0, .int .i64 0, .int .i64 0, .slice none 0 0, .slice none 0 0, .slice none 0 0, .slice none 0 0] 38))) (by kernel_rfl) (by rw [hs]; decide) ?z35 ?z36
  case z35 => (intro o ho; obtain rfl := Option.some.inj ho; exact ⟨rfl, k_allocR rfl⟩)
  case z36 =>
  intro a F0
  replace hs := F0.z.trans hs
  replace hd := F0.e.trans hd
  replace h1 := (F0.n 1 (by decide)).trans h1
  replace h2 := (F0.n 2 (by decide)).trans h2
  replace h3 := (F0.n 3 (by decide)).trans h3
  replace h4 := (F0.n 4 (by decide)).trans h4
  replace h8 := (F0.n 8 (by decide)).trans h8
  replace h13 := (F0.n 13 (by decide)).trans h13
  replace h16 := (F0.n 16 (by decide)).trans h16
  replace h18 := (F0.n 18 (by decide)).trans h18
  have h9 := F0.s
  clear F0
  obtain ⟨w5, hw5⟩ : ∃ wn, wn = w4.alloc (.cells #[.int .i64 0, .int .i64 0, .int .i64 0, .int .i64 0, .slice none 0 0, .slice none 0 0, .slice none 0 0, .slice none 0 0] 38) := ⟨_, rfl⟩
  rw [← hw5]
  have q5 : Blk w5 w4.heap.size 38 #[.int .i64 0, .int .i64 0, .int .i64 0, .int .i64 0, .slice none 0 0, .slice none 0 0, .slice none 0 0, .slice none 0 0] := by rw [hw5]; exact Blk.alloc _ _ _
  have l5 : Below w4.heap.size w4 w5 := by rw [hw5]; exact (Below.refl _ _).alloc (Nat.le_refl _) _
  clear hw5
  refine opL_store 3 (w' := (w5.setRow w4.heap.size #[.int .i64 (F.tmod 4), .int .i64 (Mk.iv I), .int .i64 (Mk.cnt E C), .int .i64 (Mk.unt E U), .slice A1 (Mk.mon lm).length c1, .slice A2 (Mk.D F ld).length c2, .slice A3 ((Mk.W F lw).map (·.1)).length c3, .slice A4 (Mk.P F lm ld lw lp).length c4])) (by kernel_rfl) ?z37 ?z38
  case z37 => (intro o ho; obtain rfl := Option.some.inj ho; exact ⟨rfl, k_storeR rfl (ev_tmp h9) (ev_tmp h18) q5 rfl rfl (by simp [Value.oneCell'])⟩)
  case z38 =>
  obtain ⟨w6, hw6⟩ : ∃ wn, wn = w5.setRow w4.heap.size #[.int .i64 (F.tmod 4), .int .i64 (Mk.iv I), .int .i64 (Mk.cnt E C), .int .i64 (Mk.unt E U), .slice A1 (Mk.mon lm).length c1, .slice A2 (Mk.D F ld).length c2, .slice A3 ((Mk.W F lw).map (·.1)).length c3, .slice A4 (Mk.P F lm ld lw lp).length c4] := ⟨_, rfl⟩
  rw [← hw6]
  have L4 := F4.lists
  have B6 : Blk w6 w4.heap.size 38 #[.int .i64 (F.tmod 4), .int .i64 (Mk.iv I), .int .i64 (Mk.cnt E C), .int .i64 (Mk.unt E U), .slice A1 (Mk.mon lm).length c1, .slice A2 (Mk.D F ld).length c2, .slice A3 ((Mk.W F lw).map (·.1)).length c3, .slice A4 (Mk.P F lm ld lw lp).length c4] := by rw [hw6]; exact q5.setRow
  have l6 : Below w4.heap.size w4 w6 := by rw [hw6]; exact l5.trans ((exc_setRow w5 w4.heap.size #[.int .i64 (F.tmod 4), .int .i64 (Mk.iv I), .int .i64 (Mk.cnt E C), .int .i64 (Mk.unt E U), .slice A1 (Mk.mon lm).length c1, .slice A2 (Mk.D F ld).length c2, .slice A3 ((Mk.W F lw).map (·.1)).length c3, .slice A4 (Mk.P F lm ld lw lp).length c4] w4.heap.size).below (Nat.le_refl _))
  clear hw6 q5 l5
  refine wp_seq ?_
  refine wp_seq ?_
  refine wp_region (show wpOps _ _ _ [0] _ _ from ?_)
  refine opL 0 19 (v := .bool false) (w' := w6) (by kernel_rfl) (by rw [hs]; decide) ?z39 ?z40
  case z39 => (intro o ho; obtain rfl := Option.some.inj ho; exact ⟨rfl, k_move rfl (ev_tmp h3)⟩)
  case z40 =>
  intro a F0
  replace hs := F0.z.trans hs
  replace hd := F0.e.trans hd
  replace h1 := (F0.n 1 (by decide)).trans h1
  replace h2 := (F0.n 2 (by decide)).trans h2
  replace h3 := (F0.n 3 (by decide)).trans h3
  replace h4 := (F0.n 4 (by decide)).trans h4
  replace h8 := (F0.n 8 (by decide)).trans h8
  replace h13 := (F0.n 13 (by decide)).trans h13
  replace h16 := (F0.n 16 (by decide)).trans h16
  replace h18 := (F0.n 18 (by decide)).trans h18
  replace h9 := (F0.n 9 (by decide)).trans h9
  have h19 := F0.s
  clear F0
  refine wp_cond_false (ev_tmp h19) ?_
  refine wp_skip ?_
  refine wp_seq ?_
  refine wp_region (show wpOps _ _ _ [0, 1, 2, 3, 4, 5, 6, 7, 8, 9, 10, 11] _ _ from ?_)
  refine opL 0 22 (v := .int .u16 n) (w' := w6) (by kernel_rfl) (by rw [hs]; decide) ?z41 ?z42
  case z41 => (intro o ho; obtain rfl := Option.some.inj ho; exact ⟨rfl, k_move rfl (ev_tmp h1)⟩)
  case z42 =>
  intro a F0
  replace hs := F0.z.trans hs
  replace hd := F0.e.trans hd
  replace h1 := (F0.n 1 (by decide)).trans h1
  replace h2 := (F0.n 2 (by decide)).trans h2
  replace h3 := (F0.n 3 (by decide)).trans h3
  replace h4 := (F0.n 4 (by decide)).trans h4
  replace h8 := (F0.n 8 (by decide)).trans h8
  replace h13 := (F0.n 13 (by decide)).trans h13
  replace h16 := (F0.n 16 (by decide)).trans h16
  replace h18 := (F0.n 18 (by decide)).trans h18
  replace h9 := (F0.n 9 (by decide)).trans h9
  replace h19 := (F0.n 19 (by decide)).trans h19
  have h22 := F0.s
  clear F0
  refine opL 1 23 (v := .int .i64 n) (w' := w6) (by kernel_rfl) (by rw [hs]; decide) ?z43 ?z44
  case z43 => (intro o ho; obtain rfl := Option.some.inj ho; exact ⟨rfl, o_convHI rfl (ev_tmp h22) (wrap_small (by omega) (by omega))⟩)
  case z44 =>
  intro a F0
  replace hs := F0.z.trans hs
  replace hd := F0.e.trans hd
  replace h1 := (F0.n 1 (by decide)).trans h1
  replace h2 := (F0.n 2 (by decide)).trans h2
  replace h3 := (F0.n 3 (by decide)).trans h3
  replace h4 := (F0.n 4 (by decide)).trans h4
  replace h8 := (F0.n 8 (by decide)).trans h8
  replace h13 := (F0.n 13 (by decide)).trans h13
  replace h16 := (F0.n 16 (by decide)).trans h16
  replace h18 := (F0.n 18 (by decide)).trans h18
  replace h9 := (F0.n 9 (by decide)).trans h9
  replace h19 := (F0.n 19 (by decide)).trans h19
  clear h22
  have h23 := F0.s
  clear F0
  refine opL 2 24 (v := .int .i64 (n.tmod 9999)) (w' := w6) (by kernel_rfl) (by rw [hs]; decide) ?z45 ?z46
  case z45 => (intro o ho; obtain rfl := Option.some.inj ho; exact ⟨rfl, o_remI rfl (ev_tmp h23) rfl (by decide) rfl⟩)
  case z46 =>
  intro a F0
  replace hs := F0.z.trans hs
  replace hd := F0.e.trans hd
  replace h1 := (F0.n 1 (by decide)).trans h1
  replace h2 := (F0.n 2 (by decide)).trans h2
  replace h3 := (F0.n 3 (by decide)).trans h3
  replace h4 := (F0.n 4 (by decide)).trans h4
  replace h8 := (F0.n 8 (by decide)).trans h8
  replace h13 := (F0.n 13 (by decide)).trans h13
  replace h16 := (F0.n 16 (by decide)).trans h16
  replace h18 := (F0.n 18 (by decide)).trans h18
  replace h9 := (F0.n 9 (by decide)).trans h9
  replace h19 := (F0.n 19 (by decide)).trans h19
  clear h23
  have h24 := F0.s
  clear F0
  refine opL 3 25 (v := .int .i64 (1 + n.tmod 9999)) (w' := w6) (by kernel_rfl) (by rw [hs]; decide) ?z47 ?z48
  case z47 => (intro o ho; obtain rfl := Option.some.inj ho; exact ⟨rfl, o_addI rfl rfl (ev_tmp h24) (wrap_small (by omega) (by omega))⟩)
  case z48 =>
  intro a F0
  replace hs := F0.z.trans hs
  replace hd := F0.e.trans hd
  replace h1 := (F0.n 1 (by decide)).trans h1
  replace h2 := (F0.n 2 (by decide)).trans h2
  replace h3 := (F0.n 3 (by decide)).trans h3
  replace h4 := (F0.n 4 (by decide)).trans h4
  replace h8 := (F0.n 8 (by decide)).trans h8
  replace h13 := (F0.n 13 (by decide)).trans h13
  replace h16 := (F0.n 16 (by decide)).trans h16
  replace h18 := (F0.n 18 (by decide)).trans h18
  replace h9 := (F0.n 9 (by decide)).trans h9
  replace h19 := (F0.n 19 (by decide)).trans h19
  clear h24
  have h25 := F0.s
  clear F0
  refine opL 4 26 (v := .int .u32 m) (w' := w6) (by kernel_rfl) (by rw [hs]; decide) ?z49 ?z50
  case z49 => (intro o ho; obtain rfl := Option.some.inj ho; exact ⟨rfl, k_move rfl (ev_tmp h2)⟩)
  case z50 =>
  intro a F0
  replace hs := F0.z.trans hs
  replace hd := F0.e.trans hd
  replace h1 := (F0.n 1 (by decide)).trans h1
  replace h2 := (F0.n 2 (by decide)).trans h2
  replace h3 := (F0.n 3 (by decide)).trans h3
  replace h4 := (F0.n 4 (by decide)).trans h4
  replace h8 := (F0.n 8 (by decide)).trans h8
  replace h13 := (F0.n 13 (by decide)).trans h13
  replace h16 := (F0.n 16 (by decide)).trans h16
  replace h18 := (F0.n 18 (by decide)).trans h18
  replace h9 := (F0.n 9 (by decide)).trans h9
  replace h19 := (F0.n 19 (by decide)).trans h19
  replace h25 := (F0.n 25 (by decide)).trans h25
  have h26 := F0.s
  clear F0
  refine opL 5 27 (v := .int .u32 (m.tmod 3652059)) (w' := w6) (by kernel_rfl) (by rw [hs]; decide) ?z51 ?z52
  case z51 => (intro o ho; obtain rfl := Option.some.inj ho; exact ⟨rfl, o_remQ rfl (ev_tmp h26) rfl (by decide) rfl⟩)
  case z52 =>
  intro a F0
  replace hs := F0.z.trans hs
  replace hd := F0.e.trans hd
  replace h1 := (F0.n 1 (by decide)).trans h1
  replace h2 := (F0.n 2 (by decide)).trans h2
  replace h3 := (F0.n 3 (by decide)).trans h3
  replace h4 := (F0.n 4 (by decide)).trans h4
  replace h8 := (F0.n 8 (by decide)).trans h8
  replace h13 := (F0.n 13 (by decide)).trans h13
  replace h16 := (F0.n 16 (by decide)).trans h16
  replace h18 := (F0.n 18 (by decide)).trans h18
  replace h9 := (F0.n 9 (by decide)).trans h9
  replace h19 := (F0.n 19 (by decide)).trans h19
  replace h25 := (F0.n 25 (by decide)).trans h25
  clear h26
  have h27 := F0.s
  clear F0
  refine opL 6 28 (v := .int .i64 (m.tmod 3652059)) (w' := w6) (by kernel_rfl) (by rw [hs]; decide) ?z53 ?z54
  case z53 => (intro o ho; obtain rfl := Option.some.inj ho; exact ⟨rfl, o_convQU rfl (ev_tmp h27) (wrap_small (by omega) (by omega))⟩)
  case z54 =>
  intro a F0
  replace hs := F0.z.trans hs
  replace hd := F0.e.trans hd
  replace h1 := (F0.n 1 (by decide)).trans h1
  replace h2 := (F0.n 2 (by decide)).trans h2
  replace h3 := (F0.n 3 (by decide)).trans h3
  replace h4 := (F0.n 4 (by decide)).trans h4
  replace h8 := (F0.n 8 (by decide)).trans h8
  replace h13 := (F0.n 13 (by decide)).trans h13
  replace h16 := (F0.n 16 (by decide)).trans h16
  replace h18 := (F0.n 18 (by decide)).trans h18
  replace h9 := (F0.n 9 (by decide)).trans h9
  replace h19 := (F0.n 19 (by decide)).trans h19
  replace h25 := (F0.n 25 (by decide)).trans h25
  clear h27
  have h28 := F0.s
  clear F0
  refine opL 7 29 (v := .int .i64 (1 + m.tmod 3652059)) (w' := w6) (by kernel_rfl) (by rw [hs]; decide) ?z55 ?z56
  case z55 => (intro o ho; obtain rfl := Option.some.inj ho; exact ⟨rfl, o_addU rfl rfl (ev_tmp h28) (wrap_small (by omega) (by omega))⟩)
  case z56 =>
  intro a F0
  replace hs := F0.z.trans hs
  replace hd := F0.e.trans hd
  replace h1 := (F0.n 1 (by decide)).trans h1
  replace h2 := (F0.n 2 (by decide)).trans h2
  replace h3 := (F0.n 3 (by decide)).trans h3
  replace h4 := (F0.n 4 (by decide)).trans h4
  replace h8 := (F0.n 8 (by decide)).trans h8
  replace h13 := (F0.n 13 (by decide)).trans h13
  replace h16 := (F0.n 16 (by decide)).trans h16
  replace h18 := (F0.n 18 (by decide)).trans h18
  replace h9 := (F0.n 9 (by decide)).trans h9
  replace h19 := (F0.n 19 (by decide)).trans h19
  replace h25 := (F0.n 25 (by decide)).trans h25
  clear h28
  have h29 := F0.s
  clear F0
  refine opL 8 30 (v := .pointer (some ⟨w4.heap.size, 2, none⟩)) (w' := w6) (by kernel_rfl) (by rw [hs]; decide) ?z57 ?z58
  case z57 => (intro o ho; obtain rfl := Option.some.inj ho; exact ⟨rfl, k_field2 rfl (ev_tmp h9)⟩)
  case z58 =>
  intro a F0
  replace hs := F0.z.trans hs
  replace hd := F0.e.trans hd
  replace h1 := (F0.n 1 (by decide)).trans h1
  replace h2 := (F0.n 2 (by decide)).trans h2
  replace h3 := (F0.n 3 (by decide)).trans h3
  replace h4 := (F0.n 4 (by decide)).trans h4
  replace h8 := (F0.n 8 (by decide)).trans h8
  replace h13 := (F0.n 13 (by decide)).trans h13
  replace h16 := (F0.n 16 (by decide)).trans h16
  replace h18 := (F0.n 18 (by decide)).trans h18
  replace h9 := (F0.n 9 (by decide)).trans h9
  replace h19 := (F0.n 19 (by decide)).trans h19
  replace h25 := (F0.n 25 (by decide)).trans h25
  replace h29 := (F0.n 29 (by decide)).trans h29
  have h30 := F0.s
  clear F0
  refine opL_store 9 (w' := (w6.setCell ⟨w4.heap.size, 2, none⟩ (.int .i64 (1 + n.tmod 9999)))) (by kernel_rfl) ?z59 ?z60
  case z59 => (intro o ho; obtain rfl := Option.some.inj ho; exact ⟨rfl, k_storeI rfl (ev_tmp h30) (ev_tmp h25) B6 (by simp)⟩)
  case z60 =>
  clear h25
  clear h30
  obtain ⟨w9, hww9⟩ : ∃ wn, wn = w6.setCell ⟨w4.heap.size, 2, none⟩ (.int .i64 (1 + n.tmod 9999)) := ⟨_, rfl⟩
  rw [← hww9]
  have B9 : Blk w9 w4.heap.size 38 #[.int .i64 (F.tmod 4), .int .i64 (Mk.iv I), .int .i64 (1 + n.tmod 9999), .int .i64 (Mk.unt E U), .slice A1 (Mk.mon lm).length c1, .slice A2 (Mk.D F ld).length c2, .slice A3 ((Mk.W F lw).map (·.1)).length c3, .slice A4 (Mk.P F lm ld lw lp).length c4] := by rw [hww9]; exact B6.set 2 _
  have e9 : ∀ B, Exc B w4.heap.size w6 w9 := by rw [hww9]; exact exc_set w6 w4.heap.size 2 _
  clear hww9
  have n9 := l6.trans ((e9 w4.heap.size).below (Nat.le_refl _))
  refine opL 10 31 (v := .pointer (some ⟨w4.heap.size, 3, none⟩)) (w' := w9) (by kernel_rfl) (by rw [hs]; decide) ?z61 ?z62
  case z61 => (intro o ho; obtain rfl := Option.some.inj ho; exact ⟨rfl, k_field3 rfl (ev_tmp h9)⟩)
  case z62 =>
  intro a F0
  replace hs := F0.z.trans hs
  replace hd := F0.e.trans hd
  replace h1 := (F0.n 1 (by decide)).trans h1
  replace h2 := (F0.n 2 (by decide)).trans h2
  replace h3 := (F0.n 3 (by decide)).trans h3
  replace h4 := (F0.n 4 (by decide)).trans h4
  replace h8 := (F0.n 8 (by decide)).trans h8
  replace h13 := (F0.n 13 (by decide)).trans h13
  replace h16 := (F0.n 16 (by decide)).trans h16
  replace h18 := (F0.n 18 (by decide)).trans h18
  replace h9 := (F0.n 9 (by decide)).trans h9
  replace h19 := (F0.n 19 (by decide)).trans h19
  replace h29 := (F0.n 29 (by decide)).trans h29
  have h31 := F0.s
  clear F0
  refine opL_store 11 (w' := (w9.setCell ⟨w4.heap.size, 3, none⟩ (.int .i64 (1 + m.tmod 3652059)))) (by kernel_rfl) ?z63 ?z64
  case z63 => (intro o ho; obtain rfl := Option.some.inj ho; exact ⟨rfl, k_storeU rfl (ev_tmp h31) (ev_tmp h29) B9 (by simp)⟩)
  case z64 =>
  clear h29
  clear h31
  obtain ⟨wa, hwwa⟩ : ∃ wn, wn = w9.setCell ⟨w4.heap.size, 3, none⟩ (.int .i64 (1 + m.tmod 3652059)) := ⟨_, rfl⟩
  rw [← hwwa]
  have Ba : Blk wa w4.heap.size 38 #[.int .i64 (F.tmod 4), .int .i64 (Mk.iv I), .int .i64 (1 + n.tmod 9999), .int .i64 (1 + m.tmod 3652059), .slice A1 (Mk.mon lm).length c1, .slice A2 (Mk.D F ld).length c2, .slice A3 ((Mk.W F lw).map (·.1)).length c3, .slice A4 (Mk.P F lm ld lw lp).length c4] := by rw [hwwa]; exact B9.set 3 _
  have ea : ∀ B, Exc B w4.heap.size w9 wa := by rw [hwwa]; exact exc_set w9 w4.heap.size 3 _
  clear hwwa
  have na := n9.trans ((ea w4.heap.size).below (Nat.le_refl _))
  refine wp_seq ?_
  refine wp_region (show wpOps _ _ _ [0, 1, 2] _ _ from ?_)
  refine opL 0 32 (v := .agg #[.int .i64 (F.tmod 4), .int .i64 (Mk.iv I), .int .i64 (1 + n.tmod 9999), .int .i64 (1 + m.tmod 3652059), .slice A1 (Mk.mon lm).length c1, .slice A2 (Mk.D F ld).length c2, .slice A3 ((Mk.W F lw).map (·.1)).length c3, .slice A4 (Mk.P F lm ld lw lp).length c4]) (w' := wa) (by kernel_rfl) (by rw [hs]; decide) ?z65 ?z66
  case z65 => (intro o ho; obtain rfl := Option.some.inj ho; exact ⟨rfl, k_loadR rfl (ev_tmp h9) Ba.rule⟩)
  case z66 =>
  intro a F0
  replace hs := F0.z.trans hs
  replace hd := F0.e.trans hd
  replace h1 := (F0.n 1 (by decide)).trans h1
  replace h2 := (F0.n 2 (by decide)).trans h2
  replace h3 := (F0.n 3 (by decide)).trans h3
  replace h4 := (F0.n 4 (by decide)).trans h4
  replace h8 := (F0.n 8 (by decide)).trans h8
  replace h13 := (F0.n 13 (by decide)).trans h13
  replace h16 := (F0.n 16 (by decide)).trans h16
  replace h18 := (F0.n 18 (by decide)).trans h18
  replace h9 := (F0.n 9 (by decide)).trans h9
  replace h19 := (F0.n 19 (by decide)).trans h19
  have h32 := F0.s
  clear F0
  have hc := check_any' (F.tmod 4) (Mk.iv I) (1 + n.tmod 9999) (1 + m.tmod 3652059) A1 A2 A3 A4 c1 c2 c3 c4 (Mk.mon lm) (Mk.D F ld) ((Mk.W F lw).map (·.1)) (Mk.P F lm ld lw lp) wa (L4.below na)
  have hx := fun ops Q rest d a i h1 h2 h3 => opL_call (P := Tryd.prog) (ops := ops) (Q := Q) (a := a) (w := wa) (rest := rest) i d h1 h2 h3 hc
  refine hx _ _ _ 33 _ 1 ?z67a ?z67b ?z67 ?z68
  case z67a => kernel_rfl
  case z67b => (rw [hs]; decide)
  case z67 => (intro o ho; obtain rfl := Option.some.inj ho; exact ⟨rfl, k_callCheck rfl rfl (ev_tmp h32)⟩)
  case z68 =>
  rintro _ wb a ⟨rfl, lb⟩ F0
  rw [ck7] at F0
  replace hs := F0.z.trans hs
  replace hd := F0.e.trans hd
  replace h1 := (F0.n 1 (by decide)).trans h1
  replace h2 := (F0.n 2 (by decide)).trans h2
  replace h3 := (F0.n 3 (by decide)).trans h3
  replace h4 := (F0.n 4 (by decide)).trans h4
  replace h8 := (F0.n 8 (by decide)).trans h8
  replace h13 := (F0.n 13 (by decide)).trans h13
  replace h16 := (F0.n 16 (by decide)).trans h16
  replace h18 := (F0.n 18 (by decide)).trans h18
  replace h9 := (F0.n 9 (by decide)).trans h9
  replace h19 := (F0.n 19 (by decide)).trans h19
  clear h32
  have h33 := F0.s
  clear F0
  clear hx hc
  have Bb := Ba.below lb Ba.lt
  have nb := na.trans (lb.mono na.size)
  refine opL 2 10 (v := .int .i64 7) (w' := wb) (by kernel_rfl) (by rw [hs]; decide) ?z69 ?z70
  case z69 => (intro o ho; obtain rfl := Option.some.inj ho; exact ⟨rfl, k_assign rfl (ev_tmp h33)⟩)
  case z70 =>
  intro a F0
  replace hs := F0.z.trans hs
  replace hd := F0.e.trans hd
  replace h1 := (F0.n 1 (by decide)).trans h1
  replace h2 := (F0.n 2 (by decide)).trans h2
  replace h3 := (F0.n 3 (by decide)).trans h3
  replace h4 := (F0.n 4 (by decide)).trans h4
  replace h8 := (F0.n 8 (by decide)).trans h8
  replace h13 := (F0.n 13 (by decide)).trans h13
  replace h16 := (F0.n 16 (by decide)).trans h16
  replace h18 := (F0.n 18 (by decide)).trans h18
  replace h9 := (F0.n 9 (by decide)).trans h9
  replace h19 := (F0.n 19 (by decide)).trans h19
  clear h33
  have h10 := F0.s
  clear F0
  refine wp_seq ?_
  refine wp_region (show wpOps _ _ _ [0, 1, 2, 3] _ _ from ?_)
  refine opL 0 34 (v := .pointer (some ⟨w4.heap.size, 2, none⟩)) (w' := wb) (by kernel_rfl) (by rw [hs]; decide) ?z71 ?z72
  case z71 => (intro o ho; obtain rfl := Option.some.inj ho; exact ⟨rfl, k_field2 rfl (ev_tmp h9)⟩)
  case z72 =>
  intro a F0
  replace hs := F0.z.trans hs
  replace hd := F0.e.trans hd
  replace h1 := (F0.n 1 (by decide)).trans h1
  replace h2 := (F0.n 2 (by decide)).trans h2
  replace h3 := (F0.n 3 (by decide)).trans h3
  replace h4 := (F0.n 4 (by decide)).trans h4
  replace h8 := (F0.n 8 (by decide)).trans h8
  replace h13 := (F0.n 13 (by decide)).trans h13
  replace h16 := (F0.n 16 (by decide)).trans h16
  replace h18 := (F0.n 18 (by decide)).trans h18
  replace h9 := (F0.n 9 (by decide)).trans h9
  replace h19 := (F0.n 19 (by decide)).trans h19
  replace h10 := (F0.n 10 (by decide)).trans h10
  have h34 := F0.s
  clear F0
  refine opL_store 1 (w' := (wb.setCell ⟨w4.heap.size, 2, none⟩ (.int .i64 0))) (by kernel_rfl) ?z73 ?z74
  case z73 => (intro o ho; obtain rfl := Option.some.inj ho; exact ⟨rfl, k_storeI rfl (ev_tmp h34) rfl Bb (by simp)⟩)
  case z74 =>
  clear h34
  obtain ⟨wc, hwwc⟩ : ∃ wn, wn = wb.setCell ⟨w4.heap.size, 2, none⟩ (.int .i64 0) := ⟨_, rfl⟩
  rw [← hwwc]
  have Bc : Blk wc w4.heap.size 38 #[.int .i64 (F.tmod 4), .int .i64 (Mk.iv I), .int .i64 0, .int .i64 (1 + m.tmod 3652059), .slice A1 (Mk.mon lm).length c1, .slice A2 (Mk.D F ld).length c2, .slice A3 ((Mk.W F lw).map (·.1)).length c3, .slice A4 (Mk.P F lm ld lw lp).length c4] := by rw [hwwc]; exact Bb.set 2 _
  have ec : ∀ B, Exc B w4.heap.size wb wc := by rw [hwwc]; exact exc_set wb w4.heap.size 2 _
  clear hwwc
  have nc := nb.trans ((ec w4.heap.size).below (Nat.le_refl _))
  refine opL 2 35 (v := .pointer (some ⟨w4.heap.size, 3, none⟩)) (w' := wc) (by kernel_rfl) (by rw [hs]; decide) ?z75 ?z76
  case z75 => (intro o ho; obtain rfl := Option.some.inj ho; exact ⟨rfl, k_field3 rfl (ev_tmp h9)⟩)
  case z76 =>
  intro a F0
  replace hs := F0.z.trans hs
  replace hd := F0.e.trans hd
  replace h1 := (F0.n 1 (by decide)).trans h1
  replace h2 := (F0.n 2 (by decide)).trans h2
  replace h3 := (F0.n 3 (by decide)).trans h3
  replace h4 := (F0.n 4 (by decide)).trans h4
  replace h8 := (F0.n 8 (by decide)).trans h8
  replace h13 := (F0.n 13 (by decide)).trans h13
  replace h16 := (F0.n 16 (by decide)).trans h16
  replace h18 := (F0.n 18 (by decide)).trans h18
  replace h9 := (F0.n 9 (by decide)).trans h9
  replace h19 := (F0.n 19 (by decide)).trans h19
  replace h10 := (F0.n 10 (by decide)).trans h10
  have h35 := F0.s
  clear F0
  refine opL_store 3 (w' := (wc.setCell ⟨w4.heap.size, 3, none⟩ (.int .i64 0))) (by kernel_rfl) ?z77 ?z78
  case z77 => (intro o ho; obtain rfl := Option.some.inj ho; exact ⟨rfl, k_storeU rfl (ev_tmp h35) rfl Bc (by simp)⟩)
  case z78 =>
  clear h35
  obtain ⟨wd, hwwd⟩ : ∃ wn, wn = wc.setCell ⟨w4.heap.size, 3, none⟩ (.int .i64 0) := ⟨_, rfl⟩
  rw [← hwwd]
  have Bd : Blk wd w4.heap.size 38 #[.int .i64 (F.tmod 4), .int .i64 (Mk.iv I), .int .i64 0, .int .i64 0, .slice A1 (Mk.mon lm).length c1, .slice A2 (Mk.D F ld).length c2, .slice A3 ((Mk.W F lw).map (·.1)).length c3, .slice A4 (Mk.P F lm ld lw lp).length c4] := by rw [hwwd]; exact Bc.set 3 _
  have ed : ∀ B, Exc B w4.heap.size wc wd := by rw [hwwd]; exact exc_set wc w4.heap.size 3 _
  clear hwwd
  have nd := nc.trans ((ed w4.heap.size).below (Nat.le_refl _))
  refine wp_seq ?_
  refine wp_region (show wpOps _ _ _ [0] _ _ from ?_)
  refine opL 0 11 (v := .int .i64 0) (w' := wd) (by kernel_rfl) (by rw [hs]; decide) ?z79 ?z80
  case z79 => (intro o ho; obtain rfl := Option.some.inj ho; exact ⟨rfl, k_assign rfl rfl⟩)
  case z80 =>
  intro a F0
  replace hs := F0.z.trans hs
  replace hd := F0.e.trans hd
  replace h1 := (F0.n 1 (by decide)).trans h1
  replace h2 := (F0.n 2 (by decide)).trans h2
  replace h3 := (F0.n 3 (by decide)).trans h3
  replace h4 := (F0.n 4 (by decide)).trans h4
  replace h8 := (F0.n 8 (by decide)).trans h8
  replace h13 := (F0.n 13 (by decide)).trans h13
  replace h16 := (F0.n 16 (by decide)).trans h16
  replace h18 := (F0.n 18 (by decide)).trans h18
  replace h9 := (F0.n 9 (by decide)).trans h9
  replace h19 := (F0.n 19 (by decide)).trans h19
  replace h10 := (F0.n 10 (by decide)).trans h10
  have h11 := F0.s
  clear F0
  refine wp_seq ?_
  refine wp_seq ?_
  refine wp_region (show wpOps _ _ _ [0] _ _ from ?_)
  refine opL 0 36 (v := .bool false) (w' := wd) (by kernel_rfl) (by rw [hs]; decide) ?z81 ?z82
  case z81 => (intro o ho; obtain rfl := Option.some.inj ho; exact ⟨rfl, k_move rfl (ev_tmp h3)⟩)
  case z82 =>
  intro a F0
  replace hs := F0.z.trans hs
  replace hd := F0.e.trans hd
  replace h1 := (F0.n 1 (by decide)).trans h1
  replace h2 := (F0.n 2 (by decide)).trans h2
  replace h3 := (F0.n 3 (by decide)).trans h3
  replace h4 := (F0.n 4 (by decide)).trans h4
  replace h8 := (F0.n 8 (by decide)).trans h8
  replace h13 := (F0.n 13 (by decide)).trans h13
  replace h16 := (F0.n 16 (by decide)).trans h16
  replace h18 := (F0.n 18 (by decide)).trans h18
  replace h9 := (F0.n 9 (by decide)).trans h9
  replace h19 := (F0.n 19 (by decide)).trans h19
  replace h10 := (F0.n 10 (by decide)).trans h10
  replace h11 := (F0.n 11 (by decide)).trans h11
  have h36 := F0.s
  clear F0
  refine wp_cond_false (ev_tmp h36) ?_
  refine wp_skip ?_
  refine wp_seq ?_
  refine wp_region (show wpOps _ _ _ [0, 1, 2, 3, 4, 5, 6, 7, 8] _ _ from ?_)
  refine opL 0 37 (v := .int .i64 7) (w' := wd) (by kernel_rfl) (by rw [hs]; decide) ?z83 ?z84
  case z83 => (intro o ho; obtain rfl := Option.some.inj ho; exact ⟨rfl, k_move rfl (ev_tmp h10)⟩)
  case z84 =>
  intro a F0
  replace hs := F0.z.trans hs
  replace hd := F0.e.trans hd
  replace h1 := (F0.n 1 (by decide)).trans h1
  replace h2 := (F0.n 2 (by decide)).trans h2
  replace h3 := (F0.n 3 (by decide)).trans h3
  replace h4 := (F0.n 4 (by decide)).trans h4
  replace h8 := (F0.n 8 (by decide)).trans h8
  replace h13 := (F0.n 13 (by decide)).trans h13
  replace h16 := (F0.n 16 (by decide)).trans h16
  replace h18 := (F0.n 18 (by decide)).trans h18
  replace h9 := (F0.n 9 (by decide)).trans h9
  replace h19 := (F0.n 19 (by decide)).trans h19
  replace h10 := (F0.n 10 (by decide)).trans h10
  replace h11 := (F0.n 11 (by decide)).trans h11
  replace h36 := (F0.n 36 (by decide)).trans h36
  have h37 := F0.s
  clear F0
  refine opL 1 38 (v := .bool true) (w' := wd) (by kernel_rfl) (by rw [hs]; decide) ?z85 ?z86
  case z85 => (intro o ho; obtain rfl := Option.some.inj ho; exact ⟨rfl, o_eqE rfl (ev_tmp h37) rfl (by decide)⟩)
  case z86 =>
  intro a F0
  replace hs := F0.z.trans hs
  replace hd := F0.e.trans hd
  replace h1 := (F0.n 1 (by decide)).trans h1
  replace h2 := (F0.n 2 (by decide)).trans h2
  replace h3 := (F0.n 3 (by decide)).trans h3
  replace h4 := (F0.n 4 (by decide)).trans h4
  replace h8 := (F0.n 8 (by decide)).trans h8
  replace h13 := (F0.n 13 (by decide)).trans h13
  replace h16 := (F0.n 16 (by decide)).trans h16
  replace h18 := (F0.n 18 (by decide)).trans h18
  replace h9 := (F0.n 9 (by decide)).trans h9
  replace h19 := (F0.n 19 (by decide)).trans h19
  replace h10 := (F0.n 10 (by decide)).trans h10
  replace h11 := (F0.n 11 (by decide)).trans h11
  replace h36 := (F0.n 36 (by decide)).trans h36
  clear h37
  have h38 := F0.s
  clear F0
  refine opL 2 39 (v := .bool true) (w' := wd) (by kernel_rfl) (by rw [hs]; decide) ?z87 ?z88
  case z87 => (intro o ho; obtain rfl := Option.some.inj ho; exact ⟨rfl, k_move rfl (ev_tmp h38)⟩)
  case z88 =>
  intro a F0
  replace hs := F0.z.trans hs
  replace hd := F0.e.trans hd
  replace h1 := (F0.n 1 (by decide)).trans h1
  replace h2 := (F0.n 2 (by decide)).trans h2
  replace h3 := (F0.n 3 (by decide)).trans h3
  replace h4 := (F0.n 4 (by decide)).trans h4
  replace h8 := (F0.n 8 (by decide)).trans h8
  replace h13 := (F0.n 13 (by decide)).trans h13
  replace h16 := (F0.n 16 (by decide)).trans h16
  replace h18 := (F0.n 18 (by decide)).trans h18
  replace h9 := (F0.n 9 (by decide)).trans h9
  replace h19 := (F0.n 19 (by decide)).trans h19
  replace h10 := (F0.n 10 (by decide)).trans h10
  replace h11 := (F0.n 11 (by decide)).trans h11
  replace h36 := (F0.n 36 (by decide)).trans h36
  clear h38
  have h39 := F0.s
  clear F0
  refine opL 3 40 (v := .agg #[.int .i64 (F.tmod 4), .int .i64 (Mk.iv I), .int .i64 0, .int .i64 0, .slice A1 (Mk.mon lm).length c1, .slice A2 (Mk.D F ld).length c2, .slice A3 ((Mk.W F lw).map (·.1)).length c3, .slice A4 (Mk.P F lm ld lw lp).length c4]) (w' := wd) (by kernel_rfl) (by rw [hs]; decide) ?z89 ?z90
  case z89 => (intro o ho; obtain rfl := Option.some.inj ho; exact ⟨wanted_at (b := true) (want := true) rfl (by kernel_rfl) h39, k_loadR rfl (ev_tmp h9) Bd.rule⟩)
  case z90 =>
  intro a F0
  replace hs := F0.z.trans hs
  replace hd := F0.e.trans hd
  replace h1 := (F0.n 1 (by decide)).trans h1
  replace h2 := (F0.n 2 (by decide)).trans h2
  replace h3 := (F0.n 3 (by decide)).trans h3
  replace h4 := (F0.n 4 (by decide)).trans h4
  replace h8 := (F0.n 8 (by decide)).trans h8
  replace h13 := (F0.n 13 (by decide)).trans h13
  replace h16 := (F0.n 16 (by decide)).trans h16
  replace h18 := (F0.n 18 (by decide)).trans h18
  replace h9 := (F0.n 9 (by decide)).trans h9
  replace h19 := (F0.n 19 (by decide)).trans h19
  replace h10 := (F0.n 10 (by decide)).trans h10
  replace h11 := (F0.n 11 (by decide)).trans h11
  replace h36 := (F0.n 36 (by decide)).trans h36
  replace h39 := (F0.n 39 (by decide)).trans h39
  have h40 := F0.s
  clear F0
  have hc := check_any' (F.tmod 4) (Mk.iv I) 0 0 A1 A2 A3 A4 c1 c2 c3 c4 (Mk.mon lm) (Mk.D F ld) ((Mk.W F lw).map (·.1)) (Mk.P F lm ld lw lp) wd (L4.below nd)
  have hx := fun ops Q rest d a i h1 h2 h3 => opL_call (P := Tryd.prog) (ops := ops) (Q := Q) (a := a) (w := wd) (rest := rest) i d h1 h2 h3 hc
  refine hx _ _ _ 41 _ 4 ?z91a ?z91b ?z91 ?z92
  case z91a => kernel_rfl
  case z91b => (rw [hs]; decide)
  case z91 => (intro o ho; obtain rfl := Option.some.inj ho; exact ⟨wanted_at (b := true) (want := true) rfl (by kernel_rfl) h39, k_callCheck rfl rfl (ev_tmp h40)⟩)
  case z92 =>
  rintro _ we a ⟨rfl, le⟩ F0
  rw [ck0] at F0
  replace hs := F0.z.trans hs
  replace hd := F0.e.trans hd
  replace h1 := (F0.n 1 (by decide)).trans h1
  replace h2 := (F0.n 2 (by decide)).trans h2
  replace h3 := (F0.n 3 (by decide)).trans h3
  replace h4 := (F0.n 4 (by decide)).trans h4
  replace h8 := (F0.n 8 (by decide)).trans h8
  replace h13 := (F0.n 13 (by decide)).trans h13
  replace h16 := (F0.n 16 (by decide)).trans h16
  replace h18 := (F0.n 18 (by decide)).trans h18
  replace h9 := (F0.n 9 (by decide)).trans h9
  replace h19 := (F0.n 19 (by decide)).trans h19
  replace h10 := (F0.n 10 (by decide)).trans h10
  replace h11 := (F0.n 11 (by decide)).trans h11
  replace h36 := (F0.n 36 (by decide)).trans h36
  replace h39 := (F0.n 39 (by decide)).trans h39
  clear h40
  have h41 := F0.s
  clear F0
  refine opL 5 42 (v := .int .i64 0) (w' := we) (by kernel_rfl) (by rw [hs]; decide) ?z93 ?z94
  case z93 => (intro o ho; obtain rfl := Option.some.inj ho; exact ⟨wanted_at (b := true) (want := true) rfl (by kernel_rfl) h39, k_move rfl (ev_tmp h11)⟩)
  case z94 =>
  intro a F0
  replace hs := F0.z.trans hs
  replace hd := F0.e.trans hd
  replace h1 := (F0.n 1 (by decide)).trans h1
  replace h2 := (F0.n 2 (by decide)).trans h2
  replace h3 := (F0.n 3 (by decide)).trans h3
  replace h4 := (F0.n 4 (by decide)).trans h4
  replace h8 := (F0.n 8 (by decide)).trans h8
  replace h13 := (F0.n 13 (by decide)).trans h13
  replace h16 := (F0.n 16 (by decide)).trans h16
  replace h18 := (F0.n 18 (by decide)).trans h18
  replace h9 := (F0.n 9 (by decide)).trans h9
  replace h19 := (F0.n 19 (by decide)).trans h19
  replace h10 := (F0.n 10 (by decide)).trans h10
  replace h11 := (F0.n 11 (by decide)).trans h11
  replace h36 := (F0.n 36 (by decide)).trans h36
  replace h39 := (F0.n 39 (by decide)).trans h39
  replace h41 := (F0.n 41 (by decide)).trans h41
  have h42 := F0.s
  clear F0
  refine opL 6 43 (v := .bool true) (w' := we) (by kernel_rfl) (by rw [hs]; decide) ?z95 ?z96
  case z95 => (intro o ho; obtain rfl := Option.some.inj ho; exact ⟨wanted_at (b := true) (want := true) rfl (by kernel_rfl) h39, o_eqE rfl (ev_tmp h41) (ev_tmp h42) (by decide)⟩)
  case z96 =>
  intro a F0
  replace hs := F0.z.trans hs
  replace hd := F0.e.trans hd
  replace h1 := (F0.n 1 (by decide)).trans h1
  replace h2 := (F0.n 2 (by decide)).trans h2
  replace h3 := (F0.n 3 (by decide)).trans h3
  replace h4 := (F0.n 4 (by decide)).trans h4
  replace h8 := (F0.n 8 (by decide)).trans h8
  replace h13 := (F0.n 13 (by decide)).trans h13
  replace h16 := (F0.n 16 (by decide)).trans h16
  replace h18 := (F0.n 18 (by decide)).trans h18
  replace h9 := (F0.n 9 (by decide)).trans h9
  replace h19 := (F0.n 19 (by decide)).trans h19
  replace h10 := (F0.n 10 (by decide)).trans h10
  replace h11 := (F0.n 11 (by decide)).trans h11
  replace h36 := (F0.n 36 (by decide)).trans h36
  replace h39 := (F0.n 39 (by decide)).trans h39
  clear h41
  clear h42
  have h43 := F0.s
  clear F0
  refine opL 7 44 (v := .bool true) (w' := we) (by kernel_rfl) (by rw [hs]; decide) ?z97 ?z98
  case z97 => (intro o ho; obtain rfl := Option.some.inj ho; exact ⟨rfl, k_pick_yes rfl (ev_tmp h39) (ev_tmp h43)⟩)
  case z98 =>
  intro a F0
  replace hs := F0.z.trans hs
  replace hd := F0.e.trans hd
  replace h1 := (F0.n 1 (by decide)).trans h1
  replace h2 := (F0.n 2 (by decide)).trans h2
  replace h3 := (F0.n 3 (by decide)).trans h3
  replace h4 := (F0.n 4 (by decide)).trans h4
  replace h8 := (F0.n 8 (by decide)).trans h8
  replace h13 := (F0.n 13 (by decide)).trans h13
  replace h16 := (F0.n 16 (by decide)).trans h16
  replace h18 := (F0.n 18 (by decide)).trans h18
  replace h9 := (F0.n 9 (by decide)).trans h9
  replace h19 := (F0.n 19 (by decide)).trans h19
  replace h10 := (F0.n 10 (by decide)).trans h10
  replace h11 := (F0.n 11 (by decide)).trans h11
  replace h36 := (F0.n 36 (by decide)).trans h36
  clear h39
  clear h43
  have h44 := F0.s
  clear F0
  refine opL 8 8 (v := .bool true) (w' := we) (by kernel_rfl) (by rw [hs]; decide) ?z99 ?z100
  case z99 => (intro o ho; obtain rfl := Option.some.inj ho; exact ⟨rfl, k_assign rfl (ev_tmp h44)⟩)
  case z100 =>
  intro a F0
  replace hs := F0.z.trans hs
  replace hd := F0.e.trans hd
  replace h1 := (F0.n 1 (by decide)).trans h1
  replace h2 := (F0.n 2 (by decide)).trans h2
  replace h3 := (F0.n 3 (by decide)).trans h3
  replace h4 := (F0.n 4 (by decide)).trans h4
  clear h8
  replace h13 := (F0.n 13 (by decide)).trans h13
  replace h16 := (F0.n 16 (by decide)).trans h16
  replace h18 := (F0.n 18 (by decide)).trans h18
  replace h9 := (F0.n 9 (by decide)).trans h9
  replace h19 := (F0.n 19 (by decide)).trans h19
  replace h10 := (F0.n 10 (by decide)).trans h10
  replace h11 := (F0.n 11 (by decide)).trans h11
  replace h36 := (F0.n 36 (by decide)).trans h36
  clear h44
  have h8 := F0.s
  clear F0
  refine wp_ret ?_
  exact hfin a _ hd h8 (m4.trans ((nd.trans (le.mono nd.size)).mono m4.size))

set_option maxRecDepth 100000 in
set_option maxHeartbeats 1000000 in
theorem ruleEnds_true (F I E C U : Int) (AM AD AW AP : Option Addr) (cM cD cW cP : Nat) (lm ld : List Int) (lw : List (Int × Int)) (lp : List Int) (n m : Int) (w : World) (hM : Months w) (hX : XIn0 w F I E C U AM AD AW AP lm ld lw lp) (hn : 0 ≤ n ∧ n ≤ 65535) (hm : 0 ≤ m ∧ m ≤ 4294967295) (hlt : light lm ld lw lp = true) :
    Calls Tryd.prog 8 #[.agg #[.int .u8 F, .int .u8 I, .int .u8 E, .int .u16 C, .int .u32 U, .slice AM lm.length cM, .slice AD ld.length cD, .slice AW lw.length cW, .slice AP lp.length cP], .int .u16 n, .int .u32 m, .bool true] w fun e w' => e = .returned (.bool true) ∧ Below w.heap.size w w' := by
  have en : n.tmod 9999 = n % 9999 := Int.tmod_eq_emod_of_nonneg hn.1
  have em : m.tmod 3652059 = m % 3652059 := Int.tmod_eq_emod_of_nonneg hm.1
  have ll : lm.length ≤ 20 ∧ ld.length ≤ 20 ∧ lw.length ≤ 20 ∧ lp.length ≤ 20 := by simpa [light] using hlt
  obtain ⟨k1, k2, k3, k4, k5, k6, k7, k8, k9, k10, k11, k12, k13, k14⟩ := make_ok (hX.full hlt) (by omega) (by omega) (by omega) (by omega)
  have ck7 : Rul.check (F.tmod 4) (Mk.iv I) (1 + n.tmod 9999) (1 + m.tmod 3652059) [13] (Mk.D F ld) ((Mk.W F lw).map (·.1)) (Mk.P F lm ld lw lp) = 7 := by
    have b1 : Rul.badNum (Mk.iv I) (1 + n.tmod 9999) (1 + m.tmod 3652059) = false := by
      have := Rul.btw_yes k14.1 k14.2
      simp [Rul.badNum, this]
      simp [Rul.btw]; omega
    have b2 : ((1 + n.tmod 9999) != 0 && (1 + m.tmod 3652059) != 0) = true := by simp; omega
    unfold Rul.check Rul.nums
    rw [k9, b1, b2]
    rfl
  have ck0 : Rul.check (F.tmod 4) (Mk.iv I) 0 0 [13] (Mk.D F ld) ((Mk.W F lw).map (·.1)) (Mk.P F lm ld lw lp) = 3 := by
    have b1 : Rul.badNum (Mk.iv I) 0 0 = false := by
      have := Rul.btw_yes k14.1 k14.2
      simp only [Rul.badNum, this]
      rfl
    unfold Rul.check Rul.nums
    rw [k9, b1]
    have b3 : Rul.chkL Rul.inM Rul.cmpI [13] = 3 := by
      rw [Rul.chkL_short (by simp), Rul.step_range (by simp) (by simp [Rul.inM, Rul.btw])]
    simp [Rul.lists, b3]
  clear k1 k2 k3 k4 k5 k6 k7 k8 k9 k10 k11 k12 k13 k14
  refine calls_of_wp Tryd.func8 (show Tryd.f8.body = some ruleEndsBody from rfl) ?_
  generalize hA : (Act.mk (#[.agg #[.int .u8 F, .int .u8 I, .int .u8 E, .int .u16 C, .int .u32 U, .slice AM lm.length cM, .slice AD ld.length cD, .slice AW lw.length cW, .slice AP lp.length cP], .int .u16 n, .int .u32 m, .bool true] ++ Array.replicate (Tryd.f8.ntmps - (#[.agg #[.int .u8 F, .int .u8 I, .int .u8 E, .int .u16 C, .int .u32 U, .slice AM lm.length cM, .slice AD ld.length cD, .slice AW lw.length cW, .slice AP lp.length cP], .int .u16 n, .int .u32 m, .bool true] : Array Value).size) undef) []) = a
  have hs : a.tmps.size = 45 := by rw [← hA]; simp [Tryd.ntmps8]
  have hd : a.defers = [] := by rw [← hA]
  have h0 : a.tmps.getD 0 undef = .agg #[.int .u8 F, .int .u8 I, .int .u8 E, .int .u16 C, .int .u32 U, .slice AM lm.length cM, .slice AD ld.length cD, .slice AW lw.length cW, .slice AP lp.length cP] := by rw [← hA]; simp
  have h1 : a.tmps.getD 1 undef = .int .u16 n := by rw [← hA]; simp
  have h2 : a.tmps.getD 2 undef = .int .u32 m := by rw [← hA]; simp
  have h3 : a.tmps.getD 3 undef = .bool true := by rw [← hA]; simp
  clear hA
  refine Code.wp_mono NoPanic.imp ?_
  have hQ : Blind (NoPanic (bodyPost Tryd.prog Tryd.f8 fun e w' => e = .returned (.bool true) ∧ Below w.heap.size w w')) := fun _ _ _ _ q => q.elim
  have hfin : ∀ (a' : Act) (w' : World), a'.defers = [] → a'.tmps.getD 8 undef = .bool true → Below w.heap.size w w' → NoPanic (bodyPost Tryd.prog Tryd.f8 fun e w' => e = .returned (.bool true) ∧ Below w.heap.size w w') .ret a' w' := by
    intro a' w' k1 k2 k3
    exact ⟨k1, _, results_tmp rfl _ _ _, by rw [k2], k3⟩
  generalize NoPanic (bodyPost Tryd.prog Tryd.f8 fun e w' => e = .returned (.bool true) ∧ Below w.heap.size w w') = Q at hQ hfin
  unfold ruleEndsBody
  conv => arg 2; whnf
  refine wp_seq ?_
  refine wp_region (show wpOps _ _ _ [0, 1] _ _ from ?_)
  refine opL 0 4 (v := .pointer (some ⟨w.heap.size, 0, none⟩)) (w' := (w.alloc (.cells #[.int .u8 F, .int .u8 I, .int .u8 E, .int .u16 C, .int .u32 U, .slice AM lm.length cM, .slice AD ld.length cD, .slice AW lw.length cW, .slice AP lp.length cP] 29))) (by kernel_rfl) (by rw [hs]; decide) ?z101 ?z102
  case z101 => (intro o ho; obtain rfl := Option.some.inj ho; exact ⟨rfl, k_box9 rfl (ev_tmp h0)⟩)
  case z102 =>
  intro a F0
  replace hs := F0.z.trans hs
  replace hd := F0.e.trans hd
  clear h0
  replace h1 := (F0.n 1 (by decide)).trans h1
  replace h2 := (F0.n 2 (by decide)).trans h2
  replace h3 := (F0.n 3 (by decide)).trans h3
  have h4 := F0.s
  clear F0
  obtain ⟨w1, hw1⟩ : ∃ wn, wn = w.alloc (.cells #[.int .u8 F, .int .u8 I, .int .u8 E, .int .u16 C, .int .u32 U, .slice AM lm.length cM, .slice AD ld.length cD, .slice AW lw.length cW, .slice AP lp.length cP] 29) := ⟨_, rfl⟩
  rw [← hw1]
  have q1 : Blk w1 w.heap.size 29 #[.int .u8 F, .int .u8 I, .int .u8 E, .int .u16 C, .int .u32 U, .slice AM lm.length cM, .slice AD ld.length cD, .slice AW lw.length cW, .slice AP lp.length cP] := by rw [hw1]; exact Blk.alloc _ _ _
  have l1 : Below w.heap.size w w1 := by rw [hw1]; exact (Below.refl _ _).alloc (Nat.le_refl _) _
  clear hw1
  refine opL 1 8 (v := .bool false) (w' := w1) (by kernel_rfl) (by rw [hs]; decide) ?z103 ?z104
  case z103 => (intro o ho; obtain rfl := Option.some.inj ho; exact ⟨rfl, k_assign rfl rfl⟩)
  case z104 =>
  intro a F0
  replace hs := F0.z.trans hs
  replace hd := F0.e.trans hd
  replace h1 := (F0.n 1 (by decide)).trans h1
  replace h2 := (F0.n 2 (by decide)).trans h2
  replace h3 := (F0.n 3 (by decide)).trans h3
  replace h4 := (F0.n 4 (by decide)).trans h4
  have h8 := F0.s
  clear F0
  refine wp_seq ?_
  refine wp_seq ?_
  refine wp_region (show wpOps _ _ _ [0, 1] _ _ from ?_)
  refine opL_call 0 12 (f := 9) (args := #[]) (R := fun v w' => v = .bool true ∧ Below w1.heap.size w1 w') (by kernel_rfl) (by rw [hs]; decide) ?z105 (awake2' w1 (hM.grown l1)) ?z106
  case z105 => (intro o ho; obtain rfl := Option.some.inj ho; exact ⟨rfl, k_callAwake rfl rfl⟩)
  case z106 =>
  rintro _ w2 a ⟨rfl, l2⟩ F0
  replace hs := F0.z.trans hs
  replace hd := F0.e.trans hd
  replace h1 := (F0.n 1 (by decide)).trans h1
  replace h2 := (F0.n 2 (by decide)).trans h2
  replace h3 := (F0.n 3 (by decide)).trans h3
  replace h4 := (F0.n 4 (by decide)).trans h4
  replace h8 := (F0.n 8 (by decide)).trans h8
  have h12 := F0.s
  clear F0
  replace q1 := q1.below l2 q1.lt
  have m2 := l1.trans (l2.mono l1.size)
  clear l1 l2
  refine opL 1 13 (v := .bool false) (w' := w2) (by kernel_rfl) (by rw [hs]; decide) ?z107 ?z108
  case z107 => (intro o ho; obtain rfl := Option.some.inj ho; exact ⟨rfl, o_not rfl (ev_tmp h12) rfl⟩)
  case z108 =>
  intro a F0
  replace hs := F0.z.trans hs
  replace hd := F0.e.trans hd
  replace h1 := (F0.n 1 (by decide)).trans h1
  replace h2 := (F0.n 2 (by decide)).trans h2
  replace h3 := (F0.n 3 (by decide)).trans h3
  replace h4 := (F0.n 4 (by decide)).trans h4
  replace h8 := (F0.n 8 (by decide)).trans h8
  clear h12
  have h13 := F0.s
  clear F0
  refine wp_cond_false (ev_tmp h13) ?_
  refine wp_skip ?_
  refine wp_seq ?_
  refine wp_seq ?_
  refine wp_region (show wpOps _ _ _ [0, 1, 2] _ _ from ?_)
  refine opL 0 14 (v := .agg #[.int .u8 F, .int .u8 I, .int .u8 E, .int .u16 C, .int .u32 U, .slice AM lm.length cM, .slice AD ld.length cD, .slice AW lw.length cW, .slice AP lp.length cP]) (w' := w2) (by kernel_rfl) (by rw [hs]; decide) ?z109 ?z110
  case z109 => (intro o ho; obtain rfl := Option.some.inj ho; exact ⟨rfl, k_load9 rfl (ev_tmp h4) q1⟩)
  case z110 =>
  intro a F0
  replace hs := F0.z.trans hs
  replace hd := F0.e.trans hd
  replace h1 := (F0.n 1 (by decide)).trans h1
  replace h2 := (F0.n 2 (by decide)).trans h2
  replace h3 := (F0.n 3 (by decide)).trans h3
  replace h4 := (F0.n 4 (by decide)).trans h4
  replace h8 := (F0.n 8 (by decide)).trans h8
  replace h13 := (F0.n 13 (by decide)).trans h13
  have h14 := F0.s
  clear F0
  refine opL_call 1 15 (f := 10) (args := #[.agg #[.int .u8 F, .int .u8 I, .int .u8 E, .int .u16 C, .int .u32 U, .slice AM lm.length cM, .slice AD ld.length cD, .slice AW lw.length cW, .slice AP lp.length cP]]) (R := fun v w' => v = .bool (light lm ld lw lp) ∧ Below w2.heap.size w2 w') (by kernel_rfl) (by rw [hs]; decide) ?z111 (light_any _ _ _ _ _ AM AD AW AP cM cD cW cP lm ld lw lp w2 hX.lm1 hX.ld1 hX.lw1 hX.lp1) ?z112
  case z111 => (intro o ho; obtain rfl := Option.some.inj ho; exact ⟨rfl, c_Light rfl rfl (ev_tmp h14)⟩)
  case z112 =>
  rintro _ w3 a ⟨rfl, l3⟩ F0
  rw [hlt] at F0
  replace hs := F0.z.trans hs
  replace hd := F0.e.trans hd
  replace h1 := (F0.n 1 (by decide)).trans h1
  replace h2 := (F0.n 2 (by decide)).trans h2
  replace h3 := (F0.n 3 (by decide)).trans h3
  replace h4 := (F0.n 4 (by decide)).trans h4
  replace h8 := (F0.n 8 (by decide)).trans h8
  replace h13 := (F0.n 13 (by decide)).trans h13
  clear h14
  have h15 := F0.s
  clear F0
  replace q1 := q1.below l3 q1.lt
  have m3 := m2.trans (l3.mono m2.size)
  clear m2 l3
  refine opL 2 16 (v := .bool false) (w' := w3) (by kernel_rfl) (by rw [hs]; decide) ?z113 ?z114
  case z113 => (intro o ho; obtain rfl := Option.some.inj ho; exact ⟨rfl, o_not rfl (ev_tmp h15) rfl⟩)
  case z114 =>
  intro a F0
  replace hs := F0.z.trans hs
  replace hd := F0.e.trans hd
  replace h1 := (F0.n 1 (by decide)).trans h1
  replace h2 := (F0.n 2 (by decide)).trans h2
  replace h3 := (F0.n 3 (by decide)).trans h3
  replace h4 := (F0.n 4 (by decide)).trans h4
  replace h8 := (F0.n 8 (by decide)).trans h8
  replace h13 := (F0.n 13 (by decide)).trans h13
  clear h15
  have h16 := F0.s
  clear F0
  refine wp_cond_false (ev_tmp h16) ?_
  refine wp_skip ?_
  refine wp_seq ?_
  refine wp_region (show wpOps _ _ _ [0, 1, 2, 3] _ _ from ?_)
  refine opL 0 17 (v := .agg #[.int .u8 F, .int .u8 I, .int .u8 E, .int .u16 C, .int .u32 U, .slice AM lm.length cM, .slice AD ld.length cD, .slice AW lw.length cW, .slice AP lp.length cP]) (w' := w3) (by kernel_rfl) (by rw [hs]; decide) ?z115 ?z116
  case z115 => (intro o ho; obtain rfl := Option.some.inj ho; exact ⟨rfl, k_load9 rfl (ev_tmp h4) q1⟩)
  case z116 =>
  intro a F0
  replace hs := F0.z.trans hs
  replace hd := F0.e.trans hd
  replace h1 := (F0.n 1 (by decide)).trans h1
  replace h2 := (F0.n 2 (by decide)).trans h2
  replace h3 := (F0.n 3 (by decide)).trans h3
  replace h4 := (F0.n 4 (by decide)).trans h4
  replace h8 := (F0.n 8 (by decide)).trans h8
  replace h13 := (F0.n 13 (by decide)).trans h13
  replace h16 := (F0.n 16 (by decide)).trans h16
  have h17 := F0.s
  clear F0
  have hc := make_any' F I E C U AM AD AW AP cM cD cW cP lm ld lw lp w3 ((hX.below m3).full hlt)
  have hx := fun ops Q rest d a i h1 h2 h3 => opL_call (P := Tryd.prog) (ops := ops) (Q := Q) (a := a) (w := w3) (rest := rest) i d h1 h2 h3 hc
  refine hx _ _ _ 18 _ 1 ?z117a ?z117b ?z117 ?z118
  case z117a => kernel_rfl
  case z117b => (rw [hs]; decide)
  case z117 => (intro o ho; obtain rfl := Option.some.inj ho; exact ⟨rfl, c_Make rfl rfl (ev_tmp h17)⟩)
  case z118 =>
  rintro _ w4 a ⟨A1, A2, A3, A4, c1, c2, c3, c4, tD, tW, tP, rfl, F4, l4⟩ F0
  replace hs := F0.z.trans hs
  replace hd := F0.e.trans hd
  replace h1 := (F0.n 1 (by decide)).trans h1
  replace h2 := (F0.n 2 (by decide)).trans h2
  replace h3 := (F0.n 3 (by decide)).trans h3
  replace h4 := (F0.n 4 (by decide)).trans h4
  replace h8 := (F0.n 8 (by decide)).trans h8
  replace h13 := (F0.n 13 (by decide)).trans h13
  replace h16 := (F0.n 16 (by decide)).trans h16
  clear h17
  have h18 := F0.s
  clear F0
  clear hx hc
  have m4 := m3.trans (l4.mono m3.size)
  clear m3
  refine opL 2 9 (v := .pointer (some ⟨w4.heap.size, 0, none⟩)) (w' := (w4.alloc (.cells #[.int .i64 0, .int .i64 0, .int .i64 0, .int .i64 0, .slice none 0 0, .slice none 0 0, .slice none 0 0, .slice none 0 0] 38))) (by kernel_rfl) (by rw [hs]; decide) ?z119 ?z120
  case z119 => (intro o ho; obtain rfl := Option.some.inj ho; exact ⟨rfl, k_allocR rfl⟩)
  case z120 =>
  intro a F0
  replace hs := F0.z.trans hs
  replace hd := F0.e.trans hd
  replace h1 := (F0.n 1 (by decide)).trans h1
  replace h2 := (F0.n 2 (by decide)).trans h2
  replace h3 := (F0.n 3 (by decide)).trans h3
  replace h4 := (F0.n 4 (by decide)).trans h4
  replace h8 := (F0.n 8 (by decide)).trans h8
  replace h13 := (F0.n 13 (by decide)).trans h13
  replace h16 := (F0.n 16 (by decide)).trans h16
  replace h18 := (F0.n 18 (by decide)).trans h18
  have h9 := F0.s
  clear F0
  obtain ⟨w5, hw5⟩ : ∃ wn, wn = w4.alloc (.cells #[.int .i64 0, .int .i64 0, .int .i64 0, .int .i64 0, .slice none 0 0, .slice none 0 0, .slice none 0 0, .slice none 0 0] 38) := ⟨_, rfl⟩
  rw [← hw5]
  have q5 : Blk w5 w4.heap.size 38 #[.int .i64 0, .int .i64 0, .int .i64 0, .int .i64 0, .slice none 0 0, .slice none 0 0, .slice none 0 0, .slice none 0 0] := by rw [hw5]; exact Blk.alloc _ _ _
  have l5 : Below w4.heap.size w4 w5 := by rw [hw5]; exact (Below.refl _ _).alloc (Nat.le_refl _) _
  clear hw5
  refine opL_store 3 (w' := (w5.setRow w4.heap.size #[.int .i64 (F.tmod 4), .int .i64 (Mk.iv I), .int .i64 (Mk.cnt E C), .int .i64 (Mk.unt E U), .slice A1 (Mk.mon lm).length c1, .slice A2 (Mk.D F ld).length c2, .slice A3 ((Mk.W F lw).map (·.1)).length c3, .slice A4 (Mk.P F lm ld lw lp).length c4])) (by kernel_rfl) ?z121 ?z122
  case z121 => (intro o ho; obtain rfl := Option.some.inj ho; exact ⟨rfl, k_storeR rfl (ev_tmp h9) (ev_tmp h18) q5 rfl rfl (by simp [Value.oneCell'])⟩)
  case z122 =>
  obtain ⟨w6, hw6⟩ : ∃ wn, wn = w5.setRow w4.heap.size #[.int .i64 (F.tmod 4), .int .i64 (Mk.iv I), .int .i64 (Mk.cnt E C), .int .i64 (Mk.unt E U), .slice A1 (Mk.mon lm).length c1, .slice A2 (Mk.D F ld).length c2, .slice A3 ((Mk.W F lw).map (·.1)).length c3, .slice A4 (Mk.P F lm ld lw lp).length c4] := ⟨_, rfl⟩
  rw [← hw6]
  have L4 := F4.lists
  have B6 : Blk w6 w4.heap.size 38 #[.int .i64 (F.tmod 4), .int .i64 (Mk.iv I), .int .i64 (Mk.cnt E C), .int .i64 (Mk.unt E U), .slice A1 (Mk.mon lm).length c1, .slice A2 (Mk.D F ld).length c2, .slice A3 ((Mk.W F lw).map (·.1)).length c3, .slice A4 (Mk.P F lm ld lw lp).length c4] := by rw [hw6]; exact q5.setRow
  have l6 : Below w4.heap.size w4 w6 := by rw [hw6]; exact l5.trans ((exc_setRow w5 w4.heap.size #[.int .i64 (F.tmod 4), .int .i64 (Mk.iv I), .int .i64 (Mk.cnt E C), .int .i64 (Mk.unt E U), .slice A1 (Mk.mon lm).length c1, .slice A2 (Mk.D F ld).length c2, .slice A3 ((Mk.W F lw).map (·.1)).length c3, .slice A4 (Mk.P F lm ld lw lp).length c4] w4.heap.size).below (Nat.le_refl _))
  clear hw6 q5 l5
  refine wp_seq ?_
  refine wp_seq ?_
  refine wp_region (show wpOps _ _ _ [0] _ _ from ?_)
  refine opL 0 19 (v := .bool true) (w' := w6) (by kernel_rfl) (by rw [hs]; decide) ?z123 ?z124
  case z123 => (intro o ho; obtain rfl := Option.some.inj ho; exact ⟨rfl, k_move rfl (ev_tmp h3)⟩)
  case z124 =>
  intro a F0
  replace hs := F0.z.trans hs
  replace hd := F0.e.trans hd
  replace h1 := (F0.n 1 (by decide)).trans h1
  replace h2 := (F0.n 2 (by decide)).trans h2
  replace h3 := (F0.n 3 (by decide)).trans h3
  replace h4 := (F0.n 4 (by decide)).trans h4
  replace h8 := (F0.n 8 (by decide)).trans h8
  replace h13 := (F0.n 13 (by decide)).trans h13
  replace h16 := (F0.n 16 (by decide)).trans h16
  replace h18 := (F0.n 18 (by decide)).trans h18
  replace h9 := (F0.n 9 (by decide)).trans h9
  have h19 := F0.s
  clear F0
  refine wp_cond_true (ev_tmp h19) ?_
  refine wp_region (show wpOps _ _ _ [0, 1, 2] _ _ from ?_)
  refine opL 0 20 (v := .slice (some ⟨w6.heap.size, 0, none⟩) 1 1) (w' := (w6.alloc (.cells #[.int .i64 13] 3))) (by kernel_rfl) (by rw [hs]; decide) ?z125 ?z126
  case z125 => (intro o ho; obtain rfl := Option.some.inj ho; exact ⟨rfl, k_slice1 rfl rfl⟩)
  case z126 =>
  intro a F0
  replace hs := F0.z.trans hs
  replace hd := F0.e.trans hd
  replace h1 := (F0.n 1 (by decide)).trans h1
  replace h2 := (F0.n 2 (by decide)).trans h2
  replace h3 := (F0.n 3 (by decide)).trans h3
  replace h4 := (F0.n 4 (by decide)).trans h4
  replace h8 := (F0.n 8 (by decide)).trans h8
  replace h13 := (F0.n 13 (by decide)).trans h13
  replace h16 := (F0.n 16 (by decide)).trans h16
  replace h18 := (F0.n 18 (by decide)).trans h18
  replace h9 := (F0.n 9 (by decide)).trans h9
  replace h19 := (F0.n 19 (by decide)).trans h19
  have h20 := F0.s
  clear F0
  obtain ⟨w7, hw7⟩ : ∃ wn, wn = w6.alloc (.cells #[.int .i64 13] 3) := ⟨_, rfl⟩
  rw [← hw7]
  have q7 : Blk w7 w6.heap.size 3 #[.int .i64 13] := by rw [hw7]; exact Blk.alloc _ _ _
  have l7 : Below w6.heap.size w6 w7 := by rw [hw7]; exact (Below.refl _ _).alloc (Nat.le_refl _) _
  clear hw7
  have B7 := B6.below l7 B6.lt
  have n7 := l6.trans (l7.mono l6.size)
  refine opL 1 21 (v := .pointer (some ⟨w4.heap.size, 4, none⟩)) (w' := w7) (by kernel_rfl) (by rw [hs]; decide) ?z127 ?z128
  case z127 => (intro o ho; obtain rfl := Option.some.inj ho; exact ⟨rfl, k_field4 rfl (ev_tmp h9)⟩)
  case z128 =>
  intro a F0
  replace hs := F0.z.trans hs
  replace hd := F0.e.trans hd
  replace h1 := (F0.n 1 (by decide)).trans h1
  replace h2 := (F0.n 2 (by decide)).trans h2
  replace h3 := (F0.n 3 (by decide)).trans h3
  replace h4 := (F0.n 4 (by decide)).trans h4
  replace h8 := (F0.n 8 (by decide)).trans h8
  replace h13 := (F0.n 13 (by decide)).trans h13
  replace h16 := (F0.n 16 (by decide)).trans h16
  replace h18 := (F0.n 18 (by decide)).trans h18
  replace h9 := (F0.n 9 (by decide)).trans h9
  replace h19 := (F0.n 19 (by decide)).trans h19
  replace h20 := (F0.n 20 (by decide)).trans h20
  have h21 := F0.s
  clear F0
  refine opL_store 2 (w' := (w7.setCell ⟨w4.heap.size, 4, none⟩ (.slice (some ⟨w6.heap.size, 0, none⟩) 1 1))) (by kernel_rfl) ?z129 ?z130
  case z129 => (intro o ho; obtain rfl := Option.some.inj ho; exact ⟨rfl, k_storeL rfl (ev_tmp h21) (ev_tmp h20) B7 (by simp)⟩)
  case z130 =>
  clear h20
  clear h21
  obtain ⟨w8, hww8⟩ : ∃ wn, wn = w7.setCell ⟨w4.heap.size, 4, none⟩ (.slice (some ⟨w6.heap.size, 0, none⟩) 1 1) := ⟨_, rfl⟩
  rw [← hww8]
  have B8 : Blk w8 w4.heap.size 38 #[.int .i64 (F.tmod 4), .int .i64 (Mk.iv I), .int .i64 (Mk.cnt E C), .int .i64 (Mk.unt E U), .slice (some ⟨w6.heap.size, 0, none⟩) 1 1, .slice A2 (Mk.D F ld).length c2, .slice A3 ((Mk.W F lw).map (·.1)).length c3, .slice A4 (Mk.P F lm ld lw lp).length c4] := by rw [hww8]; exact B7.set 4 _
  have e8 : ∀ B, Exc B w4.heap.size w7 w8 := by rw [hww8]; exact exc_set w7 w4.heap.size 4 _
  clear hww8
  have n8 := n7.trans ((e8 w4.heap.size).below (Nat.le_refl _))
  have hlt46 := B6.lt
  have g8 := q7.exc (e8 w7.heap.size) q7.lt (by omega)
  refine wp_seq ?_
  refine wp_region (show wpOps _ _ _ [0, 1, 2, 3, 4, 5, 6, 7, 8, 9, 10, 11] _ _ from ?_)
  refine opL 0 22 (v := .int .u16 n) (w' := w8) (by kernel_rfl) (by rw [hs]; decide) ?z131 ?z132
  case z131 => (intro o ho; obtain rfl := Option.some.inj ho; exact ⟨rfl, k_move rfl (ev_tmp h1)⟩)
  case z132 =>
  intro a F0
  replace hs := F0.z.trans hs
  replace hd := F0.e.trans hd
  replace h1 := (F0.n 1 (by decide)).trans h1
  replace h2 := (F0.n 2 (by decide)).trans h2
  replace h3 := (F0.n 3 (by decide)).trans h3
  replace h4 := (F0.n 4 (by decide)).trans h4
  replace h8 := (F0.n 8 (by decide)).trans h8
  replace h13 := (F0.n 13 (by decide)).trans h13
  replace h16 := (F0.n 16 (by decide)).trans h16
  replace h18 := (F0.n 18 (by decide)).trans h18
  replace h9 := (F0.n 9 (by decide)).trans h9
  replace h19 := (F0.n 19 (by decide)).trans h19
  have h22 := F0.s
  clear F0
  refine opL 1 23 (v := .int .i64 n) (w' := w8) (by kernel_rfl) (by rw [hs]; decide) ?z133 ?z134
  case z133 => (intro o ho; obtain rfl := Option.some.inj ho; exact ⟨rfl, o_convHI rfl (ev_tmp h22) (wrap_small (by omega) (by omega))⟩)
  case z134 =>
  intro a F0
  replace hs := F0.z.trans hs
  replace hd := F0.e.trans hd
  replace h1 := (F0.n 1 (by decide)).trans h1
  replace h2 := (F0.n 2 (by decide)).trans h2
  replace h3 := (F0.n 3 (by decide)).trans h3
  replace h4 := (F0.n 4 (by decide)).trans h4
  replace h8 := (F0.n 8 (by decide)).trans h8
  replace h13 := (F0.n 13 (by decide)).trans h13
  replace h16 := (F0.n 16 (by decide)).trans h16
  replace h18 := (F0.n 18 (by decide)).trans h18
  replace h9 := (F0.n 9 (by decide)).trans h9
  replace h19 := (F0.n 19 (by decide)).trans h19
  clear h22
  have h23 := F0.s
  clear F0
  refine opL 2 24 (v := .int .i64 (n.tmod 9999)) (w' := w8) (by kernel_rfl) (by rw [hs]; decide) ?z135 ?z136
  case z135 => (intro o ho; obtain rfl := Option.some.inj ho; exact ⟨rfl, o_remI rfl (ev_tmp h23) rfl (by decide) rfl⟩)
  case z136 =>
  intro a F0
  replace hs := F0.z.trans hs
  replace hd := F0.e.trans hd
  replace h1 := (F0.n 1 (by decide)).trans h1
  replace h2 := (F0.n 2 (by decide)).trans h2
  replace h3 := (F0.n 3 (by decide)).trans h3
  replace h4 := (F0.n 4 (by decide)).trans h4
  replace h8 := (F0.n 8 (by decide)).trans h8
  replace h13 := (F0.n 13 (by decide)).trans h13
  replace h16 := (F0.n 16 (by decide)).trans h16
  replace h18 := (F0.n 18 (by decide)).trans h18
  replace h9 := (F0.n 9 (by decide)).trans h9
  replace h19 := (F0.n 19 (by decide)).trans h19
  clear h23
  have h24 := F0.s
  clear F0
  refine opL 3 25 (v := .int .i64 (1 + n.tmod 9999)) (w' := w8) (by kernel_rfl) (by rw [hs]; decide) ?z137 ?z138
  case z137 => (intro o ho; obtain rfl := Option.some.inj ho; exact ⟨rfl, o_addI rfl rfl (ev_tmp h24) (wrap_small (by omega) (by omega))⟩)
  case z138 =>
  intro a F0
  replace hs := F0.z.trans hs
  replace hd := F0.e.trans hd
  replace h1 := (F0.n 1 (by decide)).trans h1
  replace h2 := (F0.n 2 (by decide)).trans h2
  replace h3 := (F0.n 3 (by decide)).trans h3
  replace h4 := (F0.n 4 (by decide)).trans h4
  replace h8 := (F0.n 8 (by decide)).trans h8
  replace h13 := (F0.n 13 (by decide)).trans h13
  replace h16 := (F0.n 16 (by decide)).trans h16
  replace h18 := (F0.n 18 (by decide)).trans h18
  replace h9 := (F0.n 9 (by decide)).trans h9
  replace h19 := (F0.n 19 (by decide)).trans h19
  clear h24
  have h25 := F0.s
  clear F0
  refine opL 4 26 (v := .int .u32 m) (w' := w8) (by kernel_rfl) (by rw [hs]; decide) ?z139 ?z140
  case z139 => (intro o ho; obtain rfl := Option.some.inj ho; exact ⟨rfl, k_move rfl (ev_tmp h2)⟩)
  case z140 =>
  intro a F0
  replace hs := F0.z.trans hs
  replace hd := F0.e.trans hd
  replace h1 := (F0.n 1 (by decide)).trans h1
  replace h2 := (F0.n 2 (by decide)).trans h2
  replace h3 := (F0.n 3 (by decide)).trans h3
  replace h4 := (F0.n 4 (by decide)).trans h4
  replace h8 := (F0.n 8 (by decide)).trans h8
  replace h13 := (F0.n 13 (by decide)).trans h13
  replace h16 := (F0.n 16 (by decide)).trans h16
  replace h18 := (F0.n 18 (by decide)).trans h18
  replace h9 := (F0.n 9 (by decide)).trans h9
  replace h19 := (F0.n 19 (by decide)).trans h19
  replace h25 := (F0.n 25 (by decide)).trans h25
  have h26 := F0.s
  clear F0
  refine opL 5 27 (v := .int .u32 (m.tmod 3652059)) (w' := w8) (by kernel_rfl) (by rw [hs]; decide) ?z141 ?z142
  case z141 => (intro o ho; obtain rfl := Option.some.inj ho; exact ⟨rfl, o_remQ rfl (ev_tmp h26) rfl (by decide) rfl⟩)
  case z142 =>
  intro a F0
  replace hs := F0.z.trans hs
  replace hd := F0.e.trans hd
  replace h1 := (F0.n 1 (by decide)).trans h1
  replace h2 := (F0.n 2 (by decide)).trans h2
  replace h3 := (F0.n 3 (by decide)).trans h3
  replace h4 := (F0.n 4 (by decide)).trans h4
  replace h8 := (F0.n 8 (by decide)).trans h8
  replace h13 := (F0.n 13 (by decide)).trans h13
  replace h16 := (F0.n 16 (by decide)).trans h16
  replace h18 := (F0.n 18 (by decide)).trans h18
  replace h9 := (F0.n 9 (by decide)).trans h9
  replace h19 := (F0.n 19 (by decide)).trans h19
  replace h25 := (F0.n 25 (by decide)).trans h25
  clear h26
  have h27 := F0.s
  clear F0
  refine opL 6 28 (v := .int .i64 (m.tmod 3652059)) (w' := w8) (by kernel_rfl) (by rw [hs]; decide) ?z143 ?z144
  case z143 => (intro o ho; obtain rfl := Option.some.inj ho; exact ⟨rfl, o_convQU rfl (ev_tmp h27) (wrap_small (by omega) (by omega))⟩)
  case z144 =>
  intro a F0
  replace hs := F0.z.trans hs
  replace hd := F0.e.trans hd
  replace h1 := (F0.n 1 (by decide)).trans h1
  replace h2 := (F0.n 2 (by decide)).trans h2
  replace h3 := (F0.n 3 (by decide)).trans h3
  replace h4 := (F0.n 4 (by decide)).trans h4
  replace h8 := (F0.n 8 (by decide)).trans h8
  replace h13 := (F0.n 13 (by decide)).trans h13
  replace h16 := (F0.n 16 (by decide)).trans h16
  replace h18 := (F0.n 18 (by decide)).trans h18
  replace h9 := (F0.n 9 (by decide)).trans h9
  replace h19 := (F0.n 19 (by decide)).trans h19
  replace h25 := (F0.n 25 (by decide)).trans h25
  clear h27
  have h28 := F0.s
  clear F0
  refine opL 7 29 (v := .int .i64 (1 + m.tmod 3652059)) (w' := w8) (by kernel_rfl) (by rw [hs]; decide) ?z145 ?z146
  case z145 => (intro o ho; obtain rfl := Option.some.inj ho; exact ⟨rfl, o_addU rfl rfl (ev_tmp h28) (wrap_small (by omega) (by omega))⟩)
  case z146 =>
  intro a F0
  replace hs := F0.z.trans hs
  replace hd := F0.e.trans hd
  replace h1 := (F0.n 1 (by decide)).trans h1
  replace h2 := (F0.n 2 (by decide)).trans h2
  replace h3 := (F0.n 3 (by decide)).trans h3
  replace h4 := (F0.n 4 (by decide)).trans h4
  replace h8 := (F0.n 8 (by decide)).trans h8
  replace h13 := (F0.n 13 (by decide)).trans h13
  replace h16 := (F0.n 16 (by decide)).trans h16
  replace h18 := (F0.n 18 (by decide)).trans h18
  replace h9 := (F0.n 9 (by decide)).trans h9
  replace h19 := (F0.n 19 (by decide)).trans h19
  replace h25 := (F0.n 25 (by decide)).trans h25
  clear h28
  have h29 := F0.s
  clear F0
  refine opL 8 30 (v := .pointer (some ⟨w4.heap.size, 2, none⟩)) (w' := w8) (by kernel_rfl) (by rw [hs]; decide) ?z147 ?z148
  case z147 => (intro o ho; obtain rfl := Option.some.inj ho; exact ⟨rfl, k_field2 rfl (ev_tmp h9)⟩)
  case z148 =>
  intro a F0
  replace hs := F0.z.trans hs
  replace hd := F0.e.trans hd
  replace h1 := (F0.n 1 (by decide)).trans h1
  replace h2 := (F0.n 2 (by decide)).trans h2
  replace h3 := (F0.n 3 (by decide)).trans h3
  replace h4 := (F0.n 4 (by decide)).trans h4
  replace h8 := (F0.n 8 (by decide)).trans h8
  replace h13 := (F0.n 13 (by decide)).trans h13
  replace h16 := (F0.n 16 (by decide)).trans h16
  replace h18 := (F0.n 18 (by decide)).trans h18
  replace h9 := (F0.n 9 (by decide)).trans h9
  replace h19 := (F0.n 19 (by decide)).trans h19
  replace h25 := (F0.n 25 (by decide)).trans h25
  replace h29 := (F0.n 29 (by decide)).trans h29
  have h30 := F0.s
  clear F0
  refine opL_store 9 (w' := (w8.setCell ⟨w4.heap.size, 2, none⟩ (.int .i64 (1 + n.tmod 9999)))) (by kernel_rfl) ?z149 ?z150
  case z149 => (intro o ho; obtain rfl := Option.some.inj ho; exact ⟨rfl, k_storeI rfl (ev_tmp h30) (ev_tmp h25) B8 (by simp)⟩)
  case z150 =>
  clear h25
  clear h30
  obtain ⟨w9, hww9⟩ : ∃ wn, wn = w8.setCell ⟨w4.heap.size, 2, none⟩ (.int .i64 (1 + n.tmod 9999)) := ⟨_, rfl⟩
  rw [← hww9]
  have B9 : Blk w9 w4.heap.size 38 #[.int .i64 (F.tmod 4), .int .i64 (Mk.iv I), .int .i64 (1 + n.tmod 9999), .int .i64 (Mk.unt E U), .slice (some ⟨w6.heap.size, 0, none⟩) 1 1, .slice A2 (Mk.D F ld).length c2, .slice A3 ((Mk.W F lw).map (·.1)).length c3, .slice A4 (Mk.P F lm ld lw lp).length c4] := by rw [hww9]; exact B8.set 2 _
  have e9 : ∀ B, Exc B w4.heap.size w8 w9 := by rw [hww9]; exact exc_set w8 w4.heap.size 2 _
  clear hww9
  have n9 := n8.trans ((e9 w4.heap.size).below (Nat.le_refl _))
  have g9 := g8.exc (e9 w8.heap.size) g8.lt (by omega)
  refine opL 10 31 (v := .pointer (some ⟨w4.heap.size, 3, none⟩)) (w' := w9) (by kernel_rfl) (by rw [hs]; decide) ?z151 ?z152
  case z151 => (intro o ho; obtain rfl := Option.some.inj ho; exact ⟨rfl, k_field3 rfl (ev_tmp h9)⟩)
  case z152 =>
  intro a F0
  replace hs := F0.z.trans hs
  replace hd := F0.e.trans hd
  replace h1 := (F0.n 1 (by decide)).trans h1
  replace h2 := (F0.n 2 (by decide)).trans h2
  replace h3 := (F0.n 3 (by decide)).trans h3
  replace h4 := (F0.n 4 (by decide)).trans h4
  replace h8 := (F0.n 8 (by decide)).trans h8
  replace h13 := (F0.n 13 (by decide)).trans h13
  replace h16 := (F0.n 16 (by decide)).trans h16
  replace h18 := (F0.n 18 (by decide)).trans h18
  replace h9 := (F0.n 9 (by decide)).trans h9
  replace h19 := (F0.n 19 (by decide)).trans h19
  replace h29 := (F0.n 29 (by decide)).trans h29
  have h31 := F0.s
  clear F0
  refine opL_store 11 (w' := (w9.setCell ⟨w4.heap.size, 3, none⟩ (.int .i64 (1 + m.tmod 3652059)))) (by kernel_rfl) ?z153 ?z154
  case z153 => (intro o ho; obtain rfl := Option.some.inj ho; exact ⟨rfl, k_storeU rfl (ev_tmp h31) (ev_tmp h29) B9 (by simp)⟩)
  case z154 =>
  clear h29
  clear h31
  obtain ⟨wa, hwwa⟩ : ∃ wn, wn = w9.setCell ⟨w4.heap.size, 3, none⟩ (.int .i64 (1 + m.tmod 3652059)) := ⟨_, rfl⟩
  rw [← hwwa]
  have Ba : Blk wa w4.heap.size 38 #[.int .i64 (F.tmod 4), .int .i64 (Mk.iv I), .int .i64 (1 + n.tmod 9999), .int .i64 (1 + m.tmod 3652059), .slice (some ⟨w6.heap.size, 0, none⟩) 1 1, .slice A2 (Mk.D F ld).length c2, .slice A3 ((Mk.W F lw).map (·.1)).length c3, .slice A4 (Mk.P F lm ld lw lp).length c4] := by rw [hwwa]; exact B9.set 3 _
  have ea : ∀ B, Exc B w4.heap.size w9 wa := by rw [hwwa]; exact exc_set w9 w4.heap.size 3 _
  clear hwwa
  have na := n9.trans ((ea w4.heap.size).below (Nat.le_refl _))
  have ga := g9.exc (ea w9.heap.size) g9.lt (by omega)
  refine wp_seq ?_
  refine wp_region (show wpOps _ _ _ [0, 1, 2] _ _ from ?_)
  refine opL 0 32 (v := .agg #[.int .i64 (F.tmod 4), .int .i64 (Mk.iv I), .int .i64 (1 + n.tmod 9999), .int .i64 (1 + m.tmod 3652059), .slice (some ⟨w6.heap.size, 0, none⟩) 1 1, .slice A2 (Mk.D F ld).length c2, .slice A3 ((Mk.W F lw).map (·.1)).length c3, .slice A4 (Mk.P F lm ld lw lp).length c4]) (w' := wa) (by kernel_rfl) (by rw [hs]; decide) ?z155 ?z156
  case z155 => (intro o ho; obtain rfl := Option.some.inj ho; exact ⟨rfl, k_loadR rfl (ev_tmp h9) Ba.rule⟩)
  case z156 =>
  intro a F0
  replace hs := F0.z.trans hs
  replace hd := F0.e.trans hd
  replace h1 := (F0.n 1 (by decide)).trans h1
  replace h2 := (F0.n 2 (by decide)).trans h2
  replace h3 := (F0.n 3 (by decide)).trans h3
  replace h4 := (F0.n 4 (by decide)).trans h4
  replace h8 := (F0.n 8 (by decide)).trans h8
  replace h13 := (F0.n 13 (by decide)).trans h13
  replace h16 := (F0.n 16 (by decide)).trans h16
  replace h18 := (F0.n 18 (by decide)).trans h18
  replace h9 := (F0.n 9 (by decide)).trans h9
  replace h19 := (F0.n 19 (by decide)).trans h19
  have h32 := F0.s
  clear F0
  have hc := check_any' (F.tmod 4) (Mk.iv I) (1 + n.tmod 9999) (1 + m.tmod 3652059) (some ⟨w6.heap.size, 0, none⟩) A2 A3 A4 1 c2 c3 c4 [13] (Mk.D F ld) ((Mk.W F lw).map (·.1)) (Mk.P F lm ld lw lp) wa ⟨one_in wa _ 13 ga, (L4.below na).d, (L4.below na).k, (L4.below na).p, by simp [maxLen], L4.ld, L4.lk, L4.lp⟩
  have hx := fun ops Q rest d a i h1 h2 h3 => opL_call (P := Tryd.prog) (ops := ops) (Q := Q) (a := a) (w := wa) (rest := rest) i d h1 h2 h3 hc
  refine hx _ _ _ 33 _ 1 ?z157a ?z157b ?z157 ?z158
  case z157a => kernel_rfl
  case z157b => (rw [hs]; decide)
  case z157 => (intro o ho; obtain rfl := Option.some.inj ho; exact ⟨rfl, k_callCheck rfl rfl (ev_tmp h32)⟩)
  case z158 =>
  rintro _ wb a ⟨rfl, lb⟩ F0
  rw [ck7] at F0
  replace hs := F0.z.trans hs
  replace hd := F0.e.trans hd
  replace h1 := (F0.n 1 (by decide)).trans h1
  replace h2 := (F0.n 2 (by decide)).trans h2
  replace h3 := (F0.n 3 (by decide)).trans h3
  replace h4 := (F0.n 4 (by decide)).trans h4
  replace h8 := (F0.n 8 (by decide)).trans h8
  replace h13 := (F0.n 13 (by decide)).trans h13
  replace h16 := (F0.n 16 (by decide)).trans h16
  replace h18 := (F0.n 18 (by decide)).trans h18
  replace h9 := (F0.n 9 (by decide)).trans h9
  replace h19 := (F0.n 19 (by decide)).trans h19
  clear h32
  have h33 := F0.s
  clear F0
  clear hx hc
  have Bb := Ba.below lb Ba.lt
  have nb := na.trans (lb.mono na.size)
  have gb := ga.below lb ga.lt
  refine opL 2 10 (v := .int .i64 7) (w' := wb) (by kernel_rfl) (by rw [hs]; decide) ?z159 ?z160
  case z159 => (intro o ho; obtain rfl := Option.some.inj ho; exact ⟨rfl, k_assign rfl (ev_tmp h33)⟩)
  case z160 =>
  intro a F0
  replace hs := F0.z.trans hs
  replace hd := F0.e.trans hd
  replace h1 := (F0.n 1 (by decide)).trans h1
  replace h2 := (F0.n 2 (by decide)).trans h2
  replace h3 := (F0.n 3 (by decide)).trans h3
  replace h4 := (F0.n 4 (by decide)).trans h4
  replace h8 := (F0.n 8 (by decide)).trans h8
  replace h13 := (F0.n 13 (by decide)).trans h13
  replace h16 := (F0.n 16 (by decide)).trans h16
  replace h18 := (F0.n 18 (by decide)).trans h18
  replace h9 := (F0.n 9 (by decide)).trans h9
  replace h19 := (F0.n 19 (by decide)).trans h19
  clear h33
  have h10 := F0.s
  clear F0
  refine wp_seq ?_
  refine wp_region (show wpOps _ _ _ [0, 1, 2, 3] _ _ from ?_)
  refine opL 0 34 (v := .pointer (some ⟨w4.heap.size, 2, none⟩)) (w' := wb) (by kernel_rfl) (by rw [hs]; decide) ?z161 ?z162
  case z161 => (intro o ho; obtain rfl := Option.some.inj ho; exact ⟨rfl, k_field2 rfl (ev_tmp h9)⟩)
  case z162 =>
  intro a F0
  replace hs := F0.z.trans hs
  replace hd := F0.e.trans hd
  replace h1 := (F0.n 1 (by decide)).trans h1
  replace h2 := (F0.n 2 (by decide)).trans h2
  replace h3 := (F0.n 3 (by decide)).trans h3
  replace h4 := (F0.n 4 (by decide)).trans h4
  replace h8 := (F0.n 8 (by decide)).trans h8
  replace h13 := (F0.n 13 (by decide)).trans h13
  replace h16 := (F0.n 16 (by decide)).trans h16
  replace h18 := (F0.n 18 (by decide)).trans h18
  replace h9 := (F0.n 9 (by decide)).trans h9
  replace h19 := (F0.n 19 (by decide)).trans h19
  replace h10 := (F0.n 10 (by decide)).trans h10
  have h34 := F0.s
  clear F0
  refine opL_store 1 (w' := (wb.setCell ⟨w4.heap.size, 2, none⟩ (.int .i64 0))) (by kernel_rfl) ?z163 ?z164
  case z163 => (intro o ho; obtain rfl := Option.some.inj ho; exact ⟨rfl, k_storeI rfl (ev_tmp h34) rfl Bb (by simp)⟩)
  case z164 =>
  clear h34
  obtain ⟨wc, hwwc⟩ : ∃ wn, wn = wb.setCell ⟨w4.heap.size, 2, none⟩ (.int .i64 0) := ⟨_, rfl⟩
  rw [← hwwc]
  have Bc : Blk wc w4.heap.size 38 #[.int .i64 (F.tmod 4), .int .i64 (Mk.iv I), .int .i64 0, .int .i64 (1 + m.tmod 3652059), .slice (some ⟨w6.heap.size, 0, none⟩) 1 1, .slice A2 (Mk.D F ld).length c2, .slice A3 ((Mk.W F lw).map (·.1)).length c3, .slice A4 (Mk.P F lm ld lw lp).length c4] := by rw [hwwc]; exact Bb.set 2 _
  have ec : ∀ B, Exc B w4.heap.size wb wc := by rw [hwwc]; exact exc_set wb w4.heap.size 2 _
  clear hwwc
  have nc := nb.trans ((ec w4.heap.size).below (Nat.le_refl _))
  have gc := gb.exc (ec wb.heap.size) gb.lt (by omega)
  refine opL 2 35 (v := .pointer (some ⟨w4.heap.size, 3, none⟩)) (w' := wc) (by kernel_rfl) (by rw [hs]; decide) ?z165 ?z166
  case z165 => (intro o ho; obtain rfl := Option.some.inj ho; exact ⟨rfl, k_field3 rfl (ev_tmp h9)⟩)
  case z166 =>
  intro a F0
  replace hs := F0.z.trans hs
  replace hd := F0.e.trans hd
  replace h1 := (F0.n 1 (by decide)).trans h1
  replace h2 := (F0.n 2 (by decide)).trans h2
  replace h3 := (F0.n 3 (by decide)).trans h3
  replace h4 := (F0.n 4 (by decide)).trans h4
  replace h8 := (F0.n 8 (by decide)).trans h8
  replace h13 := (F0.n 13 (by decide)).trans h13
  replace h16 := (F0.n 16 (by decide)).trans h16
  replace h18 := (F0.n 18 (by decide)).trans h18
  replace h9 := (F0.n 9 (by decide)).trans h9
  replace h19 := (F0.n 19 (by decide)).trans h19
  replace h10 := (F0.n 10 (by decide)).trans h10
  have h35 := F0.s
  clear F0
  refine opL_store 3 (w' := (wc.setCell ⟨w4.heap.size, 3, none⟩ (.int .i64 0))) (by kernel_rfl) ?z167 ?z168
  case z167 => (intro o ho; obtain rfl := Option.some.inj ho; exact ⟨rfl, k_storeU rfl (ev_tmp h35) rfl Bc (by simp)⟩)
  case z168 =>
  clear h35
  obtain ⟨wd, hwwd⟩ : ∃ wn, wn = wc.setCell ⟨w4.heap.size, 3, none⟩ (.int .i64 0) := ⟨_, rfl⟩
  rw [← hwwd]
  have Bd : Blk wd w4.heap.size 38 #[.int .i64 (F.tmod 4), .int .i64 (Mk.iv I), .int .i64 0, .int .i64 0, .slice (some ⟨w6.heap.size, 0, none⟩) 1 1, .slice A2 (Mk.D F ld).length c2, .slice A3 ((Mk.W F lw).map (·.1)).length c3, .slice A4 (Mk.P F lm ld lw lp).length c4] := by rw [hwwd]; exact Bc.set 3 _
  have ed : ∀ B, Exc B w4.heap.size wc wd := by rw [hwwd]; exact exc_set wc w4.heap.size 3 _
  clear hwwd
  have nd := nc.trans ((ed w4.heap.size).below (Nat.le_refl _))
  have gd := gc.exc (ed wc.heap.size) gc.lt (by omega)
  refine wp_seq ?_
  refine wp_region (show wpOps _ _ _ [0] _ _ from ?_)
  refine opL 0 11 (v := .int .i64 0) (w' := wd) (by kernel_rfl) (by rw [hs]; decide) ?z169 ?z170
  case z169 => (intro o ho; obtain rfl := Option.some.inj ho; exact ⟨rfl, k_assign rfl rfl⟩)
  case z170 =>
  intro a F0
  replace hs := F0.z.trans hs
  replace hd := F0.e.trans hd
  replace h1 := (F0.n 1 (by decide)).trans h1
  replace h2 := (F0.n 2 (by decide)).trans h2
  replace h3 := (F0.n 3 (by decide)).trans h3
  replace h4 := (F0.n 4 (by decide)).trans h4
  replace h8 := (F0.n 8 (by decide)).trans h8
  replace h13 := (F0.n 13 (by decide)).trans h13
  replace h16 := (F0.n 16 (by decide)).trans h16
  replace h18 := (F0.n 18 (by decide)).trans h18
  replace h9 := (F0.n 9 (by decide)).trans h9
  replace h19 := (F0.n 19 (by decide)).trans h19
  replace h10 := (F0.n 10 (by decide)).trans h10
  have h11 := F0.s
  clear F0
  refine wp_seq ?_
  refine wp_seq ?_
  refine wp_region (show wpOps _ _ _ [0] _ _ from ?_)
  refine opL 0 36 (v := .bool true) (w' := wd) (by kernel_rfl) (by rw [hs]; decide) ?z171 ?z172
  case z171 => (intro o ho; obtain rfl := Option.some.inj ho; exact ⟨rfl, k_move rfl (ev_tmp h3)⟩)
  case z172 =>
  intro a F0
  replace hs := F0.z.trans hs
  replace hd := F0.e.trans hd
  replace h1 := (F0.n 1 (by decide)).trans h1
  replace h2 := (F0.n 2 (by decide)).trans h2
  replace h3 := (F0.n 3 (by decide)).trans h3
  replace h4 := (F0.n 4 (by decide)).trans h4
  replace h8 := (F0.n 8 (by decide)).trans h8
  replace h13 := (F0.n 13 (by decide)).trans h13
  replace h16 := (F0.n 16 (by decide)).trans h16
  replace h18 := (F0.n 18 (by decide)).trans h18
  replace h9 := (F0.n 9 (by decide)).trans h9
  replace h19 := (F0.n 19 (by decide)).trans h19
  replace h10 := (F0.n 10 (by decide)).trans h10
  replace h11 := (F0.n 11 (by decide)).trans h11
  have h36 := F0.s
  clear F0
  refine wp_cond_true (ev_tmp h36) ?_
  refine wp_region (show wpOps _ _ _ [0] _ _ from ?_)
  refine opL 0 11 (v := .int .i64 3) (w' := wd) (by kernel_rfl) (by rw [hs]; decide) ?z173 ?z174
  case z173 => (intro o ho; obtain rfl := Option.some.inj ho; exact ⟨rfl, k_assign rfl rfl⟩)
  case z174 =>
  intro a F0
  replace hs := F0.z.trans hs
  replace hd := F0.e.trans hd
  replace h1 := (F0.n 1 (by decide)).trans h1
  replace h2 := (F0.n 2 (by decide)).trans h2
  replace h3 := (F0.n 3 (by decide)).trans h3
  replace h4 := (F0.n 4 (by decide)).trans h4
  replace h8 := (F0.n 8 (by decide)).trans h8
  replace h13 := (F0.n 13 (by decide)).trans h13
  replace h16 := (F0.n 16 (by decide)).trans h16
  replace h18 := (F0.n 18 (by decide)).trans h18
  replace h9 := (F0.n 9 (by decide)).trans h9
  replace h19 := (F0.n 19 (by decide)).trans h19
  replace h10 := (F0.n 10 (by decide)).trans h10
  clear h11
  replace h36 := (F0.n 36 (by decide)).trans h36
  have h11 := F0.s
  clear F0
  refine wp_seq ?_
  refine wp_region (show wpOps _ _ _ [0, 1, 2, 3, 4, 5, 6, 7, 8] _ _ from ?_)
  refine opL 0 37 (v := .int .i64 7) (w' := wd) (by kernel_rfl) (by rw [hs]; decide) ?z175 ?z176
  case z175 => (intro o ho; obtain rfl := Option.some.inj ho; exact ⟨rfl, k_move rfl (ev_tmp h10)⟩)
  case z176 =>
  intro a F0
  replace hs := F0.z.trans hs
  replace hd := F0.e.trans hd
  replace h1 := (F0.n 1 (by decide)).trans h1
  replace h2 := (F0.n 2 (by decide)).trans h2
  replace h3 := (F0.n 3 (by decide)).trans h3
  replace h4 := (F0.n 4 (by decide)).trans h4
  replace h8 := (F0.n 8 (by decide)).trans h8
  replace h13 := (F0.n 13 (by decide)).trans h13
  replace h16 := (F0.n 16 (by decide)).trans h16
  replace h18 := (F0.n 18 (by decide)).trans h18
  replace h9 := (F0.n 9 (by decide)).trans h9
  replace h19 := (F0.n 19 (by decide)).trans h19
  replace h10 := (F0.n 10 (by decide)).trans h10
  replace h36 := (F0.n 36 (by decide)).trans h36
  replace h11 := (F0.n 11 (by decide)).trans h11
  have h37 := F0.s
  clear F0
  refine opL 1 38 (v := .bool true) (w' := wd) (by kernel_rfl) (by rw [hs]; decide) ?z177 ?z178
  case z177 => (intro o ho; obtain rfl := Option.some.inj ho; exact ⟨rfl, o_eqE rfl (ev_tmp h37) rfl (by decide)⟩)
  case z178 =>
  intro a F0
  replace hs := F0.z.trans hs
  replace hd := F0.e.trans hd
  replace h1 := (F0.n 1 (by decide)).trans h1
  replace h2 := (F0.n 2 (by decide)).trans h2
  replace h3 := (F0.n 3 (by decide)).trans h3
  replace h4 := (F0.n 4 (by decide)).trans h4
  replace h8 := (F0.n 8 (by decide)).trans h8
  replace h13 := (F0.n 13 (by decide)).trans h13
  replace h16 := (F0.n 16 (by decide)).trans h16
  replace h18 := (F0.n 18 (by decide)).trans h18
  replace h9 := (F0.n 9 (by decide)).trans h9
  replace h19 := (F0.n 19 (by decide)).trans h19
  replace h10 := (F0.n 10 (by decide)).trans h10
  replace h36 := (F0.n 36 (by decide)).trans h36
  replace h11 := (F0.n 11 (by decide)).trans h11
  clear h37
  have h38 := F0.s
  clear F0
  refine opL 2 39 (v := .bool true) (w' := wd) (by kernel_rfl) (by rw [hs]; decide) ?z179 ?z180
  case z179 => (intro o ho; obtain rfl := Option.some.inj ho; exact ⟨rfl, k_move rfl (ev_tmp h38)⟩)
  case z180 =>
  intro a F0
  replace hs := F0.z.trans hs
  replace hd := F0.e.trans hd
  replace h1 := (F0.n 1 (by decide)).trans h1
  replace h2 := (F0.n 2 (by decide)).trans h2
  replace h3 := (F0.n 3 (by decide)).trans h3
  replace h4 := (F0.n 4 (by decide)).trans h4
  replace h8 := (F0.n 8 (by decide)).trans h8
  replace h13 := (F0.n 13 (by decide)).trans h13
  replace h16 := (F0.n 16 (by decide)).trans h16
  replace h18 := (F0.n 18 (by decide)).trans h18
  replace h9 := (F0.n 9 (by decide)).trans h9
  replace h19 := (F0.n 19 (by decide)).trans h19
  replace h10 := (F0.n 10 (by decide)).trans h10
  replace h36 := (F0.n 36 (by decide)).trans h36
  replace h11 := (F0.n 11 (by decide)).trans h11
  clear h38
  have h39 := F0.s
  clear F0
  refine opL 3 40 (v := .agg #[.int .i64 (F.tmod 4), .int .i64 (Mk.iv I), .int .i64 0, .int .i64 0, .slice (some ⟨w6.heap.size, 0, none⟩) 1 1, .slice A2 (Mk.D F ld).length c2, .slice A3 ((Mk.W F lw).map (·.1)).length c3, .slice A4 (Mk.P F lm ld lw lp).length c4]) (w' := wd) (by kernel_rfl) (by rw [hs]; decide) ?z181 ?z182
  case z181 => (intro o ho; obtain rfl := Option.some.inj ho; exact ⟨wanted_at (b := true) (want := true) rfl (by kernel_rfl) h39, k_loadR rfl (ev_tmp h9) Bd.rule⟩)
  case z182 =>
  intro a F0
  replace hs := F0.z.trans hs
  replace hd := F0.e.trans hd
  replace h1 := (F0.n 1 (by decide)).trans h1
  replace h2 := (F0.n 2 (by decide)).trans h2
  replace h3 := (F0.n 3 (by decide)).trans h3
  replace h4 := (F0.n 4 (by decide)).trans h4
  replace h8 := (F0.n 8 (by decide)).trans h8
  replace h13 := (F0.n 13 (by decide)).trans h13
  replace h16 := (F0.n 16 (by decide)).trans h16
  replace h18 := (F0.n 18 (by decide)).trans h18
  replace h9 := (F0.n 9 (by decide)).trans h9
  replace h19 := (F0.n 19 (by decide)).trans h19
  replace h10 := (F0.n 10 (by decide)).trans h10
  replace h36 := (F0.n 36 (by decide)).trans h36
  replace h11 := (F0.n 11 (by decide)).trans h11
  replace h39 := (F0.n 39 (by decide)).trans h39
  have h40 := F0.s
  clear F0
  have hc := check_any' (F.tmod 4) (Mk.iv I) 0 0 (some ⟨w6.heap.size, 0, none⟩) A2 A3 A4 1 c2 c3 c4 [13] (Mk.D F ld) ((Mk.W F lw).map (·.1)) (Mk.P F lm ld lw lp) wd ⟨one_in wd _ 13 gd, (L4.below nd).d, (L4.below nd).k, (L4.below nd).p, by simp [maxLen], L4.ld, L4.lk, L4.lp⟩
  have hx := fun ops Q rest d a i h1 h2 h3 => opL_call (P := Tryd.prog) (ops := ops) (Q := Q) (a := a) (w := wd) (rest := rest) i d h1 h2 h3 hc
  refine hx _ _ _ 41 _ 4 ?z183a ?z183b ?z183 ?z184
  case z183a => kernel_rfl
  case z183b => (rw [hs]; decide)
  case z183 => (intro o ho; obtain rfl := Option.some.inj ho; exact ⟨wanted_at (b := true) (want := true) rfl (by kernel_rfl) h39, k_callCheck rfl rfl (ev_tmp h40)⟩)
  case z184 =>
  rintro _ we a ⟨rfl, le⟩ F0
  rw [ck0] at F0
  replace hs := F0.z.trans hs
  replace hd := F0.e.trans hd
  replace h1 := (F0.n 1 (by decide)).trans h1
  replace h2 := (F0.n 2 (by decide)).trans h2
  replace h3 := (F0.n 3 (by decide)).trans h3
  replace h4 := (F0.n 4 (by decide)).trans h4
  replace h8 := (F0.n 8 (by decide)).trans h8
  replace h13 := (F0.n 13 (by decide)).trans h13
  replace h16 := (F0.n 16 (by decide)).trans h16
  replace h18 := (F0.n 18 (by decide)).trans h18
  replace h9 := (F0.n 9 (by decide)).trans h9
  replace h19 := (F0.n 19 (by decide)).trans h19
  replace h10 := (F0.n 10 (by decide)).trans h10
  replace h36 := (F0.n 36 (by decide)).trans h36
  replace h11 := (F0.n 11 (by decide)).trans h11
  replace h39 := (F0.n 39 (by decide)).trans h39
  clear h40
  have h41 := F0.s
  clear F0
  refine opL 5 42 (v := .int .i64 3) (w' := we) (by kernel_rfl) (by rw [hs]; decide) ?z185 ?z186
  case z185 => (intro o ho; obtain rfl := Option.some.inj ho; exact ⟨wanted_at (b := true) (want := true) rfl (by kernel_rfl) h39, k_move rfl (ev_tmp h11)⟩)
  case z186 =>
  intro a F0
  replace hs := F0.z.trans hs
  replace hd := F0.e.trans hd
  replace h1 := (F0.n 1 (by decide)).trans h1
  replace h2 := (F0.n 2 (by decide)).trans h2
  replace h3 := (F0.n 3 (by decide)).trans h3
  replace h4 := (F0.n 4 (by decide)).trans h4
  replace h8 := (F0.n 8 (by decide)).trans h8
  replace h13 := (F0.n 13 (by decide)).trans h13
  replace h16 := (F0.n 16 (by decide)).trans h16
  replace h18 := (F0.n 18 (by decide)).trans h18
  replace h9 := (F0.n 9 (by decide)).trans h9
  replace h19 := (F0.n 19 (by decide)).trans h19
  replace h10 := (F0.n 10 (by decide)).trans h10
  replace h36 := (F0.n 36 (by decide)).trans h36
  replace h11 := (F0.n 11 (by decide)).trans h11
  replace h39 := (F0.n 39 (by decide)).trans h39
  replace h41 := (F0.n 41 (by decide)).trans h41
  have h42 := F0.s
  clear F0
  refine opL 6 43 (v := .bool true) (w' := we) (by kernel_rfl) (by rw [hs]; decide) ?z187 ?z188
  case z187 => (intro o ho; obtain rfl := Option.some.inj ho; exact ⟨wanted_at (b := true) (want := true) rfl (by kernel_rfl) h39, o_eqE rfl (ev_tmp h41) (ev_tmp h42) (by decide)⟩)
  case z188 =>
  intro a F0
  replace hs := F0.z.trans hs
  replace hd := F0.e.trans hd
  replace h1 := (F0.n 1 (by decide)).trans h1
  replace h2 := (F0.n 2 (by decide)).trans h2
  replace h3 := (F0.n 3 (by decide)).trans h3
  replace h4 := (F0.n 4 (by decide)).trans h4
  replace h8 := (F0.n 8 (by decide)).trans h8
  replace h13 := (F0.n 13 (by decide)).trans h13
  replace h16 := (F0.n 16 (by decide)).trans h16
  replace h18 := (F0.n 18 (by decide)).trans h18
  replace h9 := (F0.n 9 (by decide)).trans h9
  replace h19 := (F0.n 19 (by decide)).trans h19
  replace h10 := (F0.n 10 (by decide)).trans h10
  replace h36 := (F0.n 36 (by decide)).trans h36
  replace h11 := (F0.n 11 (by decide)).trans h11
  replace h39 := (F0.n 39 (by decide)).trans h39
  clear h41
  clear h42
  have h43 := F0.s
  clear F0
  refine opL 7 44 (v := .bool true) (w' := we) (by kernel_rfl) (by rw [hs]; decide) ?z189 ?z190
  case z189 => (intro o ho; obtain rfl := Option.some.inj ho; exact ⟨rfl, k_pick_yes rfl (ev_tmp h39) (ev_tmp h43)⟩)
  case z190 =>
  intro a F0
  replace hs := F0.z.trans hs
  replace hd := F0.e.trans hd
  replace h1 := (F0.n 1 (by decide)).trans h1
  replace h2 := (F0.n 2 (by decide)).trans h2
  replace h3 := (F0.n 3 (by decide)).trans h3
  replace h4 := (F0.n 4 (by decide)).trans h4
  replace h8 := (F0.n 8 (by decide)).trans h8
  replace h13 := (F0.n 13 (by decide)).trans h13
  replace h16 := (F0.n 16 (by decide)).trans h16
  replace h18 := (F0.n 18 (by decide)).trans h18
  replace h9 := (F0.n 9 (by decide)).trans h9
  replace h19 := (F0.n 19 (by decide)).trans h19
  replace h10 := (F0.n 10 (by decide)).trans h10
  replace h36 := (F0.n 36 (by decide)).trans h36
  replace h11 := (F0.n 11 (by decide)).trans h11
  clear h39
  clear h43
  have h44 := F0.s
  clear F0
  refine opL 8 8 (v := .bool true) (w' := we) (by kernel_rfl) (by rw [hs]; decide) ?z191 ?z192
  case z191 => (intro o ho; obtain rfl := Option.some.inj ho; exact ⟨rfl, k_assign rfl (ev_tmp h44)⟩)
  case z192 =>
  intro a F0
  replace hs := F0.z.trans hs
  replace hd := F0.e.trans hd
  replace h1 := (F0.n 1 (by decide)).trans h1
  replace h2 := (F0.n 2 (by decide)).trans h2
  replace h3 := (F0.n 3 (by decide)).trans h3
  replace h4 := (F0.n 4 (by decide)).trans h4
  clear h8
  replace h13 := (F0.n 13 (by decide)).trans h13
  replace h16 := (F0.n 16 (by decide)).trans h16
  replace h18 := (F0.n 18 (by decide)).trans h18
  replace h9 := (F0.n 9 (by decide)).trans h9
  replace h19 := (F0.n 19 (by decide)).trans h19
  replace h10 := (F0.n 10 (by decide)).trans h10
  replace h36 := (F0.n 36 (by decide)).trans h36
  replace h11 := (F0.n 11 (by decide)).trans h11
  clear h44
  have h8 := F0.s
  clear F0
  refine wp_ret ?_
  exact hfin a _ hd h8 (m4.trans ((nd.trans (le.mono nd.size)).mono m4.size))

theorem ruleEnds_walk (F I E C U : Int) (AM AD AW AP : Option Addr) (cM cD cW cP : Nat) (lm ld : List Int) (lw : List (Int × Int)) (lp : List Int) (n m : Int) (wr : Bool) (w : World) (hM : Months w) (hX : XIn0 w F I E C U AM AD AW AP lm ld lw lp) (hn : 0 ≤ n ∧ n ≤ 65535) (hm : 0 ≤ m ∧ m ≤ 4294967295) :
    Calls Tryd.prog 8 #[.agg #[.int .u8 F, .int .u8 I, .int .u8 E, .int .u16 C, .int .u32 U, .slice AM lm.length cM, .slice AD ld.length cD, .slice AW lw.length cW, .slice AP lp.length cP], .int .u16 n, .int .u32 m, .bool wr] w fun e w' => e = .returned (.bool true) ∧ Below w.heap.size w w' := by
  cases hlt : light lm ld lw lp
  · exact ruleEnds_heavy F I E C U AM AD AW AP cM cD cW cP lm ld lw lp n m wr w hM hX hlt
  · cases wr
    · exact ruleEnds_false F I E C U AM AD AW AP cM cD cW cP lm ld lw lp n m w hM hX hn hm hlt
    · exact ruleEnds_true F I E C U AM AD AW AP cM cD cW cP lm ld lw lp n m w hM hX hn hm hlt
end Go.Proofs.YtoldjleojnlhiaaDoor
