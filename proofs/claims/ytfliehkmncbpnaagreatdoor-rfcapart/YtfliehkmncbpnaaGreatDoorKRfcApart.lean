/-
  The walk of the law RfcApart.
-/
import Derived.Test.YtfliehkmncbpnaaGreatDoorAp1
namespace Go.Proofs.YtfliehkmncbpnaaGreatDoor
open Go.RowKit
noncomputable def apBody : Code := Tryz.f3.body.getD .skip
theorem c_Awk3 {w : World} {ρ : Operand → Value} {o : Oper} (ho : o.op = .call ⟨.value (.func 4), #[], #[]⟩) (hf : ρ (.func 4) = .func (.func 4) #[] #[]) : (execOp ρ o).run Tryz.prog w = .ok (.enter 4 #[]) w := by
  simp only [execOp, ho]
  go_simp
/-- behind the law's if -/
structure ApS (w : World) (X : Array Value) (b3 b4 : Nat) (a : Act) (w' : World) : Prop where
  hd : a.defers = []
  hs : a.tmps.size = 42
  h3 : a.tmps.getD 3 undef = .pointer (some ⟨b3, 0, none⟩)
  h4 : a.tmps.getD 4 undef = .pointer (some ⟨b4, 0, none⟩)
  B3 : Blk w' b3 29 X
  B4 : ∃ (F' I' E' C' U' : Int) (AM' AD' AW' AP' : Option Addr) (cM' cD' cW' cP' : Nat) (lm' ld' : List Int) (lw' : List (Int × Int)) (lp' : List Int), Blk w' b4 29 #[.int .u8 F', .int .u8 I', .int .u8 E', .int .u16 C', .int .u32 U', .slice AM' lm'.length cM', .slice AD' ld'.length cD', .slice AW' lw'.length cW', .slice AP' lp'.length cP'] ∧ XIn0 w F' I' E' C' U' AM' AD' AW' AP' lm' ld' lw' lp' ∧ light lm' ld' lw' lp' = true
  bl : Below w.heap.size w w'

set_option maxRecDepth 100000 in
set_option maxHeartbeats 1000000 in
theorem rfcApart_heavyx (F I E C U : Int) (AM AD AW AP : Option Addr) (cM cD cW cP : Nat) (lm ld : List Int) (lw : List (Int × Int)) (lp : List Int) (F' I' E' C' U' : Int) (AM' AD' AW' AP' : Option Addr) (cM' cD' cW' cP' : Nat) (lm' ld' : List Int) (lw' : List (Int × Int)) (lp' : List Int) (sm : Int) (w : World) (hT : Tabs w) (hX : XIn0 w F I E C U AM AD AW AP lm ld lw lp) (_ : XIn0 w F' I' E' C' U' AM' AD' AW' AP' lm' ld' lw' lp') (hlx : light lm ld lw lp = false) :
    Calls Tryz.prog 3 #[.agg #[.int .u8 F, .int .u8 I, .int .u8 E, .int .u16 C, .int .u32 U, .slice AM lm.length cM, .slice AD ld.length cD, .slice AW lw.length cW, .slice AP lp.length cP], .agg #[.int .u8 F', .int .u8 I', .int .u8 E', .int .u16 C', .int .u32 U', .slice AM' lm'.length cM', .slice AD' ld'.length cD', .slice AW' lw'.length cW', .slice AP' lp'.length cP'], .int .u8 sm] w fun e w' => e = .returned (.bool true) ∧ Below w.heap.size w w' := by
  refine calls_of_wp Tryz.func3 (show Tryz.f3.body = some apBody from rfl) ?_
  generalize hA : (Act.mk (#[.agg #[.int .u8 F, .int .u8 I, .int .u8 E, .int .u16 C, .int .u32 U, .slice AM lm.length cM, .slice AD ld.length cD, .slice AW lw.length cW, .slice AP lp.length cP], .agg #[.int .u8 F', .int .u8 I', .int .u8 E', .int .u16 C', .int .u32 U', .slice AM' lm'.length cM', .slice AD' ld'.length cD', .slice AW' lw'.length cW', .slice AP' lp'.length cP'], .int .u8 sm] ++ Array.replicate (Tryz.f3.ntmps - (#[.agg #[.int .u8 F, .int .u8 I, .int .u8 E, .int .u16 C, .int .u32 U, .slice AM lm.length cM, .slice AD ld.length cD, .slice AW lw.length cW, .slice AP lp.length cP], .agg #[.int .u8 F', .int .u8 I', .int .u8 E', .int .u16 C', .int .u32 U', .slice AM' lm'.length cM', .slice AD' ld'.length cD', .slice AW' lw'.length cW', .slice AP' lp'.length cP'], .int .u8 sm] : Array Value).size) undef) []) = a
  have hs : a.tmps.size = 42 := by rw [← hA]; simp [Tryz.ntmps3]
  have hd : a.defers = [] := by rw [← hA]
  have h0 : a.tmps.getD 0 undef = .agg #[.int .u8 F, .int .u8 I, .int .u8 E, .int .u16 C, .int .u32 U, .slice AM lm.length cM, .slice AD ld.length cD, .slice AW lw.length cW, .slice AP lp.length cP] := by rw [← hA]; simp
  have h1 : a.tmps.getD 1 undef = .agg #[.int .u8 F', .int .u8 I', .int .u8 E', .int .u16 C', .int .u32 U', .slice AM' lm'.length cM', .slice AD' ld'.length cD', .slice AW' lw'.length cW', .slice AP' lp'.length cP'] := by rw [← hA]; simp
  have h2 : a.tmps.getD 2 undef = .int .u8 sm := by rw [← hA]; simp
  clear hA
  refine Code.wp_mono NoPanic.imp ?_
  have hQ : Blind (NoPanic (bodyPost Tryz.prog Tryz.f3 fun e w' => e = .returned (.bool true) ∧ Below w.heap.size w w')) := fun _ _ _ _ q => q.elim
  have hfin : ∀ (a' : Act) (w' : World), a'.defers = [] → a'.tmps.getD 6 undef = .bool true → Below w.heap.size w w' → NoPanic (bodyPost Tryz.prog Tryz.f3 fun e w' => e = .returned (.bool true) ∧ Below w.heap.size w w') .ret a' w' := by
    intro a' w' k1 k2 k3
    exact ⟨k1, _, results_tmp rfl _ _ _, by rw [k2], k3⟩
  generalize NoPanic (bodyPost Tryz.prog Tryz.f3 fun e w' => e = .returned (.bool true) ∧ Below w.heap.size w w') = Q at hQ hfin
  unfold apBody
  conv => arg 2; whnf
  refine wp_seq ?_
  refine wp_region (show wpOps _ _ _ [0, 1, 2] _ _ from ?_)
  refine opL 0 3 (v := .pointer (some ⟨w.heap.size, 0, none⟩)) (w' := (w.alloc (.cells #[.int .u8 F, .int .u8 I, .int .u8 E, .int .u16 C, .int .u32 U, .slice AM lm.length cM, .slice AD ld.length cD, .slice AW lw.length cW, .slice AP lp.length cP] 29))) (by kernel_rfl) (frZ hs) ?_ ?_
  · exact frY rfl (k_box9 rfl (ev_tmp h0))
  refine frN2 hs hd h1 h2 ?_; clear hs hd h1 h2 h0; intro a hs hd h1 h2 h3
  obtain ⟨wx, hwx⟩ : ∃ wn, wn = w.alloc (.cells #[.int .u8 F, .int .u8 I, .int .u8 E, .int .u16 C, .int .u32 U, .slice AM lm.length cM, .slice AD ld.length cD, .slice AW lw.length cW, .slice AP lp.length cP] 29) := ⟨_, rfl⟩
  rw [← hwx]
  have qx : Blk wx w.heap.size 29 #[.int .u8 F, .int .u8 I, .int .u8 E, .int .u16 C, .int .u32 U, .slice AM lm.length cM, .slice AD ld.length cD, .slice AW lw.length cW, .slice AP lp.length cP] := by rw [hwx]; exact Blk.alloc _ _ _
  have lx : Below w.heap.size w wx := by rw [hwx]; exact (Below.refl _ _).alloc (Nat.le_refl _) _
  clear hwx
  refine opL 1 4 (v := .pointer (some ⟨wx.heap.size, 0, none⟩)) (w' := (wx.alloc (.cells #[.int .u8 F', .int .u8 I', .int .u8 E', .int .u16 C', .int .u32 U', .slice AM' lm'.length cM', .slice AD' ld'.length cD', .slice AW' lw'.length cW', .slice AP' lp'.length cP'] 29))) (by kernel_rfl) (frZ hs) ?_ ?_
  · exact frY rfl (k_box9 rfl (ev_tmp h1))
  refine frN2 hs hd h2 h3 ?_; clear hs hd h2 h3 h1; intro a hs hd h2 h3 h4
  obtain ⟨w1, hwy⟩ : ∃ wn, wn = wx.alloc (.cells #[.int .u8 F', .int .u8 I', .int .u8 E', .int .u16 C', .int .u32 U', .slice AM' lm'.length cM', .slice AD' ld'.length cD', .slice AW' lw'.length cW', .slice AP' lp'.length cP'] 29) := ⟨_, rfl⟩
  rw [← hwy]
  have qy : Blk w1 wx.heap.size 29 #[.int .u8 F', .int .u8 I', .int .u8 E', .int .u16 C', .int .u32 U', .slice AM' lm'.length cM', .slice AD' ld'.length cD', .slice AW' lw'.length cW', .slice AP' lp'.length cP'] := by rw [hwy]; exact Blk.alloc _ _ _
  have ly : Below wx.heap.size wx w1 := by rw [hwy]; exact (Below.refl _ _).alloc (Nat.le_refl _) _
  clear hwy
  have hx0 := qx.lt
  have B3 := qx.below ly qx.lt
  have B4 := qy
  have l1 := lx.trans (ly.mono lx.size)
  clear lx ly qx qy
  refine opL 2 6 (v := .bool false) (w' := w1) (by kernel_rfl) (frZ hs) ?_ ?_
  · exact frY rfl (k_assign rfl rfl)
  refine frN3 hs hd h2 h3 h4 ?_; clear hs hd h2 h3 h4; intro a hs hd h2 h3 h4 h6
  refine wp_seq ?_
  refine wp_seq ?_
  refine wp_region (show wpOps _ _ _ [0, 1] _ _ from ?_)
  have hc := awake3 w1 (hT.below l1)
  have hx := fun ops Q rest d a i h1 h2 h3 => opL_call (P := Tryz.prog) (ops := ops) (Q := Q) (a := a) (w := w1) (rest := rest) i d h1 h2 h3 hc
  refine hx _ _ _ 9 _ 0 ?z803a ?z803b ?z803 ?z804
  case z803a => kernel_rfl
  case z803b => (rw [hs]; decide)
  case z803 => exact frY rfl (c_Awk3 rfl rfl)
  case z804 =>
  rintro _ w2 a ⟨rfl, l2⟩ F0
  replace hs := F0.z.trans hs
  replace hd := F0.e.trans hd
  replace h2 := (F0.n 2 (by decide)).trans h2
  replace h3 := (F0.n 3 (by decide)).trans h3
  replace h4 := (F0.n 4 (by decide)).trans h4
  replace h6 := (F0.n 6 (by decide)).trans h6
  have h9 := F0.s
  clear F0
  clear hx hc
  replace B3 := B3.below l2 B3.lt
  replace B4 := B4.below l2 B4.lt
  have m2 := l1.trans (l2.mono l1.size)
  clear l1 l2
  refine opL 1 10 (v := .bool false) (w' := w2) (by kernel_rfl) (frZ hs) ?_ ?_
  · exact frY rfl (o_not rfl (ev_tmp h9) rfl)
  refine frN4 hs hd h2 h3 h4 h6 ?_; clear hs hd h2 h3 h4 h6 h9; intro a hs hd h2 h3 h4 h6 h10
  refine wp_cond_false (ev_tmp h10) ?_
  refine wp_skip ?_
  refine wp_seq ?_
  refine wp_seq ?_
  refine wp_region (show wpOps _ _ _ [0, 1, 2, 3, 4, 5, 6, 7] _ _ from ?_)
  refine opL 0 11 (v := .agg #[.int .u8 F, .int .u8 I, .int .u8 E, .int .u16 C, .int .u32 U, .slice AM lm.length cM, .slice AD ld.length cD, .slice AW lw.length cW, .slice AP lp.length cP]) (w' := w2) (by kernel_rfl) (frZ hs) ?_ ?_
  · exact frY rfl (k_load9 rfl (ev_tmp h3) B3)
  revert hs hd h2 h3 h4 h6 h10; refine frM5 ?_; intro a hs hd h2 h3 h4 h6 h10 h11
  refine opL_call 1 12 (f := 5) (args := #[.agg #[.int .u8 F, .int .u8 I, .int .u8 E, .int .u16 C, .int .u32 U, .slice AM lm.length cM, .slice AD ld.length cD, .slice AW lw.length cW, .slice AP lp.length cP]]) (R := fun v w' => v = .bool (light lm ld lw lp) ∧ Below w2.heap.size w2 w') (by kernel_rfl) (frZ hs) ?z809 (light_any _ _ _ _ _ AM AD AW AP cM cD cW cP lm ld lw lp w2 hX.lm1 hX.ld1 hX.lw1 hX.lp1) ?z810
  case z809 => exact frY rfl (c_Light rfl rfl (ev_tmp h11))
  case z810 =>
  rintro _ w3 a ⟨rfl, l3⟩ F0
  rw [hlx] at F0
  replace hs := F0.z.trans hs
  replace hd := F0.e.trans hd
  replace h2 := (F0.n 2 (by decide)).trans h2
  replace h3 := (F0.n 3 (by decide)).trans h3
  replace h4 := (F0.n 4 (by decide)).trans h4
  replace h6 := (F0.n 6 (by decide)).trans h6
  replace h10 := (F0.n 10 (by decide)).trans h10
  clear h11
  have h12 := F0.s
  clear F0
  replace B3 := B3.below l3 B3.lt
  replace B4 := B4.below l3 B4.lt
  have m3 := m2.trans (l3.mono m2.size)
  clear m2 l3
  refine opL 2 13 (v := .bool true) (w' := w3) (by kernel_rfl) (frZ hs) ?_ ?_
  · exact frY rfl (o_not rfl (ev_tmp h12) rfl)
  refine frN5 hs hd h2 h3 h4 h6 h10 ?_; clear hs hd h2 h3 h4 h6 h10 h12; intro a hs hd h2 h3 h4 h6 h10 h13
  refine opL 3 14 (v := .bool true) (w' := w3) (by kernel_rfl) (frZ hs) ?_ ?_
  · exact frY rfl (k_move rfl (ev_tmp h13))
  clear h13; revert hs hd h2 h3 h4 h6 h10; refine frM5 ?_; intro a hs hd h2 h3 h4 h6 h10 h14
  refine opL_not 4 15 (by kernel_rfl) (frZ hs) ?z815 ?z816
  case z815 => (intro o ho; obtain rfl := Option.some.inj ho; exact wanted_at (b := true) (want := false) rfl (by kernel_rfl) h14)
  case z816 =>
  refine frN6 hs hd h2 h3 h4 h6 h10 h14 ?_; clear hs hd h2 h3 h4 h6 h10 h14; intro a hs hd h2 h3 h4 h6 h10 h14 h15
  refine opL_not 5 16 (by kernel_rfl) (frZ hs) ?z817 ?z818
  case z817 => (intro o ho; obtain rfl := Option.some.inj ho; exact wanted_at (b := true) (want := false) rfl (by kernel_rfl) h14)
  case z818 =>
  refine frN6 hs hd h2 h3 h4 h6 h10 h14 ?_; clear hs hd h2 h3 h4 h6 h10 h14 h15; intro a hs hd h2 h3 h4 h6 h10 h14 h16
  refine opL_not 6 17 (by kernel_rfl) (frZ hs) ?z819 ?z820
  case z819 => (intro o ho; obtain rfl := Option.some.inj ho; exact wanted_at (b := true) (want := false) rfl (by kernel_rfl) h14)
  case z820 =>
  refine frN6 hs hd h2 h3 h4 h6 h10 h14 ?_; clear hs hd h2 h3 h4 h6 h10 h14 h16; intro a hs hd h2 h3 h4 h6 h10 h14 h17
  refine opL 7 18 (v := .bool true) (w' := w3) (by kernel_rfl) (frZ hs) ?_ ?_
  · exact frY rfl (k_pick_yes rfl (ev_tmp h14) rfl)
  clear h14 h17; revert hs hd h2 h3 h4 h6 h10; refine frM5 ?_; intro a hs hd h2 h3 h4 h6 h10 h18
  refine wp_cond_true (ev_tmp h18) ?_
  refine wp_seq ?_
  refine wp_region (show wpOps _ _ _ [0] _ _ from ?_)
  refine opL 0 6 (v := .bool true) (w' := w3) (by kernel_rfl) (frZ hs) ?_ ?_
  · exact frY rfl (k_assign rfl rfl)
  clear h6; revert hs hd h2 h3 h4 h10 h18; refine frM5 ?_; intro a hs hd h2 h3 h4 h10 h18 h6
  refine wp_ret ?_
  exact hfin a _ hd h6 m3

set_option maxRecDepth 100000 in
set_option maxHeartbeats 1000000 in
theorem rfcApart_heavyy (F I E C U : Int) (AM AD AW AP : Option Addr) (cM cD cW cP : Nat) (lm ld : List Int) (lw : List (Int × Int)) (lp : List Int) (F' I' E' C' U' : Int) (AM' AD' AW' AP' : Option Addr) (cM' cD' cW' cP' : Nat) (lm' ld' : List Int) (lw' : List (Int × Int)) (lp' : List Int) (sm : Int) (w : World) (hT : Tabs w) (hX : XIn0 w F I E C U AM AD AW AP lm ld lw lp) (hY : XIn0 w F' I' E' C' U' AM' AD' AW' AP' lm' ld' lw' lp') (hlx : light lm ld lw lp = true) (hly : light lm' ld' lw' lp' = false) :
    Calls Tryz.prog 3 #[.agg #[.int .u8 F, .int .u8 I, .int .u8 E, .int .u16 C, .int .u32 U, .slice AM lm.length cM, .slice AD ld.length cD, .slice AW lw.length cW, .slice AP lp.length cP], .agg #[.int .u8 F', .int .u8 I', .int .u8 E', .int .u16 C', .int .u32 U', .slice AM' lm'.length cM', .slice AD' ld'.length cD', .slice AW' lw'.length cW', .slice AP' lp'.length cP'], .int .u8 sm] w fun e w' => e = .returned (.bool true) ∧ Below w.heap.size w w' := by
  refine calls_of_wp Tryz.func3 (show Tryz.f3.body = some apBody from rfl) ?_
  generalize hA : (Act.mk (#[.agg #[.int .u8 F, .int .u8 I, .int .u8 E, .int .u16 C, .int .u32 U, .slice AM lm.length cM, .slice AD ld.length cD, .slice AW lw.length cW, .slice AP lp.length cP], .agg #[.int .u8 F', .int .u8 I', .int .u8 E', .int .u16 C', .int .u32 U', .slice AM' lm'.length cM', .slice AD' ld'.length cD', .slice AW' lw'.length cW', .slice AP' lp'.length cP'], .int .u8 sm] ++ Array.replicate (Tryz.f3.ntmps - (#[.agg #[.int .u8 F, .int .u8 I, .int .u8 E, .int .u16 C, .int .u32 U, .slice AM lm.length cM, .slice AD ld.length cD, .slice AW lw.length cW, .slice AP lp.length cP], .agg #[.int .u8 F', .int .u8 I', .int .u8 E', .int .u16 C', .int .u32 U', .slice AM' lm'.length cM', .slice AD' ld'.length cD', .slice AW' lw'.length cW', .slice AP' lp'.length cP'], .int .u8 sm] : Array Value).size) undef) []) = a
  have hs : a.tmps.size = 42 := by rw [← hA]; simp [Tryz.ntmps3]
  have hd : a.defers = [] := by rw [← hA]
  have h0 : a.tmps.getD 0 undef = .agg #[.int .u8 F, .int .u8 I, .int .u8 E, .int .u16 C, .int .u32 U, .slice AM lm.length cM, .slice AD ld.length cD, .slice AW lw.length cW, .slice AP lp.length cP] := by rw [← hA]; simp
  have h1 : a.tmps.getD 1 undef = .agg #[.int .u8 F', .int .u8 I', .int .u8 E', .int .u16 C', .int .u32 U', .slice AM' lm'.length cM', .slice AD' ld'.length cD', .slice AW' lw'.length cW', .slice AP' lp'.length cP'] := by rw [← hA]; simp
  have h2 : a.tmps.getD 2 undef = .int .u8 sm := by rw [← hA]; simp
  clear hA
  refine Code.wp_mono NoPanic.imp ?_
  have hQ : Blind (NoPanic (bodyPost Tryz.prog Tryz.f3 fun e w' => e = .returned (.bool true) ∧ Below w.heap.size w w')) := fun _ _ _ _ q => q.elim
  have hfin : ∀ (a' : Act) (w' : World), a'.defers = [] → a'.tmps.getD 6 undef = .bool true → Below w.heap.size w w' → NoPanic (bodyPost Tryz.prog Tryz.f3 fun e w' => e = .returned (.bool true) ∧ Below w.heap.size w w') .ret a' w' := by
    intro a' w' k1 k2 k3
    exact ⟨k1, _, results_tmp rfl _ _ _, by rw [k2], k3⟩
  generalize NoPanic (bodyPost Tryz.prog Tryz.f3 fun e w' => e = .returned (.bool true) ∧ Below w.heap.size w w') = Q at hQ hfin
  unfold apBody
  conv => arg 2; whnf
  refine wp_seq ?_
  refine wp_region (show wpOps _ _ _ [0, 1, 2] _ _ from ?_)
  refine opL 0 3 (v := .pointer (some ⟨w.heap.size, 0, none⟩)) (w' := (w.alloc (.cells #[.int .u8 F, .int .u8 I, .int .u8 E, .int .u16 C, .int .u32 U, .slice AM lm.length cM, .slice AD ld.length cD, .slice AW lw.length cW, .slice AP lp.length cP] 29))) (by kernel_rfl) (frZ hs) ?_ ?_
  · exact frY rfl (k_box9 rfl (ev_tmp h0))
  refine frN2 hs hd h1 h2 ?_; clear hs hd h1 h2 h0; intro a hs hd h1 h2 h3
  obtain ⟨wx, hwx⟩ : ∃ wn, wn = w.alloc (.cells #[.int .u8 F, .int .u8 I, .int .u8 E, .int .u16 C, .int .u32 U, .slice AM lm.length cM, .slice AD ld.length cD, .slice AW lw.length cW, .slice AP lp.length cP] 29) := ⟨_, rfl⟩
  rw [← hwx]
  have qx : Blk wx w.heap.size 29 #[.int .u8 F, .int .u8 I, .int .u8 E, .int .u16 C, .int .u32 U, .slice AM lm.length cM, .slice AD ld.length cD, .slice AW lw.length cW, .slice AP lp.length cP] := by rw [hwx]; exact Blk.alloc _ _ _
  have lx : Below w.heap.size w wx := by rw [hwx]; exact (Below.refl _ _).alloc (Nat.le_refl _) _
  clear hwx
  refine opL 1 4 (v := .pointer (some ⟨wx.heap.size, 0, none⟩)) (w' := (wx.alloc (.cells #[.int .u8 F', .int .u8 I', .int .u8 E', .int .u16 C', .int .u32 U', .slice AM' lm'.length cM', .slice AD' ld'.length cD', .slice AW' lw'.length cW', .slice AP' lp'.length cP'] 29))) (by kernel_rfl) (frZ hs) ?_ ?_
  · exact frY rfl (k_box9 rfl (ev_tmp h1))
  refine frN2 hs hd h2 h3 ?_; clear hs hd h2 h3 h1; intro a hs hd h2 h3 h4
  obtain ⟨w1, hwy⟩ : ∃ wn, wn = wx.alloc (.cells #[.int .u8 F', .int .u8 I', .int .u8 E', .int .u16 C', .int .u32 U', .slice AM' lm'.length cM', .slice AD' ld'.length cD', .slice AW' lw'.length cW', .slice AP' lp'.length cP'] 29) := ⟨_, rfl⟩
  rw [← hwy]
  have qy : Blk w1 wx.heap.size 29 #[.int .u8 F', .int .u8 I', .int .u8 E', .int .u16 C', .int .u32 U', .slice AM' lm'.length cM', .slice AD' ld'.length cD', .slice AW' lw'.length cW', .slice AP' lp'.length cP'] := by rw [hwy]; exact Blk.alloc _ _ _
  have ly : Below wx.heap.size wx w1 := by rw [hwy]; exact (Below.refl _ _).alloc (Nat.le_refl _) _
  clear hwy
  have hx0 := qx.lt
  have B3 := qx.below ly qx.lt
  have B4 := qy
  have l1 := lx.trans (ly.mono lx.size)
  clear lx ly qx qy
  refine opL 2 6 (v := .bool false) (w' := w1) (by kernel_rfl) (frZ hs) ?_ ?_
  · exact frY rfl (k_assign rfl rfl)
  refine frN3 hs hd h2 h3 h4 ?_; clear hs hd h2 h3 h4; intro a hs hd h2 h3 h4 h6
  refine wp_seq ?_
  refine wp_seq ?_
  refine wp_region (show wpOps _ _ _ [0, 1] _ _ from ?_)
  have hc := awake3 w1 (hT.below l1)
  have hx := fun ops Q rest d a i h1 h2 h3 => opL_call (P := Tryz.prog) (ops := ops) (Q := Q) (a := a) (w := w1) (rest := rest) i d h1 h2 h3 hc
  refine hx _ _ _ 9 _ 0 ?z831a ?z831b ?z831 ?z832
  case z831a => kernel_rfl
  case z831b => (rw [hs]; decide)
  case z831 => exact frY rfl (c_Awk3 rfl rfl)
  case z832 =>
  rintro _ w2 a ⟨rfl, l2⟩ F0
  replace hs := F0.z.trans hs
  replace hd := F0.e.trans hd
  replace h2 := (F0.n 2 (by decide)).trans h2
  replace h3 := (F0.n 3 (by decide)).trans h3
  replace h4 := (F0.n 4 (by decide)).trans h4
  replace h6 := (F0.n 6 (by decide)).trans h6
  have h9 := F0.s
  clear F0
  clear hx hc
  replace B3 := B3.below l2 B3.lt
  replace B4 := B4.below l2 B4.lt
  have m2 := l1.trans (l2.mono l1.size)
  clear l1 l2
  refine opL 1 10 (v := .bool false) (w' := w2) (by kernel_rfl) (frZ hs) ?_ ?_
  · exact frY rfl (o_not rfl (ev_tmp h9) rfl)
  refine frN4 hs hd h2 h3 h4 h6 ?_; clear hs hd h2 h3 h4 h6 h9; intro a hs hd h2 h3 h4 h6 h10
  refine wp_cond_false (ev_tmp h10) ?_
  refine wp_skip ?_
  refine wp_seq ?_
  refine wp_seq ?_
  refine wp_region (show wpOps _ _ _ [0, 1, 2, 3, 4, 5, 6, 7] _ _ from ?_)
  refine opL 0 11 (v := .agg #[.int .u8 F, .int .u8 I, .int .u8 E, .int .u16 C, .int .u32 U, .slice AM lm.length cM, .slice AD ld.length cD, .slice AW lw.length cW, .slice AP lp.length cP]) (w' := w2) (by kernel_rfl) (frZ hs) ?_ ?_
  · exact frY rfl (k_load9 rfl (ev_tmp h3) B3)
  revert hs hd h2 h3 h4 h6 h10; refine frM5 ?_; intro a hs hd h2 h3 h4 h6 h10 h11
  refine opL_call 1 12 (f := 5) (args := #[.agg #[.int .u8 F, .int .u8 I, .int .u8 E, .int .u16 C, .int .u32 U, .slice AM lm.length cM, .slice AD ld.length cD, .slice AW lw.length cW, .slice AP lp.length cP]]) (R := fun v w' => v = .bool (light lm ld lw lp) ∧ Below w2.heap.size w2 w') (by kernel_rfl) (frZ hs) ?z837 (light_any _ _ _ _ _ AM AD AW AP cM cD cW cP lm ld lw lp w2 hX.lm1 hX.ld1 hX.lw1 hX.lp1) ?z838
  case z837 => exact frY rfl (c_Light rfl rfl (ev_tmp h11))
  case z838 =>
  rintro _ w3 a ⟨rfl, l3⟩ F0
  rw [hlx] at F0
  replace hs := F0.z.trans hs
  replace hd := F0.e.trans hd
  replace h2 := (F0.n 2 (by decide)).trans h2
  replace h3 := (F0.n 3 (by decide)).trans h3
  replace h4 := (F0.n 4 (by decide)).trans h4
  replace h6 := (F0.n 6 (by decide)).trans h6
  replace h10 := (F0.n 10 (by decide)).trans h10
  clear h11
  have h12 := F0.s
  clear F0
  replace B3 := B3.below l3 B3.lt
  replace B4 := B4.below l3 B4.lt
  have m3 := m2.trans (l3.mono m2.size)
  clear m2 l3
  refine opL 2 13 (v := .bool false) (w' := w3) (by kernel_rfl) (frZ hs) ?_ ?_
  · exact frY rfl (o_not rfl (ev_tmp h12) rfl)
  refine frN5 hs hd h2 h3 h4 h6 h10 ?_; clear hs hd h2 h3 h4 h6 h10 h12; intro a hs hd h2 h3 h4 h6 h10 h13
  refine opL 3 14 (v := .bool false) (w' := w3) (by kernel_rfl) (frZ hs) ?_ ?_
  · exact frY rfl (k_move rfl (ev_tmp h13))
  clear h13; revert hs hd h2 h3 h4 h6 h10; refine frM5 ?_; intro a hs hd h2 h3 h4 h6 h10 h14
  refine opL 4 15 (v := .agg #[.int .u8 F', .int .u8 I', .int .u8 E', .int .u16 C', .int .u32 U', .slice AM' lm'.length cM', .slice AD' ld'.length cD', .slice AW' lw'.length cW', .slice AP' lp'.length cP']) (w' := w3) (by kernel_rfl) (frZ hs) ?z843 ?z844
  case z843 => (intro o ho; obtain rfl := Option.some.inj ho; exact ⟨wanted_at (b := false) (want := false) rfl (by kernel_rfl) h14, k_load9 rfl (ev_tmp h4) B4⟩)
  case z844 =>
  refine frN6 hs hd h2 h3 h4 h6 h10 h14 ?_; clear hs hd h2 h3 h4 h6 h10 h14; intro a hs hd h2 h3 h4 h6 h10 h14 h15
  refine opL_call 5 16 (f := 5) (args := #[.agg #[.int .u8 F', .int .u8 I', .int .u8 E', .int .u16 C', .int .u32 U', .slice AM' lm'.length cM', .slice AD' ld'.length cD', .slice AW' lw'.length cW', .slice AP' lp'.length cP']]) (R := fun v w' => v = .bool (light lm' ld' lw' lp') ∧ Below w3.heap.size w3 w') (by kernel_rfl) (frZ hs) ?z845 (light_any _ _ _ _ _ AM' AD' AW' AP' cM' cD' cW' cP' lm' ld' lw' lp' w3 hY.lm1 hY.ld1 hY.lw1 hY.lp1) ?z846
  case z845 => (intro o ho; obtain rfl := Option.some.inj ho; exact ⟨wanted_at (b := false) (want := false) rfl (by kernel_rfl) h14, c_Light rfl rfl (ev_tmp h15)⟩)
  case z846 =>
  rintro _ w4 a ⟨rfl, l4⟩ F0
  rw [hly] at F0
  replace hs := F0.z.trans hs
  replace hd := F0.e.trans hd
  replace h2 := (F0.n 2 (by decide)).trans h2
  replace h3 := (F0.n 3 (by decide)).trans h3
  replace h4 := (F0.n 4 (by decide)).trans h4
  replace h6 := (F0.n 6 (by decide)).trans h6
  replace h10 := (F0.n 10 (by decide)).trans h10
  replace h14 := (F0.n 14 (by decide)).trans h14
  clear h15
  have h16 := F0.s
  clear F0
  replace B3 := B3.below l4 B3.lt
  replace B4 := B4.below l4 B4.lt
  have m4 := m3.trans (l4.mono m3.size)
  clear m3 l4
  refine opL 6 17 (v := .bool true) (w' := w4) (by kernel_rfl) (frZ hs) ?z847 ?z848
  case z847 => (intro o ho; obtain rfl := Option.some.inj ho; exact ⟨wanted_at (b := false) (want := false) rfl (by kernel_rfl) h14, o_not rfl (ev_tmp h16) rfl⟩)
  case z848 =>
  refine frN6 hs hd h2 h3 h4 h6 h10 h14 ?_; clear hs hd h2 h3 h4 h6 h10 h14 h16; intro a hs hd h2 h3 h4 h6 h10 h14 h17
  refine opL 7 18 (v := .bool true) (w' := w4) (by kernel_rfl) (frZ hs) ?_ ?_
  · exact frY rfl (k_pick_no rfl (ev_tmp h14) (ev_tmp h17))
  clear h14 h17; revert hs hd h2 h3 h4 h6 h10; refine frM5 ?_; intro a hs hd h2 h3 h4 h6 h10 h18
  refine wp_cond_true (ev_tmp h18) ?_
  refine wp_seq ?_
  refine wp_region (show wpOps _ _ _ [0] _ _ from ?_)
  refine opL 0 6 (v := .bool true) (w' := w4) (by kernel_rfl) (frZ hs) ?_ ?_
  · exact frY rfl (k_assign rfl rfl)
  clear h6; revert hs hd h2 h3 h4 h10 h18; refine frM5 ?_; intro a hs hd h2 h3 h4 h10 h18 h6
  refine wp_ret ?_
  exact hfin a _ hd h6 m4

set_option maxRecDepth 100000 in
set_option maxHeartbeats 2000000 in
theorem rfcApart_light (F I E C U : Int) (AM AD AW AP : Option Addr) (cM cD cW cP : Nat) (lm ld : List Int) (lw : List (Int × Int)) (lp : List Int) (F' I' E' C' U' : Int) (AM' AD' AW' AP' : Option Addr) (cM' cD' cW' cP' : Nat) (lm' ld' : List Int) (lw' : List (Int × Int)) (lp' : List Int) (sm : Int) (w : World) (hT : Tabs w) (hX : XIn0 w F I E C U AM AD AW AP lm ld lw lp) (hY : XIn0 w F' I' E' C' U' AM' AD' AW' AP' lm' ld' lw' lp') (hlx : light lm ld lw lp = true) (hly : light lm' ld' lw' lp' = true) :
    Calls Tryz.prog 3 #[.agg #[.int .u8 F, .int .u8 I, .int .u8 E, .int .u16 C, .int .u32 U, .slice AM lm.length cM, .slice AD ld.length cD, .slice AW lw.length cW, .slice AP lp.length cP], .agg #[.int .u8 F', .int .u8 I', .int .u8 E', .int .u16 C', .int .u32 U', .slice AM' lm'.length cM', .slice AD' ld'.length cD', .slice AW' lw'.length cW', .slice AP' lp'.length cP'], .int .u8 sm] w fun e w' => e = .returned (.bool true) ∧ Below w.heap.size w w' := by
  refine calls_of_wp Tryz.func3 (show Tryz.f3.body = some apBody from rfl) ?_
  generalize hA : (Act.mk (#[.agg #[.int .u8 F, .int .u8 I, .int .u8 E, .int .u16 C, .int .u32 U, .slice AM lm.length cM, .slice AD ld.length cD, .slice AW lw.length cW, .slice AP lp.length cP], .agg #[.int .u8 F', .int .u8 I', .int .u8 E', .int .u16 C', .int .u32 U', .slice AM' lm'.length cM', .slice AD' ld'.length cD', .slice AW' lw'.length cW', .slice AP' lp'.length cP'], .int .u8 sm] ++ Array.replicate (Tryz.f3.ntmps - (#[.agg #[.int .u8 F, .int .u8 I, .int .u8 E, .int .u16 C, .int .u32 U, .slice AM lm.length cM, .slice AD ld.length cD, .slice AW lw.length cW, .slice AP lp.length cP], .agg #[.int .u8 F', .int .u8 I', .int .u8 E', .int .u16 C', .int .u32 U', .slice AM' lm'.length cM', .slice AD' ld'.length cD', .slice AW' lw'.length cW', .slice AP' lp'.length cP'], .int .u8 sm] : Array Value).size) undef) []) = a
  have hs : a.tmps.size = 42 := by rw [← hA]; simp [Tryz.ntmps3]
  have hd : a.defers = [] := by rw [← hA]
  have h0 : a.tmps.getD 0 undef = .agg #[.int .u8 F, .int .u8 I, .int .u8 E, .int .u16 C, .int .u32 U, .slice AM lm.length cM, .slice AD ld.length cD, .slice AW lw.length cW, .slice AP lp.length cP] := by rw [← hA]; simp
  have h1 : a.tmps.getD 1 undef = .agg #[.int .u8 F', .int .u8 I', .int .u8 E', .int .u16 C', .int .u32 U', .slice AM' lm'.length cM', .slice AD' ld'.length cD', .slice AW' lw'.length cW', .slice AP' lp'.length cP'] := by rw [← hA]; simp
  have h2 : a.tmps.getD 2 undef = .int .u8 sm := by rw [← hA]; simp
  clear hA
  refine Code.wp_mono NoPanic.imp ?_
  have hQ : Blind (NoPanic (bodyPost Tryz.prog Tryz.f3 fun e w' => e = .returned (.bool true) ∧ Below w.heap.size w w')) := fun _ _ _ _ q => q.elim
  have hfin : ∀ (a' : Act) (w' : World), a'.defers = [] → a'.tmps.getD 6 undef = .bool true → Below w.heap.size w w' → NoPanic (bodyPost Tryz.prog Tryz.f3 fun e w' => e = .returned (.bool true) ∧ Below w.heap.size w w') .ret a' w' := by
    intro a' w' k1 k2 k3
    exact ⟨k1, _, results_tmp rfl _ _ _, by rw [k2], k3⟩
  generalize NoPanic (bodyPost Tryz.prog Tryz.f3 fun e w' => e = .returned (.bool true) ∧ Below w.heap.size w w') = Q at hQ hfin
  unfold apBody
  conv => arg 2; whnf
  refine wp_seq ?_
  refine wp_region (show wpOps _ _ _ [0, 1, 2] _ _ from ?_)
  refine opL 0 3 (v := .pointer (some ⟨w.heap.size, 0, none⟩)) (w' := (w.alloc (.cells #[.int .u8 F, .int .u8 I, .int .u8 E, .int .u16 C, .int .u32 U, .slice AM lm.length cM, .slice AD ld.length cD, .slice AW lw.length cW, .slice AP lp.length cP] 29))) (by kernel_rfl) (frZ hs) ?_ ?_
  · exact frY rfl (k_box9 rfl (ev_tmp h0))
  refine frN2 hs hd h1 h2 ?_; clear hs hd h1 h2 h0; intro a hs hd h1 h2 h3
  obtain ⟨wx, hwx⟩ : ∃ wn, wn = w.alloc (.cells #[.int .u8 F, .int .u8 I, .int .u8 E, .int .u16 C, .int .u32 U, .slice AM lm.length cM, .slice AD ld.length cD, .slice AW lw.length cW, .slice AP lp.length cP] 29) := ⟨_, rfl⟩
  rw [← hwx]
  have qx : Blk wx w.heap.size 29 #[.int .u8 F, .int .u8 I, .int .u8 E, .int .u16 C, .int .u32 U, .slice AM lm.length cM, .slice AD ld.length cD, .slice AW lw.length cW, .slice AP lp.length cP] := by rw [hwx]; exact Blk.alloc _ _ _
  have lx : Below w.heap.size w wx := by rw [hwx]; exact (Below.refl _ _).alloc (Nat.le_refl _) _
  clear hwx
  refine opL 1 4 (v := .pointer (some ⟨wx.heap.size, 0, none⟩)) (w' := (wx.alloc (.cells #[.int .u8 F', .int .u8 I', .int .u8 E', .int .u16 C', .int .u32 U', .slice AM' lm'.length cM', .slice AD' ld'.length cD', .slice AW' lw'.length cW', .slice AP' lp'.length cP'] 29))) (by kernel_rfl) (frZ hs) ?_ ?_
  · exact frY rfl (k_box9 rfl (ev_tmp h1))
  refine frN2 hs hd h2 h3 ?_; clear hs hd h2 h3 h1; intro a hs hd h2 h3 h4
  obtain ⟨w1, hwy⟩ : ∃ wn, wn = wx.alloc (.cells #[.int .u8 F', .int .u8 I', .int .u8 E', .int .u16 C', .int .u32 U', .slice AM' lm'.length cM', .slice AD' ld'.length cD', .slice AW' lw'.length cW', .slice AP' lp'.length cP'] 29) := ⟨_, rfl⟩
  rw [← hwy]
  have qy : Blk w1 wx.heap.size 29 #[.int .u8 F', .int .u8 I', .int .u8 E', .int .u16 C', .int .u32 U', .slice AM' lm'.length cM', .slice AD' ld'.length cD', .slice AW' lw'.length cW', .slice AP' lp'.length cP'] := by rw [hwy]; exact Blk.alloc _ _ _
  have ly : Below wx.heap.size wx w1 := by rw [hwy]; exact (Below.refl _ _).alloc (Nat.le_refl _) _
  clear hwy
  have hx0 := qx.lt
  have B3 := qx.below ly qx.lt
  have B4 := qy
  have l1 := lx.trans (ly.mono lx.size)
  clear lx ly qx qy
  refine opL 2 6 (v := .bool false) (w' := w1) (by kernel_rfl) (frZ hs) ?_ ?_
  · exact frY rfl (k_assign rfl rfl)
  refine frN3 hs hd h2 h3 h4 ?_; clear hs hd h2 h3 h4; intro a hs hd h2 h3 h4 h6
  refine wp_seq ?_
  refine wp_seq ?_
  refine wp_region (show wpOps _ _ _ [0, 1] _ _ from ?_)
  have hc := awake3 w1 (hT.below l1)
  have hx := fun ops Q rest d a i h1 h2 h3 => opL_call (P := Tryz.prog) (ops := ops) (Q := Q) (a := a) (w := w1) (rest := rest) i d h1 h2 h3 hc
  refine hx _ _ _ 9 _ 0 ?z859a ?z859b ?z859 ?z860
  case z859a => kernel_rfl
  case z859b => (rw [hs]; decide)
  case z859 => exact frY rfl (c_Awk3 rfl rfl)
  case z860 =>
  rintro _ w2 a ⟨rfl, l2⟩ F0
  replace hs := F0.z.trans hs
  replace hd := F0.e.trans hd
  replace h2 := (F0.n 2 (by decide)).trans h2
  replace h3 := (F0.n 3 (by decide)).trans h3
  replace h4 := (F0.n 4 (by decide)).trans h4
  replace h6 := (F0.n 6 (by decide)).trans h6
  have h9 := F0.s
  clear F0
  clear hx hc
  replace B3 := B3.below l2 B3.lt
  replace B4 := B4.below l2 B4.lt
  have m2 := l1.trans (l2.mono l1.size)
  clear l1 l2
  refine opL 1 10 (v := .bool false) (w' := w2) (by kernel_rfl) (frZ hs) ?_ ?_
  · exact frY rfl (o_not rfl (ev_tmp h9) rfl)
  refine frN4 hs hd h2 h3 h4 h6 ?_; clear hs hd h2 h3 h4 h6 h9; intro a hs hd h2 h3 h4 h6 h10
  refine wp_cond_false (ev_tmp h10) ?_
  refine wp_skip ?_
  refine wp_seq ?_
  refine wp_seq ?_
  refine wp_region (show wpOps _ _ _ [0, 1, 2, 3, 4, 5, 6, 7] _ _ from ?_)
  refine opL 0 11 (v := .agg #[.int .u8 F, .int .u8 I, .int .u8 E, .int .u16 C, .int .u32 U, .slice AM lm.length cM, .slice AD ld.length cD, .slice AW lw.length cW, .slice AP lp.length cP]) (w' := w2) (by kernel_rfl) (frZ hs) ?_ ?_
  · exact frY rfl (k_load9 rfl (ev_tmp h3) B3)
  revert hs hd h2 h3 h4 h6 h10; refine frM5 ?_; intro a hs hd h2 h3 h4 h6 h10 h11
  refine opL_call 1 12 (f := 5) (args := #[.agg #[.int .u8 F, .int .u8 I, .int .u8 E, .int .u16 C, .int .u32 U, .slice AM lm.length cM, .slice AD ld.length cD, .slice AW lw.length cW, .slice AP lp.length cP]]) (R := fun v w' => v = .bool (light lm ld lw lp) ∧ Below w2.heap.size w2 w') (by kernel_rfl) (frZ hs) ?z865 (light_any _ _ _ _ _ AM AD AW AP cM cD cW cP lm ld lw lp w2 hX.lm1 hX.ld1 hX.lw1 hX.lp1) ?z866
  case z865 => exact frY rfl (c_Light rfl rfl (ev_tmp h11))
  case z866 =>
  rintro _ w3 a ⟨rfl, l3⟩ F0
  rw [hlx] at F0
  replace hs := F0.z.trans hs
  replace hd := F0.e.trans hd
  replace h2 := (F0.n 2 (by decide)).trans h2
  replace h3 := (F0.n 3 (by decide)).trans h3
  replace h4 := (F0.n 4 (by decide)).trans h4
  replace h6 := (F0.n 6 (by decide)).trans h6
  replace h10 := (F0.n 10 (by decide)).trans h10
  clear h11
  have h12 := F0.s
  clear F0
  replace B3 := B3.below l3 B3.lt
  replace B4 := B4.below l3 B4.lt
  have m3 := m2.trans (l3.mono m2.size)
  clear m2 l3
  refine opL 2 13 (v := .bool false) (w' := w3) (by kernel_rfl) (frZ hs) ?_ ?_
  · exact frY rfl (o_not rfl (ev_tmp h12) rfl)
  refine frN5 hs hd h2 h3 h4 h6 h10 ?_; clear hs hd h2 h3 h4 h6 h10 h12; intro a hs hd h2 h3 h4 h6 h10 h13
  refine opL 3 14 (v := .bool false) (w' := w3) (by kernel_rfl) (frZ hs) ?_ ?_
  · exact frY rfl (k_move rfl (ev_tmp h13))
  clear h13; revert hs hd h2 h3 h4 h6 h10; refine frM5 ?_; intro a hs hd h2 h3 h4 h6 h10 h14
  refine opL 4 15 (v := .agg #[.int .u8 F', .int .u8 I', .int .u8 E', .int .u16 C', .int .u32 U', .slice AM' lm'.length cM', .slice AD' ld'.length cD', .slice AW' lw'.length cW', .slice AP' lp'.length cP']) (w' := w3) (by kernel_rfl) (frZ hs) ?z871 ?z872
  case z871 => (intro o ho; obtain rfl := Option.some.inj ho; exact ⟨wanted_at (b := false) (want := false) rfl (by kernel_rfl) h14, k_load9 rfl (ev_tmp h4) B4⟩)
  case z872 =>
  refine frN6 hs hd h2 h3 h4 h6 h10 h14 ?_; clear hs hd h2 h3 h4 h6 h10 h14; intro a hs hd h2 h3 h4 h6 h10 h14 h15
  refine opL_call 5 16 (f := 5) (args := #[.agg #[.int .u8 F', .int .u8 I', .int .u8 E', .int .u16 C', .int .u32 U', .slice AM' lm'.length cM', .slice AD' ld'.length cD', .slice AW' lw'.length cW', .slice AP' lp'.length cP']]) (R := fun v w' => v = .bool (light lm' ld' lw' lp') ∧ Below w3.heap.size w3 w') (by kernel_rfl) (frZ hs) ?z873 (light_any _ _ _ _ _ AM' AD' AW' AP' cM' cD' cW' cP' lm' ld' lw' lp' w3 hY.lm1 hY.ld1 hY.lw1 hY.lp1) ?z874
  case z873 => (intro o ho; obtain rfl := Option.some.inj ho; exact ⟨wanted_at (b := false) (want := false) rfl (by kernel_rfl) h14, c_Light rfl rfl (ev_tmp h15)⟩)
  case z874 =>
  rintro _ w4 a ⟨rfl, l4⟩ F0
  rw [hly] at F0
  replace hs := F0.z.trans hs
  replace hd := F0.e.trans hd
  replace h2 := (F0.n 2 (by decide)).trans h2
  replace h3 := (F0.n 3 (by decide)).trans h3
  replace h4 := (F0.n 4 (by decide)).trans h4
  replace h6 := (F0.n 6 (by decide)).trans h6
  replace h10 := (F0.n 10 (by decide)).trans h10
  replace h14 := (F0.n 14 (by decide)).trans h14
  clear h15
  have h16 := F0.s
  clear F0
  replace B3 := B3.below l4 B3.lt
  replace B4 := B4.below l4 B4.lt
  have m4 := m3.trans (l4.mono m3.size)
  clear m3 l4
  refine opL 6 17 (v := .bool false) (w' := w4) (by kernel_rfl) (frZ hs) ?z875 ?z876
  case z875 => (intro o ho; obtain rfl := Option.some.inj ho; exact ⟨wanted_at (b := false) (want := false) rfl (by kernel_rfl) h14, o_not rfl (ev_tmp h16) rfl⟩)
  case z876 =>
  refine frN6 hs hd h2 h3 h4 h6 h10 h14 ?_; clear hs hd h2 h3 h4 h6 h10 h14 h16; intro a hs hd h2 h3 h4 h6 h10 h14 h17
  refine opL 7 18 (v := .bool false) (w' := w4) (by kernel_rfl) (frZ hs) ?_ ?_
  · exact frY rfl (k_pick_no rfl (ev_tmp h14) (ev_tmp h17))
  clear h14 h17; revert hs hd h2 h3 h4 h6 h10; refine frM5 ?_; intro a hs hd h2 h3 h4 h6 h10 h18
  refine wp_cond_false (ev_tmp h18) ?_
  refine wp_skip ?_
  refine wp_seq ?_
  refine wp_seq ?_
  refine wp_region (show wpOps _ _ _ [0, 1, 2] _ _ from ?_)
  refine opL 0 19 (v := .int .u8 sm) (w' := w4) (by kernel_rfl) (frZ hs) ?_ ?_
  · exact frY rfl (k_move rfl (ev_tmp h2))
  revert hs hd h2 h3 h4 h6 h10 h18; refine frM6 ?_; intro a hs hd h2 h3 h4 h6 h10 h18 h19
  refine opL 1 20 (v := .int .u8 (sm.tmod 4)) (w' := w4) (by kernel_rfl) (frZ hs) ?_ ?_
  · exact frY rfl (o_remB rfl (ev_tmp h19) rfl (by decide) rfl)
  clear h19; revert hs hd h2 h3 h4 h6 h10 h18; refine frM6 ?_; intro a hs hd h2 h3 h4 h6 h10 h18 h20
  refine opL 2 21 (v := .bool (decide (0 < sm.tmod 4))) (w' := w4) (by kernel_rfl) (frZ hs) ?_ ?_
  · exact frY rfl (o_gtB rfl (ev_tmp h20) rfl rfl)
  clear h20; revert hs hd h2 h3 h4 h6 h10 h18; refine frM6 ?_; intro a hs hd h2 h3 h4 h6 h10 h18 h21
  refine cut_at (ApS w #[.int .u8 F, .int .u8 I, .int .u8 E, .int .u16 C, .int .u32 U, .slice AM lm.length cM, .slice AD ld.length cD, .slice AW lw.length cW, .slice AP lp.length cP] w.heap.size wx.heap.size) ?z885 ?z886
  case z885 =>
    cases g1 : decide (0 < sm.tmod 4)
    case false =>
      rw [g1] at h21
      refine wp_cond_false (ev_tmp h21) ?_
      refine wp_skip ?_
      exact ⟨hd, hs, h3, h4, B3, ⟨F', I', E', C', U', AM', AD', AW', AP', cM', cD', cW', cP', lm', ld', lw', lp', B4, hY, hly⟩, m4⟩
    case true =>
      rw [g1] at h21
      refine wp_cond_true (ev_tmp h21) ?_
      refine wp_seq ?_
      refine wp_region (show wpOps _ _ _ [0, 1] _ _ from ?_)
      refine opL 0 22 (v := .agg #[.int .u8 F, .int .u8 I, .int .u8 E, .int .u16 C, .int .u32 U, .slice AM lm.length cM, .slice AD ld.length cD, .slice AW lw.length cW, .slice AP lp.length cP]) (w' := w4) (by kernel_rfl) (frZ hs) ?_ ?_
      · exact frY rfl (k_load9 rfl (ev_tmp h3) B3)
      refine frN3 hs hd h2 h3 h4 ?_; clear hs hd h2 h3 h4 h6 h10 h18 h21; intro a hs hd h2 h3 h4 h22
      refine opL_store 1 (w' := (w4.setRow wx.heap.size #[.int .u8 F, .int .u8 I, .int .u8 E, .int .u16 C, .int .u32 U, .slice AM lm.length cM, .slice AD ld.length cD, .slice AW lw.length cW, .slice AP lp.length cP])) (by kernel_rfl) ?_ ?_
      · exact frY rfl (k_store9 rfl (ev_tmp h4) (ev_tmp h22) B4 rfl rfl (by simp [Value.oneCell']))
      clear h22
      obtain ⟨w5, hw5⟩ : ∃ wn, wn = w4.setRow wx.heap.size #[.int .u8 F, .int .u8 I, .int .u8 E, .int .u16 C, .int .u32 U, .slice AM lm.length cM, .slice AD ld.length cD, .slice AW lw.length cW, .slice AP lp.length cP] := ⟨_, rfl⟩
      rw [← hw5]
      have C4 : Blk w5 wx.heap.size 29 #[.int .u8 F, .int .u8 I, .int .u8 E, .int .u16 C, .int .u32 U, .slice AM lm.length cM, .slice AD ld.length cD, .slice AW lw.length cW, .slice AP lp.length cP] := by rw [hw5]; exact B4.setRow
      have e5 : ∀ B, Exc B wx.heap.size w4 w5 := by rw [hw5]; exact exc_setRow w4 wx.heap.size #[.int .u8 F, .int .u8 I, .int .u8 E, .int .u16 C, .int .u32 U, .slice AM lm.length cM, .slice AD ld.length cD, .slice AW lw.length cW, .slice AP lp.length cP]
      clear hw5
      have C3 := B3.exc (e5 w4.heap.size) B3.lt (by omega)
      have m5 := m4.trans ((e5 w.heap.size).below (by omega))
      refine wp_region (show wpOps _ _ _ [0, 1, 2, 3, 4, 5, 6] _ _ from ?_)
      refine opL 0 23 (v := .pointer (some ⟨wx.heap.size, 1, none⟩)) (w' := w5) (by kernel_rfl) (frZ hs) ?_ ?_
      · exact frY rfl (k_fieldR1 rfl (ev_tmp h4))
      refine frN3 hs hd h2 h3 h4 ?_; clear hs hd h2 h3 h4; intro a hs hd h2 h3 h4 h23
      refine opL 1 24 (v := .int .u8 I) (w' := w5) (by kernel_rfl) (frZ hs) ?_ ?_
      · exact frY rfl (k_loadB rfl (ev_tmp h23) (C4.cell 1))
      clear h23; revert hs hd h2 h3 h4; refine frM3 ?_; intro a hs hd h2 h3 h4 h24
      refine opL 2 25 (v := .int .u8 sm) (w' := w5) (by kernel_rfl) (frZ hs) ?_ ?_
      · exact frY rfl (k_move rfl (ev_tmp h2))
      revert hs hd h2 h3 h4 h24; refine frM4 ?_; intro a hs hd h2 h3 h4 h24 h25
      refine opL 3 26 (v := .int .u8 (sm.tmod 3)) (w' := w5) (by kernel_rfl) (frZ hs) ?_ ?_
      · exact frY rfl (o_remB rfl (ev_tmp h25) rfl (by decide) rfl)
      clear h25; revert hs hd h2 h3 h4 h24; refine frM4 ?_; intro a hs hd h2 h3 h4 h24 h26
      refine opL 4 27 (v := .int .u8 (IntKind.u8.wrap (I + sm.tmod 3))) (w' := w5) (by kernel_rfl) (frZ hs) ?_ ?_
      · exact frY rfl (o_addB rfl (ev_tmp h24) (ev_tmp h26) rfl)
      clear h24 h26; revert hs hd h2 h3 h4; refine frM3 ?_; intro a hs hd h2 h3 h4 h27
      refine opL 5 28 (v := .pointer (some ⟨wx.heap.size, 1, none⟩)) (w' := w5) (by kernel_rfl) (frZ hs) ?_ ?_
      · exact frY rfl (k_fieldR1 rfl (ev_tmp h4))
      revert hs hd h2 h3 h4 h27; refine frM4 ?_; intro a hs hd h2 h3 h4 h27 h28
      refine opL_store 6 (w' := (w5.setCell ⟨wx.heap.size, 1, none⟩ (.int .u8 (IntKind.u8.wrap (I + sm.tmod 3))))) (by kernel_rfl) ?_ ?_
      · exact frY rfl (k_storeB rfl (ev_tmp h28) (ev_tmp h27) C4 (by simp))
      clear h27
      clear h28
      obtain ⟨w6, hw6⟩ : ∃ wn, wn = w5.setCell ⟨wx.heap.size, 1, none⟩ (.int .u8 (IntKind.u8.wrap (I + sm.tmod 3))) := ⟨_, rfl⟩
      rw [← hw6]
      have D4 : Blk w6 wx.heap.size 29 #[.int .u8 F, .int .u8 (IntKind.u8.wrap (I + sm.tmod 3)), .int .u8 E, .int .u16 C, .int .u32 U, .slice AM lm.length cM, .slice AD ld.length cD, .slice AW lw.length cW, .slice AP lp.length cP] := by rw [hw6]; exact C4.set 1 _
      have e6 : ∀ B, Exc B wx.heap.size w5 w6 := by rw [hw6]; exact exc_set w5 wx.heap.size 1 _
      clear hw6
      have D3 := C3.exc (e6 w5.heap.size) C3.lt (by omega)
      have m6 := m5.trans ((e6 w.heap.size).below (by omega))
      have Yg : XIn0 w F (IntKind.u8.wrap (I + sm.tmod 3)) E C U AM AD AW AP lm ld lw lp := ⟨hX.bF, u8_wrap _, hX.bE, hX.bC, hX.bU, hX.m, hX.d, hX.k, hX.p, hX.bm, hX.bd, hX.bk, hX.bp, hX.lm1, hX.ld1, hX.lw1, hX.lp1⟩
      exact ⟨hd, hs, h3, h4, D3, ⟨F, _, E, C, U, AM, AD, AW, AP, cM, cD, cW, cP, lm, ld, lw, lp, D4, Yg, hlx⟩, m6⟩
  case z886 =>
  clear hs hd B3 B4 m4 h2 h3 h4 h6 h10 h18 h21
  rintro a w8 ⟨hd, hs, h3, h4, B3, ⟨F', I', E', C', U', AM', AD', AW', AP', cM', cD', cW', cP', lm', ld', lw', lp', B4, hY, hly⟩, m8⟩
  refine wp_seq ?_
  have ll : lm.length ≤ 20 ∧ ld.length ≤ 20 ∧ lw.length ≤ 20 ∧ lp.length ≤ 20 := by simpa [light] using hlx
  have ll' : lm'.length ≤ 20 ∧ ld'.length ≤ 20 ∧ lw'.length ≤ 20 ∧ lp'.length ≤ 20 := by simpa [light] using hly
  obtain ⟨ckp, -, -, t, okp⟩ := make_okay (hX.full hlx) (by omega) (by omega) (by omega) (by omega)
  obtain ⟨ckq, -, -, t', okq⟩ := make_okay (hY.full hly) (by omega) (by omega) (by omega) (by omega)
  have hx := fun Q hQ => regAp8 a w8 Q hQ _ _ F I E C U AM AD AW AP cM cD cW cP lm ld lw lp F' I' E' C' U' AM' AD' AW' AP' cM' cD' cW' cP' lm' ld' lw' lp' _ hd hs h3 h4 B3 B4 ((hX.full hlx).below m8) ((hY.full hly).below m8)
  refine hx _ ?z905 ?z906
  case z905 => (repeat (first | exact hQ | refine blind_then ?_ | refine blind_block ?_))
  case z906 =>
  clear hx hs hd h3 h4
  intro a wd bp bq A1 A2 A3 A4 B1 B2 B3 B4 c1 c2 c3 c4 d1 d2 d3 d4 hs hd h7 h8 Bp Bq Hp Hq ldd
  have md := m8.trans (ldd.mono m8.size)
  refine wp_seq ?_
  have hx := fun Q hQ => regAp9 a wd Q hQ _ _ _ _ _ _ _ _ _ _ _ _ _ _ _ _ _ _ _ _ _ _ _ _ _ _ _ _ _ _ _ _ _ _ t t' _ hd hs h7 h8 (hT.below md) Bp Bq Hp Hq okp okq ckp ckq
  refine hx _ ?z907 ?z908
  case z907 => (repeat (first | exact hQ | refine blind_then ?_ | refine blind_block ?_))
  case z908 =>
  intro a'' wf f1 f2 lf
  refine wp_ret ?_
  exact hfin a'' wf f1 f2 (md.trans (lf.mono md.size))


theorem rfcApart_walk (F I E C U : Int) (AM AD AW AP : Option Addr) (cM cD cW cP : Nat) (lm ld : List Int) (lw : List (Int × Int)) (lp : List Int) (F' I' E' C' U' : Int) (AM' AD' AW' AP' : Option Addr) (cM' cD' cW' cP' : Nat) (lm' ld' : List Int) (lw' : List (Int × Int)) (lp' : List Int) (sm : Int) (w : World) (hT : Tabs w) (hX : XIn0 w F I E C U AM AD AW AP lm ld lw lp) (hY : XIn0 w F' I' E' C' U' AM' AD' AW' AP' lm' ld' lw' lp') (_ : 0 ≤ sm ∧ sm ≤ 255) :
    Calls Tryz.prog 3 #[.agg #[.int .u8 F, .int .u8 I, .int .u8 E, .int .u16 C, .int .u32 U, .slice AM lm.length cM, .slice AD ld.length cD, .slice AW lw.length cW, .slice AP lp.length cP], .agg #[.int .u8 F', .int .u8 I', .int .u8 E', .int .u16 C', .int .u32 U', .slice AM' lm'.length cM', .slice AD' ld'.length cD', .slice AW' lw'.length cW', .slice AP' lp'.length cP'], .int .u8 sm] w fun e w' => e = .returned (.bool true) ∧ Below w.heap.size w w' := by
  cases hlx : light lm ld lw lp
  · exact rfcApart_heavyx F I E C U AM AD AW AP cM cD cW cP lm ld lw lp F' I' E' C' U' AM' AD' AW' AP' cM' cD' cW' cP' lm' ld' lw' lp' sm w hT hX hY hlx
  · cases hly : light lm' ld' lw' lp'
    · exact rfcApart_heavyy F I E C U AM AD AW AP cM cD cW cP lm ld lw lp F' I' E' C' U' AM' AD' AW' AP' cM' cD' cW' cP' lm' ld' lw' lp' sm w hT hX hY hlx hly
    · exact rfcApart_light F I E C U AM AD AW AP cM cD cW cP lm ld lw lp F' I' E' C' U' AM' AD' AW' AP' cM' cD' cW' cP' lm' ld' lw' lp' sm w hT hX hY hlx hly
end Go.Proofs.YtfliehkmncbpnaaGreatDoor
