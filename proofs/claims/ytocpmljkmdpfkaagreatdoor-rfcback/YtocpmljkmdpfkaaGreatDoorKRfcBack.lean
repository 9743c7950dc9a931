/-
  The walk of the law RfcBack.
-/
import Derived.Test.YtocpmljkmdpfkaaGreatDoorRb3
import Derived.Test.YtocpmljkmdpfkaaGreatDoorMko
namespace Go.Proofs.YtocpmljkmdpfkaaGreatDoor
open Go.RowKit
noncomputable def backBody : Code := Tryz.f3.body.getD .skip
theorem c_Awk3 {w : World} {ρ : Operand → Value} {o : Oper} (ho : o.op = .call ⟨.value (.func 7), #[], #[]⟩) (hf : ρ (.func 7) = .func (.func 7) #[] #[]) : (execOp ρ o).run Tryz.prog w = .ok (.enter 7 #[]) w := by
  simp only [execOp, ho]
  go_simp
theorem c_lPrint {w : World} {ρ : Operand → Value} {o : Oper} {x : Operand} {v : Value} (ho : o.op = .call ⟨.value (.func 12), #[x], #[36]⟩) (hf : ρ (.func 12) = .func (.func 12) #[] #[]) (hx : ρ x = v) : (execOp ρ o).run Tryz.prog w = .ok (.enter 12 #[v]) w := by
  simp only [execOp, ho]
  go_simp

set_option maxRecDepth 100000 in
set_option maxHeartbeats 1000000 in
theorem rfcBack_heavy (F I E C U : Int) (AM AD AW AP : Option Addr) (cM cD cW cP : Nat) (lm ld : List Int) (lw : List (Int × Int)) (lp : List Int) (w : World) (hT : Tabs3 w) (hX : XIn0 w F I E C U AM AD AW AP lm ld lw lp) (hlt : light lm ld lw lp = false) :
    Calls Tryz.prog 3 #[.agg #[.int .u8 F, .int .u8 I, .int .u8 E, .int .u16 C, .int .u32 U, .slice AM lm.length cM, .slice AD ld.length cD, .slice AW lw.length cW, .slice AP lp.length cP]] w fun e w' => e = .returned (.bool true) ∧ Below w.heap.size w w' := by
  refine calls_of_wp Tryz.func3 (show Tryz.f3.body = some backBody from rfl) ?_
  generalize hA : (Act.mk (#[.agg #[.int .u8 F, .int .u8 I, .int .u8 E, .int .u16 C, .int .u32 U, .slice AM lm.length cM, .slice AD ld.length cD, .slice AW lw.length cW, .slice AP lp.length cP]] ++ Array.replicate (Tryz.f3.ntmps - (#[.agg #[.int .u8 F, .int .u8 I, .int .u8 E, .int .u16 C, .int .u32 U, .slice AM lm.length cM, .slice AD ld.length cD, .slice AW lw.length cW, .slice AP lp.length cP]] : Array Value).size) undef) []) = a
  have hs : a.tmps.size = 34 := by rw [← hA]; simp [Tryz.ntmps3]
  have hd : a.defers = [] := by rw [← hA]
  have h0 : a.tmps.getD 0 undef = .agg #[.int .u8 F, .int .u8 I, .int .u8 E, .int .u16 C, .int .u32 U, .slice AM lm.length cM, .slice AD ld.length cD, .slice AW lw.length cW, .slice AP lp.length cP] := by rw [← hA]; simp
  clear hA
  refine Code.wp_mono NoPanic.imp ?_
  have hQ : Blind (NoPanic (bodyPost Tryz.prog Tryz.f3 fun e w' => e = .returned (.bool true) ∧ Below w.heap.size w w')) := fun _ _ _ _ q => q.elim
  have hfin : ∀ (a' : Act) (w' : World), a'.defers = [] → a'.tmps.getD 2 undef = .bool true → Below w.heap.size w w' → NoPanic (bodyPost Tryz.prog Tryz.f3 fun e w' => e = .returned (.bool true) ∧ Below w.heap.size w w') .ret a' w' := by
    intro a' w' k1 k2 k3
    exact ⟨k1, _, results_tmp rfl _ _ _, by rw [k2], k3⟩
  generalize NoPanic (bodyPost Tryz.prog Tryz.f3 fun e w' => e = .returned (.bool true) ∧ Below w.heap.size w w') = Q at hQ hfin
  unfold backBody
  conv => arg 2; whnf
  refine wp_seq ?_
  refine wp_region (show wpOps _ _ _ [0, 1] _ _ from ?_)
  refine opL 0 1 (v := .pointer (some ⟨w.heap.size, 0, none⟩)) (w' := (w.alloc (.cells #[.int .u8 F, .int .u8 I, .int .u8 E, .int .u16 C, .int .u32 U, .slice AM lm.length cM, .slice AD ld.length cD, .slice AW lw.length cW, .slice AP lp.length cP] 29))) (by kernel_rfl) (frZ hs) ?_ ?_
  · exact frY rfl (k_box9 rfl (ev_tmp h0))
  refine frN0 hs hd ?_; clear hs hd h0; intro a hs hd h1
  obtain ⟨w1, hw1⟩ : ∃ wn, wn = w.alloc (.cells #[.int .u8 F, .int .u8 I, .int .u8 E, .int .u16 C, .int .u32 U, .slice AM lm.length cM, .slice AD ld.length cD, .slice AW lw.length cW, .slice AP lp.length cP] 29) := ⟨_, rfl⟩
  rw [← hw1]
  have q1 : Blk w1 w.heap.size 29 #[.int .u8 F, .int .u8 I, .int .u8 E, .int .u16 C, .int .u32 U, .slice AM lm.length cM, .slice AD ld.length cD, .slice AW lw.length cW, .slice AP lp.length cP] := by rw [hw1]; exact Blk.alloc _ _ _
  have l1 : Below w.heap.size w w1 := by rw [hw1]; exact (Below.refl _ _).alloc (Nat.le_refl _) _
  clear hw1
  refine opL 1 2 (v := .bool false) (w' := w1) (by kernel_rfl) (frZ hs) ?_ ?_
  · exact frY rfl (k_assign rfl rfl)
  refine frN1 hs hd h1 ?_; clear hs hd h1; intro a hs hd h1 h2
  refine wp_seq ?_
  refine wp_seq ?_
  refine wp_region (show wpOps _ _ _ [0, 1] _ _ from ?_)
  have hc := awake3 w1 (hT.below l1).t
  have hx := fun ops Q rest d a i h1 h2 h3 => opL_call (P := Tryz.prog) (ops := ops) (Q := Q) (a := a) (w := w1) (rest := rest) i d h1 h2 h3 hc
  refine hx _ _ _ 7 _ 0 ?z5a ?z5b ?z5 ?z6
  case z5a => kernel_rfl
  case z5b => (rw [hs]; decide)
  case z5 => exact frY rfl (c_Awk3 rfl rfl)
  case z6 =>
  rintro _ w2 a ⟨rfl, l2⟩ F0
  replace hs := F0.z.trans hs
  replace hd := F0.e.trans hd
  replace h1 := (F0.n 1 (by decide)).trans h1
  replace h2 := (F0.n 2 (by decide)).trans h2
  have h7 := F0.s
  clear F0
  clear hx hc
  replace q1 := q1.below l2 q1.lt
  have m2 := l1.trans (l2.mono l1.size)
  clear l1 l2
  refine opL 1 8 (v := .bool false) (w' := w2) (by kernel_rfl) (frZ hs) ?_ ?_
  · exact frY rfl (o_not rfl (ev_tmp h7) rfl)
  refine frN2 hs hd h1 h2 ?_; clear hs hd h1 h2 h7; intro a hs hd h1 h2 h8
  refine wp_cond_false (ev_tmp h8) ?_
  clear h8
  refine wp_skip ?_
  refine wp_seq ?_
  refine wp_seq ?_
  refine wp_region (show wpOps _ _ _ [0, 1, 2] _ _ from ?_)
  refine opL 0 9 (v := .agg #[.int .u8 F, .int .u8 I, .int .u8 E, .int .u16 C, .int .u32 U, .slice AM lm.length cM, .slice AD ld.length cD, .slice AW lw.length cW, .slice AP lp.length cP]) (w' := w2) (by kernel_rfl) (frZ hs) ?_ ?_
  · exact frY rfl (k_load9 rfl (ev_tmp h1) q1)
  revert hs hd h1 h2; refine frM2 ?_; intro a hs hd h1 h2 h9
  refine opL_call 1 10 (f := 8) (args := #[.agg #[.int .u8 F, .int .u8 I, .int .u8 E, .int .u16 C, .int .u32 U, .slice AM lm.length cM, .slice AD ld.length cD, .slice AW lw.length cW, .slice AP lp.length cP]]) (R := fun v w' => v = .bool (light lm ld lw lp) ∧ Below w2.heap.size w2 w') (by kernel_rfl) (frZ hs) ?z11 (light_any _ _ _ _ _ AM AD AW AP cM cD cW cP lm ld lw lp w2 hX.lm1 hX.ld1 hX.lw1 hX.lp1) ?z12
  case z11 => exact frY rfl (c_Light rfl rfl (ev_tmp h9))
  case z12 =>
  rintro _ w3 a ⟨rfl, l3⟩ F0
  rw [hlt] at F0
  replace hs := F0.z.trans hs
  replace hd := F0.e.trans hd
  replace h1 := (F0.n 1 (by decide)).trans h1
  replace h2 := (F0.n 2 (by decide)).trans h2
  clear h9
  have h10 := F0.s
  clear F0
  replace q1 := q1.below l3 q1.lt
  have m3 := m2.trans (l3.mono m2.size)
  clear m2 l3
  refine opL 2 11 (v := .bool true) (w' := w3) (by kernel_rfl) (frZ hs) ?_ ?_
  · exact frY rfl (o_not rfl (ev_tmp h10) rfl)
  refine frN2 hs hd h1 h2 ?_; clear hs hd h1 h2 h10; intro a hs hd h1 h2 h11
  refine wp_cond_true (ev_tmp h11) ?_
  clear h11
  refine wp_seq ?_
  refine wp_region (show wpOps _ _ _ [0] _ _ from ?_)
  refine opL 0 2 (v := .bool true) (w' := w3) (by kernel_rfl) (frZ hs) ?_ ?_
  · exact frY rfl (k_assign rfl rfl)
  clear h2; revert hs hd h1; refine frM1 ?_; intro a hs hd h1 h2
  refine wp_ret ?_
  exact hfin a _ hd h2 m3

set_option maxRecDepth 100000 in
set_option maxHeartbeats 2000000 in
theorem rfcBack_light (F I E C U : Int) (AM AD AW AP : Option Addr) (cM cD cW cP : Nat) (lm ld : List Int) (lw : List (Int × Int)) (lp : List Int) (w : World) (hT : Tabs3 w) (hX : XIn0 w F I E C U AM AD AW AP lm ld lw lp) (hlt : light lm ld lw lp = true) :
    Calls Tryz.prog 3 #[.agg #[.int .u8 F, .int .u8 I, .int .u8 E, .int .u16 C, .int .u32 U, .slice AM lm.length cM, .slice AD ld.length cD, .slice AW lw.length cW, .slice AP lp.length cP]] w fun e w' => e = .returned (.bool true) ∧ Below w.heap.size w w' := by
  have ll : lm.length ≤ 20 ∧ ld.length ≤ 20 ∧ lw.length ≤ 20 ∧ lp.length ≤ 20 := by simpa [light] using hlt
  obtain ⟨n1, n2, n3, n4⟩ := make_20 (F := F) ll.1 ll.2.1 ll.2.2.1 ll.2.2.2
  obtain ⟨ck, -, -, t, ok⟩ := make_okay (hX.full hlt) (by omega) (by omega) (by omega) (by omega)
  have htl := text_20 ok n1 n2 n3 n4
  obtain ⟨gg, hpt⟩ := Rfc.parse_text' ok ck htl
  clear htl n1 n2 n3 n4
  refine calls_of_wp Tryz.func3 (show Tryz.f3.body = some backBody from rfl) ?_
  generalize hA : (Act.mk (#[.agg #[.int .u8 F, .int .u8 I, .int .u8 E, .int .u16 C, .int .u32 U, .slice AM lm.length cM, .slice AD ld.length cD, .slice AW lw.length cW, .slice AP lp.length cP]] ++ Array.replicate (Tryz.f3.ntmps - (#[.agg #[.int .u8 F, .int .u8 I, .int .u8 E, .int .u16 C, .int .u32 U, .slice AM lm.length cM, .slice AD ld.length cD, .slice AW lw.length cW, .slice AP lp.length cP]] : Array Value).size) undef) []) = a
  have hs : a.tmps.size = 34 := by rw [← hA]; simp [Tryz.ntmps3]
  have hd : a.defers = [] := by rw [← hA]
  have h0 : a.tmps.getD 0 undef = .agg #[.int .u8 F, .int .u8 I, .int .u8 E, .int .u16 C, .int .u32 U, .slice AM lm.length cM, .slice AD ld.length cD, .slice AW lw.length cW, .slice AP lp.length cP] := by rw [← hA]; simp
  clear hA
  refine Code.wp_mono NoPanic.imp ?_
  have hQ : Blind (NoPanic (bodyPost Tryz.prog Tryz.f3 fun e w' => e = .returned (.bool true) ∧ Below w.heap.size w w')) := fun _ _ _ _ q => q.elim
  have hfin : ∀ (a' : Act) (w' : World), a'.defers = [] → a'.tmps.getD 2 undef = .bool true → Below w.heap.size w w' → NoPanic (bodyPost Tryz.prog Tryz.f3 fun e w' => e = .returned (.bool true) ∧ Below w.heap.size w w') .ret a' w' := by
    intro a' w' k1 k2 k3
    exact ⟨k1, _, results_tmp rfl _ _ _, by rw [k2], k3⟩
  generalize NoPanic (bodyPost Tryz.prog Tryz.f3 fun e w' => e = .returned (.bool true) ∧ Below w.heap.size w w') = Q at hQ hfin
  unfold backBody
  conv => arg 2; whnf
  refine wp_seq ?_
  refine wp_region (show wpOps _ _ _ [0, 1] _ _ from ?_)
  refine opL 0 1 (v := .pointer (some ⟨w.heap.size, 0, none⟩)) (w' := (w.alloc (.cells #[.int .u8 F, .int .u8 I, .int .u8 E, .int .u16 C, .int .u32 U, .slice AM lm.length cM, .slice AD ld.length cD, .slice AW lw.length cW, .slice AP lp.length cP] 29))) (by kernel_rfl) (frZ hs) ?_ ?_
  · exact frY rfl (k_box9 rfl (ev_tmp h0))
  refine frN0 hs hd ?_; clear hs hd h0; intro a hs hd h1
  obtain ⟨w1, hw1⟩ : ∃ wn, wn = w.alloc (.cells #[.int .u8 F, .int .u8 I, .int .u8 E, .int .u16 C, .int .u32 U, .slice AM lm.length cM, .slice AD ld.length cD, .slice AW lw.length cW, .slice AP lp.length cP] 29) := ⟨_, rfl⟩
  rw [← hw1]
  have q1 : Blk w1 w.heap.size 29 #[.int .u8 F, .int .u8 I, .int .u8 E, .int .u16 C, .int .u32 U, .slice AM lm.length cM, .slice AD ld.length cD, .slice AW lw.length cW, .slice AP lp.length cP] := by rw [hw1]; exact Blk.alloc _ _ _
  have l1 : Below w.heap.size w w1 := by rw [hw1]; exact (Below.refl _ _).alloc (Nat.le_refl _) _
  clear hw1
  refine opL 1 2 (v := .bool false) (w' := w1) (by kernel_rfl) (frZ hs) ?_ ?_
  · exact frY rfl (k_assign rfl rfl)
  refine frN1 hs hd h1 ?_; clear hs hd h1; intro a hs hd h1 h2
  refine wp_seq ?_
  refine wp_seq ?_
  refine wp_region (show wpOps _ _ _ [0, 1] _ _ from ?_)
  have hc := awake3 w1 (hT.below l1).t
  have hx := fun ops Q rest d a i h1 h2 h3 => opL_call (P := Tryz.prog) (ops := ops) (Q := Q) (a := a) (w := w1) (rest := rest) i d h1 h2 h3 hc
  refine hx _ _ _ 7 _ 0 ?z21a ?z21b ?z21 ?z22
  case z21a => kernel_rfl
  case z21b => (rw [hs]; decide)
  case z21 => exact frY rfl (c_Awk3 rfl rfl)
  case z22 =>
  rintro _ w2 a ⟨rfl, l2⟩ F0
  replace hs := F0.z.trans hs
  replace hd := F0.e.trans hd
  replace h1 := (F0.n 1 (by decide)).trans h1
  replace h2 := (F0.n 2 (by decide)).trans h2
  have h7 := F0.s
  clear F0
  clear hx hc
  replace q1 := q1.below l2 q1.lt
  have m2 := l1.trans (l2.mono l1.size)
  clear l1 l2
  refine opL 1 8 (v := .bool false) (w' := w2) (by kernel_rfl) (frZ hs) ?_ ?_
  · exact frY rfl (o_not rfl (ev_tmp h7) rfl)
  refine frN2 hs hd h1 h2 ?_; clear hs hd h1 h2 h7; intro a hs hd h1 h2 h8
  refine wp_cond_false (ev_tmp h8) ?_
  clear h8
  refine wp_skip ?_
  refine wp_seq ?_
  refine wp_seq ?_
  refine wp_region (show wpOps _ _ _ [0, 1, 2] _ _ from ?_)
  refine opL 0 9 (v := .agg #[.int .u8 F, .int .u8 I, .int .u8 E, .int .u16 C, .int .u32 U, .slice AM lm.length cM, .slice AD ld.length cD, .slice AW lw.length cW, .slice AP lp.length cP]) (w' := w2) (by kernel_rfl) (frZ hs) ?_ ?_
  · exact frY rfl (k_load9 rfl (ev_tmp h1) q1)
  revert hs hd h1 h2; refine frM2 ?_; intro a hs hd h1 h2 h9
  refine opL_call 1 10 (f := 8) (args := #[.agg #[.int .u8 F, .int .u8 I, .int .u8 E, .int .u16 C, .int .u32 U, .slice AM lm.length cM, .slice AD ld.length cD, .slice AW lw.length cW, .slice AP lp.length cP]]) (R := fun v w' => v = .bool (light lm ld lw lp) ∧ Below w2.heap.size w2 w') (by kernel_rfl) (frZ hs) ?z27 (light_any _ _ _ _ _ AM AD AW AP cM cD cW cP lm ld lw lp w2 hX.lm1 hX.ld1 hX.lw1 hX.lp1) ?z28
  case z27 => exact frY rfl (c_Light rfl rfl (ev_tmp h9))
  case z28 =>
  rintro _ w3 a ⟨rfl, l3⟩ F0
  rw [hlt] at F0
  replace hs := F0.z.trans hs
  replace hd := F0.e.trans hd
  replace h1 := (F0.n 1 (by decide)).trans h1
  replace h2 := (F0.n 2 (by decide)).trans h2
  clear h9
  have h10 := F0.s
  clear F0
  replace q1 := q1.below l3 q1.lt
  have m3 := m2.trans (l3.mono m2.size)
  clear m2 l3
  refine opL 2 11 (v := .bool false) (w' := w3) (by kernel_rfl) (frZ hs) ?_ ?_
  · exact frY rfl (o_not rfl (ev_tmp h10) rfl)
  refine frN2 hs hd h1 h2 ?_; clear hs hd h1 h2 h10; intro a hs hd h1 h2 h11
  refine wp_cond_false (ev_tmp h11) ?_
  clear h11
  refine wp_skip ?_
  refine wp_seq ?_
  refine wp_region (show wpOps _ _ _ [0, 1, 2, 3] _ _ from ?_)
  refine opL 0 12 (v := .agg #[.int .u8 F, .int .u8 I, .int .u8 E, .int .u16 C, .int .u32 U, .slice AM lm.length cM, .slice AD ld.length cD, .slice AW lw.length cW, .slice AP lp.length cP]) (w' := w3) (by kernel_rfl) (frZ hs) ?_ ?_
  · exact frY rfl (k_load9 rfl (ev_tmp h1) q1)
  revert hs hd h1 h2; refine frM2 ?_; intro a hs hd h1 h2 h12
  have hc := make_any' F I E C U AM AD AW AP cM cD cW cP lm ld lw lp w3 ((hX.below m3).full hlt)
  have hx := fun ops Q rest d a i h1 h2 h3 => opL_call (P := Tryz.prog) (ops := ops) (Q := Q) (a := a) (w := w3) (rest := rest) i d h1 h2 h3 hc
  refine hx _ _ _ 13 _ 1 ?z33a ?z33b ?z33 ?z34
  case z33a => kernel_rfl
  case z33b => (rw [hs]; decide)
  case z33 => exact frY rfl (c_Make rfl rfl (ev_tmp h12))
  case z34 =>
  rintro _ w4 a ⟨A1, A2, A3, A4, c1, c2, c3, c4, tD, tW, tP, rfl, F4, l4⟩ F0
  replace hs := F0.z.trans hs
  replace hd := F0.e.trans hd
  replace h1 := (F0.n 1 (by decide)).trans h1
  replace h2 := (F0.n 2 (by decide)).trans h2
  clear h12
  have h13 := F0.s
  clear F0
  clear hx hc
  have m4 := m3.trans (l4.mono m3.size)
  have Hp := F4.plain
  clear m3 F4 l4
  refine opL 2 3 (v := .pointer (some ⟨w4.heap.size, 0, none⟩)) (w' := (w4.alloc (.cells #[.int .i64 0, .int .i64 0, .int .i64 0, .int .i64 0, .slice none 0 0, .slice none 0 0, .slice none 0 0, .slice none 0 0] 36))) (by kernel_rfl) (frZ hs) ?_ ?_
  · exact frY rfl (k_allocR rfl)
  refine frN3 hs hd h1 h2 h13 ?_; clear hs hd h1 h2 h13; intro a hs hd h1 h2 h13 h3
  obtain ⟨w5, hw5⟩ : ∃ wn, wn = w4.alloc (.cells #[.int .i64 0, .int .i64 0, .int .i64 0, .int .i64 0, .slice none 0 0, .slice none 0 0, .slice none 0 0, .slice none 0 0] 36) := ⟨_, rfl⟩
  rw [← hw5]
  have q5 : Blk w5 w4.heap.size 36 #[.int .i64 0, .int .i64 0, .int .i64 0, .int .i64 0, .slice none 0 0, .slice none 0 0, .slice none 0 0, .slice none 0 0] := by rw [hw5]; exact Blk.alloc _ _ _
  have l5 : Below w4.heap.size w4 w5 := by rw [hw5]; exact (Below.refl _ _).alloc (Nat.le_refl _) _
  clear hw5
  refine opL_store 3 (w' := (w5.setRow w4.heap.size #[.int .i64 (F.tmod 4), .int .i64 (Mk.iv I), .int .i64 (Mk.cnt E C), .int .i64 (Mk.unt E U), .slice A1 (Mk.mon lm).length c1, .slice A2 (Mk.D F ld).length c2, .slice A3 ((Mk.W F lw).map (·.1)).length c3, .slice A4 (Mk.P F lm ld lw lp).length c4])) (by kernel_rfl) ?_ ?_
  · exact frY rfl (k_storeR rfl (ev_tmp h3) (ev_tmp h13) q5 rfl rfl (by simp [Value.oneCell']))
  clear h13
  obtain ⟨w6, hw6⟩ : ∃ wn, wn = w5.setRow w4.heap.size #[.int .i64 (F.tmod 4), .int .i64 (Mk.iv I), .int .i64 (Mk.cnt E C), .int .i64 (Mk.unt E U), .slice A1 (Mk.mon lm).length c1, .slice A2 (Mk.D F ld).length c2, .slice A3 ((Mk.W F lw).map (·.1)).length c3, .slice A4 (Mk.P F lm ld lw lp).length c4] := ⟨_, rfl⟩
  rw [← hw6]
  have B6 : Blk w6 w4.heap.size 36 #[.int .i64 (F.tmod 4), .int .i64 (Mk.iv I), .int .i64 (Mk.cnt E C), .int .i64 (Mk.unt E U), .slice A1 (Mk.mon lm).length c1, .slice A2 (Mk.D F ld).length c2, .slice A3 ((Mk.W F lw).map (·.1)).length c3, .slice A4 (Mk.P F lm ld lw lp).length c4] := by rw [hw6]; exact q5.setRow
  have l6 : Below w4.heap.size w4 w6 := by rw [hw6]; exact l5.trans ((exc_setRow w5 w4.heap.size #[.int .i64 (F.tmod 4), .int .i64 (Mk.iv I), .int .i64 (Mk.cnt E C), .int .i64 (Mk.unt E U), .slice A1 (Mk.mon lm).length c1, .slice A2 (Mk.D F ld).length c2, .slice A3 ((Mk.W F lw).map (·.1)).length c3, .slice A4 (Mk.P F lm ld lw lp).length c4] w4.heap.size).below (Nat.le_refl _))
  clear hw6 q5 l5
  replace Hp := Hp.below l6
  have m6 := m4.trans (l6.mono m4.size)
  clear m4 l6 q1
  clear hX hlt ll
  generalize F.tmod 4 = f at B6 ok ck hpt
  generalize Mk.iv I = iv at B6 ok ck hpt
  generalize Mk.cnt E C = c at B6 ok ck hpt
  generalize Mk.unt E U = u at B6 ok ck hpt
  generalize Mk.mon lm = M at B6 ok ck hpt Hp
  generalize Mk.D F ld = D at B6 ok ck hpt Hp
  generalize (Mk.W F lw).map (·.1) = K at B6 ok ck hpt Hp
  generalize Mk.P F lm ld lw lp = P at B6 ok ck hpt Hp
  refine wp_seq ?_
  refine wp_region (show wpOps _ _ _ [0, 1, 2] _ _ from ?_)
  refine opL 0 14 (v := .agg #[.int .i64 f, .int .i64 iv, .int .i64 c, .int .i64 u, .slice A1 M.length c1, .slice A2 D.length c2, .slice A3 K.length c3, .slice A4 P.length c4]) (w' := w6) (by kernel_rfl) (frZ hs) ?_ ?_
  · exact frY rfl (k_loadR rfl (ev_tmp h3) B6.rule)
  refine frN3 hs hd h1 h2 h3 ?_; clear hs hd h1 h2 h3; intro a hs hd h1 h2 h3 h14
  have hc := print_any f iv c u t A1 A2 A3 A4 c1 c2 c3 c4 M D K P w6 (hT.below m6).t Hp.lists ok ck
  have hx := fun ops Q rest d a i h1 h2 h3 => opL_call (P := Tryz.prog) (ops := ops) (Q := Q) (a := a) (w := w6) (rest := rest) i d h1 h2 h3 hc
  refine hx _ _ _ 15 _ 1 ?z41a ?z41b ?z41 ?z42
  case z41a => kernel_rfl
  case z41b => (rw [hs]; decide)
  case z41 => exact frY rfl (c_Print rfl rfl (ev_tmp h14))
  case z42 =>
  rintro _ w7 a ⟨rfl, l7⟩ F0
  replace hs := F0.z.trans hs
  replace hd := F0.e.trans hd
  replace h1 := (F0.n 1 (by decide)).trans h1
  replace h2 := (F0.n 2 (by decide)).trans h2
  replace h3 := (F0.n 3 (by decide)).trans h3
  clear h14
  have h15 := F0.s
  clear F0
  clear hx hc
  replace B6 := B6.below l7 B6.lt
  replace Hp := Hp.below l7
  have m7 := m6.trans (l7.mono m6.size)
  clear m6 l7
  refine opL 2 4 (v := .string ⟨((Rfc.text f iv c t M D K P)).toArray⟩) (w' := w7) (by kernel_rfl) (frZ hs) ?_ ?_
  · exact frY rfl (k_assign rfl (ev_tmp h15))
  refine frN3 hs hd h1 h2 h3 ?_; clear hs hd h1 h2 h3 h15; intro a hs hd h1 h2 h3 h4
  refine wp_seq ?_
  refine wp_region (show wpOps _ _ _ [0, 1, 2, 3, 4, 5, 6, 7] _ _ from ?_)
  refine opL 0 17 (v := .string ⟨((Rfc.text f iv c t M D K P)).toArray⟩) (w' := w7) (by kernel_rfl) (frZ hs) ?_ ?_
  · exact frY rfl (k_move rfl (ev_tmp h4))
  revert hs hd h1 h2 h3 h4; refine frM4 ?_; intro a hs hd h1 h2 h3 h4 h17
  have hc := parse_any (Rfc.text f iv c t M D K P) w7 (hT.below m7).t
  have hx := fun ops Q rest d a i h1 h2 h3 => opL_call (P := Tryz.prog) (ops := ops) (Q := Q) (a := a) (w := w7) (rest := rest) i d h1 h2 h3 hc
  refine hx _ _ _ 18 _ 1 ?z47a ?z47b ?z47 ?z48
  case z47a => kernel_rfl
  case z47b => (rw [hs]; decide)
  case z47 => exact frY rfl (c_Parse rfl rfl (ev_tmp h17))
  case z48 =>
  rintro v0 w8 a ⟨hv, l8⟩ F0
  rw [hpt] at hv
  obtain ⟨B1, B2, B3, B4, d1, d2, d3, d4, hv0, Hq, -⟩ := hv
  subst hv0
  replace hs := F0.z.trans hs
  replace hd := F0.e.trans hd
  replace h1 := (F0.n 1 (by decide)).trans h1
  replace h2 := (F0.n 2 (by decide)).trans h2
  replace h3 := (F0.n 3 (by decide)).trans h3
  replace h4 := (F0.n 4 (by decide)).trans h4
  clear h17
  have h18 := F0.s
  clear F0
  clear hx hc
  replace B6 := B6.below l8 B6.lt
  replace Hp := Hp.below l8
  have m8 := m7.trans (l8.mono m7.size)
  clear m7 l8
  refine opL 2 16 (v := .tuple #[.agg #[.int .i64 f, .int .i64 iv, .int .i64 c, .int .i64 u, .slice B1 M.length d1, .slice B2 D.length d2, .slice B3 K.length d3, .slice B4 P.length d4], .int .i64 0]) (w' := w8) (by kernel_rfl) (frZ hs) ?_ ?_
  · exact frY rfl (k_move rfl (ev_tmp h18))
  refine frN4 hs hd h1 h2 h3 h4 ?_; clear hs hd h1 h2 h3 h4 h18; intro a hs hd h1 h2 h3 h4 h16
  refine opL 3 19 (v := .agg #[.int .i64 f, .int .i64 iv, .int .i64 c, .int .i64 u, .slice B1 M.length d1, .slice B2 D.length d2, .slice B3 K.length d3, .slice B4 P.length d4]) (w' := w8) (by kernel_rfl) (frZ hs) ?_ ?_
  · exact frY rfl (k_extract rfl (ev_tmp h16) rfl)
  revert hs hd h1 h2 h3 h4 h16; refine frM5 ?_; intro a hs hd h1 h2 h3 h4 h16 h19
  refine opL 4 20 (v := .int .i64 0) (w' := w8) (by kernel_rfl) (frZ hs) ?_ ?_
  · exact frY rfl (k_extract rfl (ev_tmp h16) rfl)
  clear h16; revert hs hd h1 h2 h3 h4 h19; refine frM5 ?_; intro a hs hd h1 h2 h3 h4 h19 h20
  refine opL 5 5 (v := .pointer (some ⟨w8.heap.size, 0, none⟩)) (w' := (w8.alloc (.cells #[.int .i64 0, .int .i64 0, .int .i64 0, .int .i64 0, .slice none 0 0, .slice none 0 0, .slice none 0 0, .slice none 0 0] 36))) (by kernel_rfl) (frZ hs) ?_ ?_
  · exact frY rfl (k_allocR rfl)
  revert hs hd h1 h2 h3 h4 h19 h20; refine frM6 ?_; intro a hs hd h1 h2 h3 h4 h19 h20 h5
  obtain ⟨w9, hw9⟩ : ∃ wn, wn = w8.alloc (.cells #[.int .i64 0, .int .i64 0, .int .i64 0, .int .i64 0, .slice none 0 0, .slice none 0 0, .slice none 0 0, .slice none 0 0] 36) := ⟨_, rfl⟩
  rw [← hw9]
  have q9 : Blk w9 w8.heap.size 36 #[.int .i64 0, .int .i64 0, .int .i64 0, .int .i64 0, .slice none 0 0, .slice none 0 0, .slice none 0 0, .slice none 0 0] := by rw [hw9]; exact Blk.alloc _ _ _
  have l9 : Below w8.heap.size w8 w9 := by rw [hw9]; exact (Below.refl _ _).alloc (Nat.le_refl _) _
  clear hw9
  refine opL_store 6 (w' := (w9.setRow w8.heap.size #[.int .i64 f, .int .i64 iv, .int .i64 c, .int .i64 u, .slice B1 M.length d1, .slice B2 D.length d2, .slice B3 K.length d3, .slice B4 P.length d4])) (by kernel_rfl) ?_ ?_
  · exact frY rfl (k_storeR rfl (ev_tmp h5) (ev_tmp h19) q9 rfl rfl (by simp [Value.oneCell']))
  clear h19
  obtain ⟨wa, hwa⟩ : ∃ wn, wn = w9.setRow w8.heap.size #[.int .i64 f, .int .i64 iv, .int .i64 c, .int .i64 u, .slice B1 M.length d1, .slice B2 D.length d2, .slice B3 K.length d3, .slice B4 P.length d4] := ⟨_, rfl⟩
  rw [← hwa]
  have B9 : Blk wa w8.heap.size 36 #[.int .i64 f, .int .i64 iv, .int .i64 c, .int .i64 u, .slice B1 M.length d1, .slice B2 D.length d2, .slice B3 K.length d3, .slice B4 P.length d4] := by rw [hwa]; exact q9.setRow
  have la : Below w8.heap.size w8 wa := by rw [hwa]; exact l9.trans ((exc_setRow w9 w8.heap.size #[.int .i64 f, .int .i64 iv, .int .i64 c, .int .i64 u, .slice B1 M.length d1, .slice B2 D.length d2, .slice B3 K.length d3, .slice B4 P.length d4] w8.heap.size).below (Nat.le_refl _))
  clear hwa q9 l9
  replace B6 := B6.below la B6.lt
  replace Hp := Hp.below la
  replace Hq := Hq.below la
  have ma := m8.trans (la.mono m8.size)
  clear m8 la
  refine opL 7 6 (v := .int .i64 0) (w' := wa) (by kernel_rfl) (frZ hs) ?_ ?_
  · exact frY rfl (k_assign rfl (ev_tmp h20))
  refine frN5 hs hd h1 h2 h3 h4 h5 ?_; clear hs hd h1 h2 h3 h4 h5 h20; intro a hs hd h1 h2 h3 h4 h5 h6
  refine wp_seq ?_
  refine wp_region (show wpOps _ _ _ [0, 1, 2, 3, 4, 5, 6, 7, 8, 9, 10, 11, 12, 13] _ _ from ?_)
  refine opL 0 21 (v := .string ⟨((Rfc.text f iv c t M D K P)).toArray⟩) (w' := wa) (by kernel_rfl) (frZ hs) ?_ ?_
  · exact frY rfl (k_move rfl (ev_tmp h4))
  revert hs hd h1 h2 h3 h4 h5 h6; refine frM6 ?_; intro a hs hd h1 h2 h3 h4 h5 h6 h21
  refine opL 1 22 (v := .agg #[.int .i64 f, .int .i64 iv, .int .i64 c, .int .i64 u, .slice A1 M.length c1, .slice A2 D.length c2, .slice A3 K.length c3, .slice A4 P.length c4]) (w' := wa) (by kernel_rfl) (frZ hs) ?_ ?_
  · exact frY rfl (k_loadR rfl (ev_tmp h3) B6.rule)
  revert hs hd h1 h2 h3 h4 h5 h6 h21; refine frM7 ?_; intro a hs hd h1 h2 h3 h4 h5 h6 h21 h22
  have hc := lprint_any f iv c u t A1 A2 A3 A4 c1 c2 c3 c4 M D K P wa (hT.below ma) Hp.lists ok
  have hx := fun ops Q rest d a i h1 h2 h3 => opL_call (P := Tryz.prog) (ops := ops) (Q := Q) (a := a) (w := wa) (rest := rest) i d h1 h2 h3 hc
  refine hx _ _ _ 23 _ 2 ?z65a ?z65b ?z65 ?z66
  case z65a => kernel_rfl
  case z65b => (rw [hs]; decide)
  case z65 => exact frY rfl (c_lPrint rfl rfl (ev_tmp h22))
  case z66 =>
  rintro _ wb a ⟨rfl, lb⟩ F0
  replace hs := F0.z.trans hs
  replace hd := F0.e.trans hd
  replace h1 := (F0.n 1 (by decide)).trans h1
  replace h2 := (F0.n 2 (by decide)).trans h2
  replace h3 := (F0.n 3 (by decide)).trans h3
  replace h4 := (F0.n 4 (by decide)).trans h4
  replace h5 := (F0.n 5 (by decide)).trans h5
  replace h6 := (F0.n 6 (by decide)).trans h6
  replace h21 := (F0.n 21 (by decide)).trans h21
  clear h22
  have h23 := F0.s
  clear F0
  clear hx hc
  replace B6 := B6.below lb B6.lt
  replace B9 := B9.below lb B9.lt
  replace Hp := Hp.below lb
  replace Hq := Hq.below lb
  have mb := ma.trans (lb.mono ma.size)
  clear ma lb
  refine opL 3 24 (v := .bool true) (w' := wb) (by kernel_rfl) (frZ hs) ?_ ?_
  · exact frY rfl (o_eqStr rfl (ev_tmp h21) (ev_tmp h23) (by simp))
  refine frN6 hs hd h1 h2 h3 h4 h5 h6 ?_; clear hs hd h1 h2 h3 h4 h5 h6 h21 h23; intro a hs hd h1 h2 h3 h4 h5 h6 h24
  refine opL 4 25 (v := .bool true) (w' := wb) (by kernel_rfl) (frZ hs) ?_ ?_
  · exact frY rfl (k_move rfl (ev_tmp h24))
  clear h24; revert hs hd h1 h2 h3 h4 h5 h6; refine frM6 ?_; intro a hs hd h1 h2 h3 h4 h5 h6 h25
  refine opL 5 26 (v := .int .i64 0) (w' := wb) (by kernel_rfl) (frZ hs) ?z71 ?z72
  case z71 => (intro o ho; obtain rfl := Option.some.inj ho; exact ⟨wanted_at (b := true) (want := true) rfl (by kernel_rfl) h25, k_move rfl (ev_tmp h6)⟩)
  case z72 =>
  refine frN7 hs hd h1 h2 h3 h4 h5 h6 h25 ?_; clear hs hd h1 h2 h3 h4 h5 h6 h25; intro a hs hd h1 h2 h3 h4 h5 h6 h25 h26
  refine opL 6 27 (v := .bool true) (w' := wb) (by kernel_rfl) (frZ hs) ?z73 ?z74
  case z73 => (intro o ho; obtain rfl := Option.some.inj ho; exact ⟨wanted_at (b := true) (want := true) rfl (by kernel_rfl) h25, o_eqE rfl (ev_tmp h26) rfl rfl⟩)
  case z74 =>
  refine frN7 hs hd h1 h2 h3 h4 h5 h6 h25 ?_; clear hs hd h1 h2 h3 h4 h5 h6 h25 h26; intro a hs hd h1 h2 h3 h4 h5 h6 h25 h27
  refine opL 7 28 (v := .bool true) (w' := wb) (by kernel_rfl) (frZ hs) ?_ ?_
  · exact frY rfl (k_pick_yes rfl (ev_tmp h25) (ev_tmp h27))
  clear h25 h27; revert hs hd h1 h2 h3 h4 h5 h6; refine frM6 ?_; intro a hs hd h1 h2 h3 h4 h5 h6 h28
  refine opL 8 29 (v := .bool true) (w' := wb) (by kernel_rfl) (frZ hs) ?_ ?_
  · exact frY rfl (k_move rfl (ev_tmp h28))
  clear h28; revert hs hd h1 h2 h3 h4 h5 h6; refine frM6 ?_; intro a hs hd h1 h2 h3 h4 h5 h6 h29
  refine opL 9 30 (v := .agg #[.int .i64 f, .int .i64 iv, .int .i64 c, .int .i64 u, .slice B1 M.length d1, .slice B2 D.length d2, .slice B3 K.length d3, .slice B4 P.length d4]) (w' := wb) (by kernel_rfl) (frZ hs) ?z79 ?z80
  case z79 => (intro o ho; obtain rfl := Option.some.inj ho; exact ⟨wanted_at (b := true) (want := true) rfl (by kernel_rfl) h29, k_loadR rfl (ev_tmp h5) B9.rule⟩)
  case z80 =>
  refine frN7 hs hd h1 h2 h3 h4 h5 h6 h29 ?_; clear hs hd h1 h2 h3 h4 h5 h6 h29; intro a hs hd h1 h2 h3 h4 h5 h6 h29 h30
  refine opL 10 31 (v := .agg #[.int .i64 f, .int .i64 iv, .int .i64 c, .int .i64 u, .slice A1 M.length c1, .slice A2 D.length c2, .slice A3 K.length c3, .slice A4 P.length c4]) (w' := wb) (by kernel_rfl) (frZ hs) ?z81 ?z82
  case z81 => (intro o ho; obtain rfl := Option.some.inj ho; exact ⟨wanted_at (b := true) (want := true) rfl (by kernel_rfl) h29, k_loadR rfl (ev_tmp h3) B6.rule⟩)
  case z82 =>
  refine frN8 hs hd h1 h2 h3 h4 h5 h6 h29 h30 ?_; clear hs hd h1 h2 h3 h4 h5 h6 h29 h30; intro a hs hd h1 h2 h3 h4 h5 h6 h29 h30 h31
  have hc := same_any f iv c u f iv c u B1 B2 B3 B4 A1 A2 A3 A4 d1 d2 d3 d4 c1 c2 c3 c4 M D M D K K P P wb Hq Hp
  have hx := fun ops Q rest d a i h1 h2 h3 => opL_call (P := Tryz.prog) (ops := ops) (Q := Q) (a := a) (w := wb) (rest := rest) i d h1 h2 h3 hc
  refine hx _ _ _ 32 _ 11 ?z83a ?z83b ?z83 ?z84
  case z83a => kernel_rfl
  case z83b => (rw [hs]; decide)
  case z83 => (intro o ho; obtain rfl := Option.some.inj ho; exact ⟨wanted_at (b := true) (want := true) rfl (by kernel_rfl) h29, c_Same rfl rfl (ev_tmp h30) (ev_tmp h31)⟩)
  case z84 =>
  rintro _ wc a ⟨rfl, lc⟩ F0
  rw [sameB_self] at F0
  replace hs := F0.z.trans hs
  replace hd := F0.e.trans hd
  replace h1 := (F0.n 1 (by decide)).trans h1
  replace h2 := (F0.n 2 (by decide)).trans h2
  replace h3 := (F0.n 3 (by decide)).trans h3
  replace h4 := (F0.n 4 (by decide)).trans h4
  replace h5 := (F0.n 5 (by decide)).trans h5
  replace h6 := (F0.n 6 (by decide)).trans h6
  replace h29 := (F0.n 29 (by decide)).trans h29
  clear h30
  clear h31
  have h32 := F0.s
  clear F0
  clear hx hc
  refine opL 12 33 (v := .bool true) (w' := wc) (by kernel_rfl) (frZ hs) ?_ ?_
  · exact frY rfl (k_pick_yes rfl (ev_tmp h29) (ev_tmp h32))
  refine frN6 hs hd h1 h2 h3 h4 h5 h6 ?_; clear hs hd h1 h2 h3 h4 h5 h6 h29 h32; intro a hs hd h1 h2 h3 h4 h5 h6 h33
  refine opL 13 2 (v := .bool true) (w' := wc) (by kernel_rfl) (frZ hs) ?_ ?_
  · exact frY rfl (k_assign rfl (ev_tmp h33))
  clear h2 h33; revert hs hd h1 h3 h4 h5 h6; refine frM5 ?_; intro a hs hd h1 h3 h4 h5 h6 h2
  refine wp_ret ?_
  exact hfin a _ hd h2 (mb.trans (lc.mono mb.size))
theorem rfcBack_walk (F I E C U : Int) (AM AD AW AP : Option Addr) (cM cD cW cP : Nat) (lm ld : List Int) (lw : List (Int × Int)) (lp : List Int) (w : World) (hT : Tabs3 w) (hX : XIn0 w F I E C U AM AD AW AP lm ld lw lp) :
    Calls Tryz.prog 3 #[.agg #[.int .u8 F, .int .u8 I, .int .u8 E, .int .u16 C, .int .u32 U, .slice AM lm.length cM, .slice AD ld.length cD, .slice AW lw.length cW, .slice AP lp.length cP]] w fun e w' => e = .returned (.bool true) ∧ Below w.heap.size w w' := by
  cases hlt : light lm ld lw lp
  · exact rfcBack_heavy F I E C U AM AD AW AP cM cD cW cP lm ld lw lp w hT hX hlt
  · exact rfcBack_light F I E C U AM AD AW AP cM cD cW cP lm ld lw lp w hT hX hlt
end Go.Proofs.YtocpmljkmdpfkaaGreatDoor
