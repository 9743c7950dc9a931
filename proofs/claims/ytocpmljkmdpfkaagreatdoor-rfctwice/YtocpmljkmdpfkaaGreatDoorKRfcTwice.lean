/-
  The walk of the law RfcTwice.
-/
import Derived.Test.YtocpmljkmdpfkaaGreatDoorRb3
import Derived.Test.YtocpmljkmdpfkaaGreatDoorRb4
import Derived.Test.YtocpmljkmdpfkaaGreatDoorMko
namespace Go.Proofs.YtocpmljkmdpfkaaGreatDoor
open Go.RowKit
noncomputable def twiceBody : Code := Tryz.f6.body.getD .skip
theorem c_Awk3 {w : World} {ρ : Operand → Value} {o : Oper} (ho : o.op = .call ⟨.value (.func 7), #[], #[]⟩) (hf : ρ (.func 7) = .func (.func 7) #[] #[]) : (execOp ρ o).run Tryz.prog w = .ok (.enter 7 #[]) w := by
  simp only [execOp, ho]
  go_simp
theorem c_lPrint {w : World} {ρ : Operand → Value} {o : Oper} {x : Operand} {v : Value} (ho : o.op = .call ⟨.value (.func 12), #[x], #[36]⟩) (hf : ρ (.func 12) = .func (.func 12) #[] #[]) (hx : ρ x = v) : (execOp ρ o).run Tryz.prog w = .ok (.enter 12 #[v]) w := by
  simp only [execOp, ho]
  go_simp
theorem c_Con {w : World} {ρ : Operand → Value} {o : Oper} {x y : Operand} {v u : Value} (ho : o.op = .call ⟨.value (.func 18), #[x, y], #[9, 9]⟩) (hf : ρ (.func 18) = .func (.func 18) #[] #[]) (hx : ρ x = v) (hy : ρ y = u) : (execOp ρ o).run Tryz.prog w = .ok (.enter 18 #[v, u]) w := by
  simp only [execOp, ho]
  go_simp
theorem con_any (s : List UInt8) (w : World) : Calls Tryz.prog 18 #[.string ⟨(s).toArray⟩, .string ⟨#[59]⟩] w fun e w' => ∃ v, e = .returned v ∧ v = .bool (decide (0 ≤ Lib.indexByte s 59)) ∧ w = w' :=
  (Tryz.strings_Contains_one ⟨s.toArray⟩ 59 w).mono fun e w' ⟨he, hw⟩ => ⟨_, he, by rw [ba_data], hw.symm⟩
theorem not_in {c : UInt8} {s : List UInt8} (h : decide (0 ≤ Lib.indexByte s c) = false) : c ∉ s := Rfc.contains_no (by
  unfold Lib.contains
  rw [Lib.index_one]
  exact h)
section
variable {w : World} {ρ : Operand → Value} {o : Oper} {x y : Operand} {g n : Nat}
theorem k_tailS (ho : o.op = .slice 45 x (some (.const (.int .i64 1))) none none) (hx : ρ x = .slice (some ⟨g, 0, none⟩) n n) (hy : ρ (.const (.int .i64 1)) = .int .i64 1) (h1 : 1 ≤ n) : (execOp ρ o).run Tryz.prog w = .ok (.value (.slice (some ⟨g, if 1 < n then 1 else 0, none⟩) (n - 1) (n - 1))) w := by
  by_cases h : 1 < n
  · rw [if_pos h]
    simp only [execOp, ho, hx]
    go_simp
    rw [if_pos (by omega), if_neg (by omega)]
  · obtain rfl : n = 1 := by omega
    rw [if_neg h]
    simp only [execOp, ho, hx]
    go_simp
end
theorem join_off (g o : Nat) (l : List (List UInt8)) (w : World) (hg : g < w.heap.size) (hl : l.length ≤ 1000) (hlen : (Lib.join l [59]).length ≤ 100000) (hcell : ∀ j (h : j < l.length), w.cell? ⟨g, o + j, none⟩ = some (.string ⟨l[j].toArray⟩)) :
    Calls Tryz.prog 16 #[.slice (some ⟨g, o, none⟩) l.length l.length, .string ⟨#[59]⟩] w fun e w' => ∃ v, e = .returned v ∧ v = .string ⟨(Lib.join l [59]).toArray⟩ ∧ Below w.heap.size w w' := by
  have hm : (l.map fun x => (⟨x.toArray⟩ : ByteArray)).map (·.data.toList) = l := by
    rw [List.map_map]
    exact (List.map_congr_left (fun x _ => by simp)).trans (List.map_id l)
  have h := Tryz.strings_Join g o l.length (l.map fun x => (⟨x.toArray⟩ : ByteArray)) ⟨#[59]⟩ w (fun j x hj => by
      rw [List.getElem?_map] at hj
      obtain ⟨y, hy, rfl⟩ := Option.map_eq_some_iff.1 hj
      obtain ⟨hlt, rfl⟩ := List.getElem?_eq_some_iff.1 hy
      exact hcell j hlt) hg (by simp; omega) (by simp) (by
      rw [hm]
      show (Lib.join l [59]).length ≤ _
      omega)
  rw [hm, List.length_map] at h
  exact h.mono fun e w' ⟨he, hb⟩ => ⟨_, he, rfl, hb⟩

set_option maxRecDepth 100000 in
set_option maxHeartbeats 1000000 in
theorem rfcTwice_h (F I E C U : Int) (AM AD AW AP : Option Addr) (cM cD cW cP : Nat) (lm ld : List Int) (lw : List (Int × Int)) (lp : List Int) (k : Int) (s : List UInt8) (w : World) (hT : Tabs3 w) (hX : XIn0 w F I E C U AM AD AW AP lm ld lw lp) (hlt : light lm ld lw lp = false) :
    Calls Tryz.prog 6 #[.agg #[.int .u8 F, .int .u8 I, .int .u8 E, .int .u16 C, .int .u32 U, .slice AM lm.length cM, .slice AD ld.length cD, .slice AW lw.length cW, .slice AP lp.length cP], .int .u8 k, .string ⟨(s).toArray⟩] w fun e w' => e = .returned (.bool true) ∧ Below w.heap.size w w' := by
  refine calls_of_wp Tryz.func6 (show Tryz.f6.body = some twiceBody from rfl) ?_
  generalize hA : (Act.mk (#[.agg #[.int .u8 F, .int .u8 I, .int .u8 E, .int .u16 C, .int .u32 U, .slice AM lm.length cM, .slice AD ld.length cD, .slice AW lw.length cW, .slice AP lp.length cP], .int .u8 k, .string ⟨(s).toArray⟩] ++ Array.replicate (Tryz.f6.ntmps - (#[.agg #[.int .u8 F, .int .u8 I, .int .u8 E, .int .u16 C, .int .u32 U, .slice AM lm.length cM, .slice AD ld.length cD, .slice AW lw.length cW, .slice AP lp.length cP], .int .u8 k, .string ⟨(s).toArray⟩] : Array Value).size) undef) []) = a
  have hs : a.tmps.size = 89 := by rw [← hA]; simp [Tryz.ntmps6]
  have hd : a.defers = [] := by rw [← hA]
  have h0 : a.tmps.getD 0 undef = .agg #[.int .u8 F, .int .u8 I, .int .u8 E, .int .u16 C, .int .u32 U, .slice AM lm.length cM, .slice AD ld.length cD, .slice AW lw.length cW, .slice AP lp.length cP] := by rw [← hA]; simp
  have h1 : a.tmps.getD 1 undef = .int .u8 k := by rw [← hA]; simp
  have h2 : a.tmps.getD 2 undef = .string ⟨(s).toArray⟩ := by rw [← hA]; simp
  clear hA
  refine Code.wp_mono NoPanic.imp ?_
  have hQ : Blind (NoPanic (bodyPost Tryz.prog Tryz.f6 fun e w' => e = .returned (.bool true) ∧ Below w.heap.size w w')) := fun _ _ _ _ q => q.elim
  have hfin : ∀ (a' : Act) (w' : World), a'.defers = [] → a'.tmps.getD 6 undef = .bool true → Below w.heap.size w w' → NoPanic (bodyPost Tryz.prog Tryz.f6 fun e w' => e = .returned (.bool true) ∧ Below w.heap.size w w') .ret a' w' := by
    intro a' w' k1 k2 k3
    exact ⟨k1, _, results_tmp rfl _ _ _, by rw [k2], k3⟩
  generalize NoPanic (bodyPost Tryz.prog Tryz.f6 fun e w' => e = .returned (.bool true) ∧ Below w.heap.size w w') = Q at hQ hfin
  unfold twiceBody
  conv => arg 2; whnf
  refine wp_seq ?_
  refine wp_region (show wpOps _ _ _ [0, 1] _ _ from ?_)
  refine opL 0 3 (v := .pointer (some ⟨w.heap.size, 0, none⟩)) (w' := (w.alloc (.cells #[.int .u8 F, .int .u8 I, .int .u8 E, .int .u16 C, .int .u32 U, .slice AM lm.length cM, .slice AD ld.length cD, .slice AW lw.length cW, .slice AP lp.length cP] 29))) (by kernel_rfl) (frZ hs) ?_ ?_
  · exact frY rfl (k_box9 rfl (ev_tmp h0))
  refine frN2 hs hd h1 h2 ?_; clear hs hd h1 h2 h0; intro a hs hd h1 h2 h3
  obtain ⟨w1, hw1⟩ : ∃ wn, wn = w.alloc (.cells #[.int .u8 F, .int .u8 I, .int .u8 E, .int .u16 C, .int .u32 U, .slice AM lm.length cM, .slice AD ld.length cD, .slice AW lw.length cW, .slice AP lp.length cP] 29) := ⟨_, rfl⟩
  rw [← hw1]
  have q1 : Blk w1 w.heap.size 29 #[.int .u8 F, .int .u8 I, .int .u8 E, .int .u16 C, .int .u32 U, .slice AM lm.length cM, .slice AD ld.length cD, .slice AW lw.length cW, .slice AP lp.length cP] := by rw [hw1]; exact Blk.alloc _ _ _
  have l1 : Below w.heap.size w w1 := by rw [hw1]; exact (Below.refl _ _).alloc (Nat.le_refl _) _
  clear hw1
  refine opL 1 6 (v := .bool false) (w' := w1) (by kernel_rfl) (frZ hs) ?_ ?_
  · exact frY rfl (k_assign rfl rfl)
  refine frN3 hs hd h1 h2 h3 ?_; clear hs hd h1 h2 h3; intro a hs hd h1 h2 h3 h6
  refine wp_seq ?_
  refine wp_seq ?_
  refine wp_region (show wpOps _ _ _ [0, 1] _ _ from ?_)
  have hc := awake3 w1 (hT.below l1).t
  have hx := fun ops Q rest d a i h1 h2 h3 => opL_call (P := Tryz.prog) (ops := ops) (Q := Q) (a := a) (w := w1) (rest := rest) i d h1 h2 h3 hc
  refine hx _ _ _ 18 _ 0 ?z5a ?z5b ?z5 ?z6
  case z5a => kernel_rfl
  case z5b => (rw [hs]; decide)
  case z5 => exact frY rfl (c_Awk3 rfl rfl)
  case z6 =>
  rintro _ w2 a ⟨rfl, l2⟩ F0
  replace hs := F0.z.trans hs
  replace hd := F0.e.trans hd
  replace h1 := (F0.n 1 (by decide)).trans h1
  replace h2 := (F0.n 2 (by decide)).trans h2
  replace h3 := (F0.n 3 (by decide)).trans h3
  replace h6 := (F0.n 6 (by decide)).trans h6
  have h18 := F0.s
  clear F0
  clear hx hc
  replace q1 := q1.below l2 q1.lt
  have m2 := l1.trans (l2.mono l1.size)
  clear l1 l2
  refine opL 1 19 (v := .bool false) (w' := w2) (by kernel_rfl) (frZ hs) ?_ ?_
  · exact frY rfl (o_not rfl (ev_tmp h18) rfl)
  refine frN4 hs hd h1 h2 h3 h6 ?_; clear hs hd h1 h2 h3 h6 h18; intro a hs hd h1 h2 h3 h6 h19
  refine wp_cond_false (ev_tmp h19) ?_
  clear h19
  refine wp_skip ?_
  refine wp_seq ?_
  refine wp_seq ?_
  refine wp_region (show wpOps _ _ _ [0, 1, 2, 3, 4, 5, 6, 7, 8, 9, 10, 11] _ _ from ?_)
  refine opL 0 20 (v := .agg #[.int .u8 F, .int .u8 I, .int .u8 E, .int .u16 C, .int .u32 U, .slice AM lm.length cM, .slice AD ld.length cD, .slice AW lw.length cW, .slice AP lp.length cP]) (w' := w2) (by kernel_rfl) (frZ hs) ?_ ?_
  · exact frY rfl (k_load9 rfl (ev_tmp h3) q1)
  revert hs hd h1 h2 h3 h6; refine frM4 ?_; intro a hs hd h1 h2 h3 h6 h20
  refine opL_call 1 21 (f := 8) (args := #[.agg #[.int .u8 F, .int .u8 I, .int .u8 E, .int .u16 C, .int .u32 U, .slice AM lm.length cM, .slice AD ld.length cD, .slice AW lw.length cW, .slice AP lp.length cP]]) (R := fun v w' => v = .bool (light lm ld lw lp) ∧ Below w2.heap.size w2 w') (by kernel_rfl) (frZ hs) ?z11 (light_any _ _ _ _ _ AM AD AW AP cM cD cW cP lm ld lw lp w2 hX.lm1 hX.ld1 hX.lw1 hX.lp1) ?z12
  case z11 => exact frY rfl (c_Light rfl rfl (ev_tmp h20))
  case z12 =>
  rintro _ w3 a ⟨rfl, l3⟩ F0
  rw [hlt] at F0
  replace hs := F0.z.trans hs
  replace hd := F0.e.trans hd
  replace h1 := (F0.n 1 (by decide)).trans h1
  replace h2 := (F0.n 2 (by decide)).trans h2
  replace h3 := (F0.n 3 (by decide)).trans h3
  replace h6 := (F0.n 6 (by decide)).trans h6
  clear h20
  have h21 := F0.s
  clear F0
  replace q1 := q1.below l3 q1.lt
  have m3 := m2.trans (l3.mono m2.size)
  clear m2 l3
  refine opL 2 22 (v := .bool true) (w' := w3) (by kernel_rfl) (frZ hs) ?_ ?_
  · exact frY rfl (o_not rfl (ev_tmp h21) rfl)
  refine frN4 hs hd h1 h2 h3 h6 ?_; clear hs hd h1 h2 h3 h6 h21; intro a hs hd h1 h2 h3 h6 h22
  refine opL 3 23 (v := .bool true) (w' := w3) (by kernel_rfl) (frZ hs) ?_ ?_
  · exact frY rfl (k_move rfl (ev_tmp h22))
  clear h22; revert hs hd h1 h2 h3 h6; refine frM4 ?_; intro a hs hd h1 h2 h3 h6 h23
  refine opL_not 4 24 (by kernel_rfl) (frZ hs) ?z17 ?z18
  case z17 => (intro o ho; obtain rfl := Option.some.inj ho; exact wanted_at (b := true) (want := false) rfl (by kernel_rfl) h23)
  case z18 =>
  refine frN5 hs hd h1 h2 h3 h6 h23 ?_; clear hs hd h1 h2 h3 h6 h23; intro a hs hd h1 h2 h3 h6 h23 h24
  refine opL_not 5 25 (by kernel_rfl) (frZ hs) ?z19 ?z20
  case z19 => (intro o ho; obtain rfl := Option.some.inj ho; exact wanted_at (b := true) (want := false) rfl (by kernel_rfl) h23)
  case z20 =>
  refine frN5 hs hd h1 h2 h3 h6 h23 ?_; clear hs hd h1 h2 h3 h6 h23 h24; intro a hs hd h1 h2 h3 h6 h23 h25
  refine opL_not 6 26 (by kernel_rfl) (frZ hs) ?z21 ?z22
  case z21 => (intro o ho; obtain rfl := Option.some.inj ho; exact wanted_at (b := true) (want := false) rfl (by kernel_rfl) h23)
  case z22 =>
  refine frN5 hs hd h1 h2 h3 h6 h23 ?_; clear hs hd h1 h2 h3 h6 h23 h25; intro a hs hd h1 h2 h3 h6 h23 h26
  refine opL 7 27 (v := .bool true) (w' := w3) (by kernel_rfl) (frZ hs) ?_ ?_
  · exact frY rfl (k_pick_yes rfl (ev_tmp h23) rfl)
  clear h23 h26; revert hs hd h1 h2 h3 h6; refine frM4 ?_; intro a hs hd h1 h2 h3 h6 h27
  refine opL 8 28 (v := .bool true) (w' := w3) (by kernel_rfl) (frZ hs) ?_ ?_
  · exact frY rfl (k_move rfl (ev_tmp h27))
  clear h27; revert hs hd h1 h2 h3 h6; refine frM4 ?_; intro a hs hd h1 h2 h3 h6 h28
  refine opL_not 9 29 (by kernel_rfl) (frZ hs) ?z27 ?z28
  case z27 => (intro o ho; obtain rfl := Option.some.inj ho; exact wanted_at (b := true) (want := false) rfl (by kernel_rfl) h28)
  case z28 =>
  refine frN5 hs hd h1 h2 h3 h6 h28 ?_; clear hs hd h1 h2 h3 h6 h28; intro a hs hd h1 h2 h3 h6 h28 h29
  refine opL_not 10 30 (by kernel_rfl) (frZ hs) ?z29 ?z30
  case z29 => (intro o ho; obtain rfl := Option.some.inj ho; exact wanted_at (b := true) (want := false) rfl (by kernel_rfl) h28)
  case z30 =>
  refine frN5 hs hd h1 h2 h3 h6 h28 ?_; clear hs hd h1 h2 h3 h6 h28 h29; intro a hs hd h1 h2 h3 h6 h28 h30
  refine opL 11 31 (v := .bool true) (w' := w3) (by kernel_rfl) (frZ hs) ?_ ?_
  · exact frY rfl (k_pick_yes rfl (ev_tmp h28) rfl)
  clear h28 h30; revert hs hd h1 h2 h3 h6; refine frM4 ?_; intro a hs hd h1 h2 h3 h6 h31
  refine wp_cond_true (ev_tmp h31) ?_
  clear h31
  refine wp_seq ?_
  refine wp_region (show wpOps _ _ _ [0] _ _ from ?_)
  refine opL 0 6 (v := .bool true) (w' := w3) (by kernel_rfl) (frZ hs) ?_ ?_
  · exact frY rfl (k_assign rfl rfl)
  clear h6; revert hs hd h1 h2 h3; refine frM3 ?_; intro a hs hd h1 h2 h3 h6
  refine wp_ret ?_
  exact hfin a _ hd h6 m3

set_option maxRecDepth 100000 in
set_option maxHeartbeats 1000000 in
theorem rfcTwice_l (F I E C U : Int) (AM AD AW AP : Option Addr) (cM cD cW cP : Nat) (lm ld : List Int) (lw : List (Int × Int)) (lp : List Int) (k : Int) (s : List UInt8) (w : World) (hT : Tabs3 w) (hX : XIn0 w F I E C U AM AD AW AP lm ld lw lp) (hlt : light lm ld lw lp = true) (hln : 40 < s.length) :
    Calls Tryz.prog 6 #[.agg #[.int .u8 F, .int .u8 I, .int .u8 E, .int .u16 C, .int .u32 U, .slice AM lm.length cM, .slice AD ld.length cD, .slice AW lw.length cW, .slice AP lp.length cP], .int .u8 k, .string ⟨(s).toArray⟩] w fun e w' => e = .returned (.bool true) ∧ Below w.heap.size w w' := by
  refine calls_of_wp Tryz.func6 (show Tryz.f6.body = some twiceBody from rfl) ?_
  generalize hA : (Act.mk (#[.agg #[.int .u8 F, .int .u8 I, .int .u8 E, .int .u16 C, .int .u32 U, .slice AM lm.length cM, .slice AD ld.length cD, .slice AW lw.length cW, .slice AP lp.length cP], .int .u8 k, .string ⟨(s).toArray⟩] ++ Array.replicate (Tryz.f6.ntmps - (#[.agg #[.int .u8 F, .int .u8 I, .int .u8 E, .int .u16 C, .int .u32 U, .slice AM lm.length cM, .slice AD ld.length cD, .slice AW lw.length cW, .slice AP lp.length cP], .int .u8 k, .string ⟨(s).toArray⟩] : Array Value).size) undef) []) = a
  have hs : a.tmps.size = 89 := by rw [← hA]; simp [Tryz.ntmps6]
  have hd : a.defers = [] := by rw [← hA]
  have h0 : a.tmps.getD 0 undef = .agg #[.int .u8 F, .int .u8 I, .int .u8 E, .int .u16 C, .int .u32 U, .slice AM lm.length cM, .slice AD ld.length cD, .slice AW lw.length cW, .slice AP lp.length cP] := by rw [← hA]; simp
  have h1 : a.tmps.getD 1 undef = .int .u8 k := by rw [← hA]; simp
  have h2 : a.tmps.getD 2 undef = .string ⟨(s).toArray⟩ := by rw [← hA]; simp
  clear hA
  refine Code.wp_mono NoPanic.imp ?_
  have hQ : Blind (NoPanic (bodyPost Tryz.prog Tryz.f6 fun e w' => e = .returned (.bool true) ∧ Below w.heap.size w w')) := fun _ _ _ _ q => q.elim
  have hfin : ∀ (a' : Act) (w' : World), a'.defers = [] → a'.tmps.getD 6 undef = .bool true → Below w.heap.size w w' → NoPanic (bodyPost Tryz.prog Tryz.f6 fun e w' => e = .returned (.bool true) ∧ Below w.heap.size w w') .ret a' w' := by
    intro a' w' k1 k2 k3
    exact ⟨k1, _, results_tmp rfl _ _ _, by rw [k2], k3⟩
  generalize NoPanic (bodyPost Tryz.prog Tryz.f6 fun e w' => e = .returned (.bool true) ∧ Below w.heap.size w w') = Q at hQ hfin
  unfold twiceBody
  conv => arg 2; whnf
  refine wp_seq ?_
  refine wp_region (show wpOps _ _ _ [0, 1] _ _ from ?_)
  refine opL 0 3 (v := .pointer (some ⟨w.heap.size, 0, none⟩)) (w' := (w.alloc (.cells #[.int .u8 F, .int .u8 I, .int .u8 E, .int .u16 C, .int .u32 U, .slice AM lm.length cM, .slice AD ld.length cD, .slice AW lw.length cW, .slice AP lp.length cP] 29))) (by kernel_rfl) (frZ hs) ?_ ?_
  · exact frY rfl (k_box9 rfl (ev_tmp h0))
  refine frN2 hs hd h1 h2 ?_; clear hs hd h1 h2 h0; intro a hs hd h1 h2 h3
  obtain ⟨w1, hw1⟩ : ∃ wn, wn = w.alloc (.cells #[.int .u8 F, .int .u8 I, .int .u8 E, .int .u16 C, .int .u32 U, .slice AM lm.length cM, .slice AD ld.length cD, .slice AW lw.length cW, .slice AP lp.length cP] 29) := ⟨_, rfl⟩
  rw [← hw1]
  have q1 : Blk w1 w.heap.size 29 #[.int .u8 F, .int .u8 I, .int .u8 E, .int .u16 C, .int .u32 U, .slice AM lm.length cM, .slice AD ld.length cD, .slice AW lw.length cW, .slice AP lp.length cP] := by rw [hw1]; exact Blk.alloc _ _ _
  have l1 : Below w.heap.size w w1 := by rw [hw1]; exact (Below.refl _ _).alloc (Nat.le_refl _) _
  clear hw1
  refine opL 1 6 (v := .bool false) (w' := w1) (by kernel_rfl) (frZ hs) ?_ ?_
  · exact frY rfl (k_assign rfl rfl)
  refine frN3 hs hd h1 h2 h3 ?_; clear hs hd h1 h2 h3; intro a hs hd h1 h2 h3 h6
  refine wp_seq ?_
  refine wp_seq ?_
  refine wp_region (show wpOps _ _ _ [0, 1] _ _ from ?_)
  have hc := awake3 w1 (hT.below l1).t
  have hx := fun ops Q rest d a i h1 h2 h3 => opL_call (P := Tryz.prog) (ops := ops) (Q := Q) (a := a) (w := w1) (rest := rest) i d h1 h2 h3 hc
  refine hx _ _ _ 18 _ 0 ?z39a ?z39b ?z39 ?z40
  case z39a => kernel_rfl
  case z39b => (rw [hs]; decide)
  case z39 => exact frY rfl (c_Awk3 rfl rfl)
  case z40 =>
  rintro _ w2 a ⟨rfl, l2⟩ F0
  replace hs := F0.z.trans hs
  replace hd := F0.e.trans hd
  replace h1 := (F0.n 1 (by decide)).trans h1
  replace h2 := (F0.n 2 (by decide)).trans h2
  replace h3 := (F0.n 3 (by decide)).trans h3
  replace h6 := (F0.n 6 (by decide)).trans h6
  have h18 := F0.s
  clear F0
  clear hx hc
  replace q1 := q1.below l2 q1.lt
  have m2 := l1.trans (l2.mono l1.size)
  clear l1 l2
  refine opL 1 19 (v := .bool false) (w' := w2) (by kernel_rfl) (frZ hs) ?_ ?_
  · exact frY rfl (o_not rfl (ev_tmp h18) rfl)
  refine frN4 hs hd h1 h2 h3 h6 ?_; clear hs hd h1 h2 h3 h6 h18; intro a hs hd h1 h2 h3 h6 h19
  refine wp_cond_false (ev_tmp h19) ?_
  clear h19
  refine wp_skip ?_
  refine wp_seq ?_
  refine wp_seq ?_
  refine wp_region (show wpOps _ _ _ [0, 1, 2, 3, 4, 5, 6, 7, 8, 9, 10, 11] _ _ from ?_)
  refine opL 0 20 (v := .agg #[.int .u8 F, .int .u8 I, .int .u8 E, .int .u16 C, .int .u32 U, .slice AM lm.length cM, .slice AD ld.length cD, .slice AW lw.length cW, .slice AP lp.length cP]) (w' := w2) (by kernel_rfl) (frZ hs) ?_ ?_
  · exact frY rfl (k_load9 rfl (ev_tmp h3) q1)
  revert hs hd h1 h2 h3 h6; refine frM4 ?_; intro a hs hd h1 h2 h3 h6 h20
  refine opL_call 1 21 (f := 8) (args := #[.agg #[.int .u8 F, .int .u8 I, .int .u8 E, .int .u16 C, .int .u32 U, .slice AM lm.length cM, .slice AD ld.length cD, .slice AW lw.length cW, .slice AP lp.length cP]]) (R := fun v w' => v = .bool (light lm ld lw lp) ∧ Below w2.heap.size w2 w') (by kernel_rfl) (frZ hs) ?z45 (light_any _ _ _ _ _ AM AD AW AP cM cD cW cP lm ld lw lp w2 hX.lm1 hX.ld1 hX.lw1 hX.lp1) ?z46
  case z45 => exact frY rfl (c_Light rfl rfl (ev_tmp h20))
  case z46 =>
  rintro _ w3 a ⟨rfl, l3⟩ F0
  rw [hlt] at F0
  replace hs := F0.z.trans hs
  replace hd := F0.e.trans hd
  replace h1 := (F0.n 1 (by decide)).trans h1
  replace h2 := (F0.n 2 (by decide)).trans h2
  replace h3 := (F0.n 3 (by decide)).trans h3
  replace h6 := (F0.n 6 (by decide)).trans h6
  clear h20
  have h21 := F0.s
  clear F0
  replace q1 := q1.below l3 q1.lt
  have m3 := m2.trans (l3.mono m2.size)
  clear m2 l3
  refine opL 2 22 (v := .bool false) (w' := w3) (by kernel_rfl) (frZ hs) ?_ ?_
  · exact frY rfl (o_not rfl (ev_tmp h21) rfl)
  refine frN4 hs hd h1 h2 h3 h6 ?_; clear hs hd h1 h2 h3 h6 h21; intro a hs hd h1 h2 h3 h6 h22
  refine opL 3 23 (v := .bool false) (w' := w3) (by kernel_rfl) (frZ hs) ?_ ?_
  · exact frY rfl (k_move rfl (ev_tmp h22))
  clear h22; revert hs hd h1 h2 h3 h6; refine frM4 ?_; intro a hs hd h1 h2 h3 h6 h23
  refine opL 4 24 (v := .string ⟨(s).toArray⟩) (w' := w3) (by kernel_rfl) (frZ hs) ?z51 ?z52
  case z51 => (intro o ho; obtain rfl := Option.some.inj ho; exact ⟨wanted_at (b := false) (want := false) rfl (by kernel_rfl) h23, k_move rfl (ev_tmp h2)⟩)
  case z52 =>
  refine frN5 hs hd h1 h2 h3 h6 h23 ?_; clear hs hd h1 h2 h3 h6 h23; intro a hs hd h1 h2 h3 h6 h23 h24
  refine opL 5 25 (v := .int .i64 ((⟨s.toArray⟩ : ByteArray).size : Nat)) (w' := w3) (by kernel_rfl) (frZ hs) ?z53 ?z54
  case z53 => (intro o ho; obtain rfl := Option.some.inj ho; exact ⟨wanted_at (b := false) (want := false) rfl (by kernel_rfl) h23, k_lenT rfl (ev_tmp h24)⟩)
  case z54 =>
  refine frN5 hs hd h1 h2 h3 h6 h23 ?_; clear hs hd h1 h2 h3 h6 h23 h24; intro a hs hd h1 h2 h3 h6 h23 h25
  refine opL 6 26 (v := .bool true) (w' := w3) (by kernel_rfl) (frZ hs) ?z55 ?z56
  case z55 => (intro o ho; obtain rfl := Option.some.inj ho; exact ⟨wanted_at (b := false) (want := false) rfl (by kernel_rfl) h23, o_gtI rfl (ev_tmp h25) rfl (decide_eq_true (by rw [ba_len]; omega))⟩)
  case z56 =>
  refine frN5 hs hd h1 h2 h3 h6 h23 ?_; clear hs hd h1 h2 h3 h6 h23 h25; intro a hs hd h1 h2 h3 h6 h23 h26
  refine opL 7 27 (v := .bool true) (w' := w3) (by kernel_rfl) (frZ hs) ?_ ?_
  · exact frY rfl (k_pick_no rfl (ev_tmp h23) (ev_tmp h26))
  clear h23 h26; revert hs hd h1 h2 h3 h6; refine frM4 ?_; intro a hs hd h1 h2 h3 h6 h27
  refine opL 8 28 (v := .bool true) (w' := w3) (by kernel_rfl) (frZ hs) ?_ ?_
  · exact frY rfl (k_move rfl (ev_tmp h27))
  clear h27; revert hs hd h1 h2 h3 h6; refine frM4 ?_; intro a hs hd h1 h2 h3 h6 h28
  refine opL_not 9 29 (by kernel_rfl) (frZ hs) ?z61 ?z62
  case z61 => (intro o ho; obtain rfl := Option.some.inj ho; exact wanted_at (b := true) (want := false) rfl (by kernel_rfl) h28)
  case z62 =>
  refine frN5 hs hd h1 h2 h3 h6 h28 ?_; clear hs hd h1 h2 h3 h6 h28; intro a hs hd h1 h2 h3 h6 h28 h29
  refine opL_not 10 30 (by kernel_rfl) (frZ hs) ?z63 ?z64
  case z63 => (intro o ho; obtain rfl := Option.some.inj ho; exact wanted_at (b := true) (want := false) rfl (by kernel_rfl) h28)
  case z64 =>
  refine frN5 hs hd h1 h2 h3 h6 h28 ?_; clear hs hd h1 h2 h3 h6 h28 h29; intro a hs hd h1 h2 h3 h6 h28 h30
  refine opL 11 31 (v := .bool true) (w' := w3) (by kernel_rfl) (frZ hs) ?_ ?_
  · exact frY rfl (k_pick_yes rfl (ev_tmp h28) rfl)
  clear h28 h30; revert hs hd h1 h2 h3 h6; refine frM4 ?_; intro a hs hd h1 h2 h3 h6 h31
  refine wp_cond_true (ev_tmp h31) ?_
  clear h31
  refine wp_seq ?_
  refine wp_region (show wpOps _ _ _ [0] _ _ from ?_)
  refine opL 0 6 (v := .bool true) (w' := w3) (by kernel_rfl) (frZ hs) ?_ ?_
  · exact frY rfl (k_assign rfl rfl)
  clear h6; revert hs hd h1 h2 h3; refine frM3 ?_; intro a hs hd h1 h2 h3 h6
  refine wp_ret ?_
  exact hfin a _ hd h6 m3

set_option maxRecDepth 100000 in
set_option maxHeartbeats 1000000 in
theorem rfcTwice_c (F I E C U : Int) (AM AD AW AP : Option Addr) (cM cD cW cP : Nat) (lm ld : List Int) (lw : List (Int × Int)) (lp : List Int) (k : Int) (s : List UInt8) (w : World) (hT : Tabs3 w) (hX : XIn0 w F I E C U AM AD AW AP lm ld lw lp) (hlt : light lm ld lw lp = true) (hln : s.length ≤ 40) (hcon : decide (0 ≤ Lib.indexByte s 59) = true) :
    Calls Tryz.prog 6 #[.agg #[.int .u8 F, .int .u8 I, .int .u8 E, .int .u16 C, .int .u32 U, .slice AM lm.length cM, .slice AD ld.length cD, .slice AW lw.length cW, .slice AP lp.length cP], .int .u8 k, .string ⟨(s).toArray⟩] w fun e w' => e = .returned (.bool true) ∧ Below w.heap.size w w' := by
  refine calls_of_wp Tryz.func6 (show Tryz.f6.body = some twiceBody from rfl) ?_
  generalize hA : (Act.mk (#[.agg #[.int .u8 F, .int .u8 I, .int .u8 E, .int .u16 C, .int .u32 U, .slice AM lm.length cM, .slice AD ld.length cD, .slice AW lw.length cW, .slice AP lp.length cP], .int .u8 k, .string ⟨(s).toArray⟩] ++ Array.replicate (Tryz.f6.ntmps - (#[.agg #[.int .u8 F, .int .u8 I, .int .u8 E, .int .u16 C, .int .u32 U, .slice AM lm.length cM, .slice AD ld.length cD, .slice AW lw.length cW, .slice AP lp.length cP], .int .u8 k, .string ⟨(s).toArray⟩] : Array Value).size) undef) []) = a
  have hs : a.tmps.size = 89 := by rw [← hA]; simp [Tryz.ntmps6]
  have hd : a.defers = [] := by rw [← hA]
  have h0 : a.tmps.getD 0 undef = .agg #[.int .u8 F, .int .u8 I, .int .u8 E, .int .u16 C, .int .u32 U, .slice AM lm.length cM, .slice AD ld.length cD, .slice AW lw.length cW, .slice AP lp.length cP] := by rw [← hA]; simp
  have h1 : a.tmps.getD 1 undef = .int .u8 k := by rw [← hA]; simp
  have h2 : a.tmps.getD 2 undef = .string ⟨(s).toArray⟩ := by rw [← hA]; simp
  clear hA
  refine Code.wp_mono NoPanic.imp ?_
  have hQ : Blind (NoPanic (bodyPost Tryz.prog Tryz.f6 fun e w' => e = .returned (.bool true) ∧ Below w.heap.size w w')) := fun _ _ _ _ q => q.elim
  have hfin : ∀ (a' : Act) (w' : World), a'.defers = [] → a'.tmps.getD 6 undef = .bool true → Below w.heap.size w w' → NoPanic (bodyPost Tryz.prog Tryz.f6 fun e w' => e = .returned (.bool true) ∧ Below w.heap.size w w') .ret a' w' := by
    intro a' w' k1 k2 k3
    exact ⟨k1, _, results_tmp rfl _ _ _, by rw [k2], k3⟩
  generalize NoPanic (bodyPost Tryz.prog Tryz.f6 fun e w' => e = .returned (.bool true) ∧ Below w.heap.size w w') = Q at hQ hfin
  unfold twiceBody
  conv => arg 2; whnf
  refine wp_seq ?_
  refine wp_region (show wpOps _ _ _ [0, 1] _ _ from ?_)
  refine opL 0 3 (v := .pointer (some ⟨w.heap.size, 0, none⟩)) (w' := (w.alloc (.cells #[.int .u8 F, .int .u8 I, .int .u8 E, .int .u16 C, .int .u32 U, .slice AM lm.length cM, .slice AD ld.length cD, .slice AW lw.length cW, .slice AP lp.length cP] 29))) (by kernel_rfl) (frZ hs) ?_ ?_
  · exact frY rfl (k_box9 rfl (ev_tmp h0))
  refine frN2 hs hd h1 h2 ?_; clear hs hd h1 h2 h0; intro a hs hd h1 h2 h3
  obtain ⟨w1, hw1⟩ : ∃ wn, wn = w.alloc (.cells #[.int .u8 F, .int .u8 I, .int .u8 E, .int .u16 C, .int .u32 U, .slice AM lm.length cM, .slice AD ld.length cD, .slice AW lw.length cW, .slice AP lp.length cP] 29) := ⟨_, rfl⟩
  rw [← hw1]
  have q1 : Blk w1 w.heap.size 29 #[.int .u8 F, .int .u8 I, .int .u8 E, .int .u16 C, .int .u32 U, .slice AM lm.length cM, .slice AD ld.length cD, .slice AW lw.length cW, .slice AP lp.length cP] := by rw [hw1]; exact Blk.alloc _ _ _
  have l1 : Below w.heap.size w w1 := by rw [hw1]; exact (Below.refl _ _).alloc (Nat.le_refl _) _
  clear hw1
  refine opL 1 6 (v := .bool false) (w' := w1) (by kernel_rfl) (frZ hs) ?_ ?_
  · exact frY rfl (k_assign rfl rfl)
  refine frN3 hs hd h1 h2 h3 ?_; clear hs hd h1 h2 h3; intro a hs hd h1 h2 h3 h6
  refine wp_seq ?_
  refine wp_seq ?_
  refine wp_region (show wpOps _ _ _ [0, 1] _ _ from ?_)
  have hc := awake3 w1 (hT.below l1).t
  have hx := fun ops Q rest d a i h1 h2 h3 => opL_call (P := Tryz.prog) (ops := ops) (Q := Q) (a := a) (w := w1) (rest := rest) i d h1 h2 h3 hc
  refine hx _ _ _ 18 _ 0 ?z73a ?z73b ?z73 ?z74
  case z73a => kernel_rfl
  case z73b => (rw [hs]; decide)
  case z73 => exact frY rfl (c_Awk3 rfl rfl)
  case z74 =>
  rintro _ w2 a ⟨rfl, l2⟩ F0
  replace hs := F0.z.trans hs
  replace hd := F0.e.trans hd
  replace h1 := (F0.n 1 (by decide)).trans h1
  replace h2 := (F0.n 2 (by decide)).trans h2
  replace h3 := (F0.n 3 (by decide)).trans h3
  replace h6 := (F0.n 6 (by decide)).trans h6
  have h18 := F0.s
  clear F0
  clear hx hc
  replace q1 := q1.below l2 q1.lt
  have m2 := l1.trans (l2.mono l1.size)
  clear l1 l2
  refine opL 1 19 (v := .bool false) (w' := w2) (by kernel_rfl) (frZ hs) ?_ ?_
  · exact frY rfl (o_not rfl (ev_tmp h18) rfl)
  refine frN4 hs hd h1 h2 h3 h6 ?_; clear hs hd h1 h2 h3 h6 h18; intro a hs hd h1 h2 h3 h6 h19
  refine wp_cond_false (ev_tmp h19) ?_
  clear h19
  refine wp_skip ?_
  refine wp_seq ?_
  refine wp_seq ?_
  refine wp_region (show wpOps _ _ _ [0, 1, 2, 3, 4, 5, 6, 7, 8, 9, 10, 11] _ _ from ?_)
  refine opL 0 20 (v := .agg #[.int .u8 F, .int .u8 I, .int .u8 E, .int .u16 C, .int .u32 U, .slice AM lm.length cM, .slice AD ld.length cD, .slice AW lw.length cW, .slice AP lp.length cP]) (w' := w2) (by kernel_rfl) (frZ hs) ?_ ?_
  · exact frY rfl (k_load9 rfl (ev_tmp h3) q1)
  revert hs hd h1 h2 h3 h6; refine frM4 ?_; intro a hs hd h1 h2 h3 h6 h20
  refine opL_call 1 21 (f := 8) (args := #[.agg #[.int .u8 F, .int .u8 I, .int .u8 E, .int .u16 C, .int .u32 U, .slice AM lm.length cM, .slice AD ld.length cD, .slice AW lw.length cW, .slice AP lp.length cP]]) (R := fun v w' => v = .bool (light lm ld lw lp) ∧ Below w2.heap.size w2 w') (by kernel_rfl) (frZ hs) ?z79 (light_any _ _ _ _ _ AM AD AW AP cM cD cW cP lm ld lw lp w2 hX.lm1 hX.ld1 hX.lw1 hX.lp1) ?z80
  case z79 => exact frY rfl (c_Light rfl rfl (ev_tmp h20))
  case z80 =>
  rintro _ w3 a ⟨rfl, l3⟩ F0
  rw [hlt] at F0
  replace hs := F0.z.trans hs
  replace hd := F0.e.trans hd
  replace h1 := (F0.n 1 (by decide)).trans h1
  replace h2 := (F0.n 2 (by decide)).trans h2
  replace h3 := (F0.n 3 (by decide)).trans h3
  replace h6 := (F0.n 6 (by decide)).trans h6
  clear h20
  have h21 := F0.s
  clear F0
  replace q1 := q1.below l3 q1.lt
  have m3 := m2.trans (l3.mono m2.size)
  clear m2 l3
  refine opL 2 22 (v := .bool false) (w' := w3) (by kernel_rfl) (frZ hs) ?_ ?_
  · exact frY rfl (o_not rfl (ev_tmp h21) rfl)
  refine frN4 hs hd h1 h2 h3 h6 ?_; clear hs hd h1 h2 h3 h6 h21; intro a hs hd h1 h2 h3 h6 h22
  refine opL 3 23 (v := .bool false) (w' := w3) (by kernel_rfl) (frZ hs) ?_ ?_
  · exact frY rfl (k_move rfl (ev_tmp h22))
  clear h22; revert hs hd h1 h2 h3 h6; refine frM4 ?_; intro a hs hd h1 h2 h3 h6 h23
  refine opL 4 24 (v := .string ⟨(s).toArray⟩) (w' := w3) (by kernel_rfl) (frZ hs) ?z85 ?z86
  case z85 => (intro o ho; obtain rfl := Option.some.inj ho; exact ⟨wanted_at (b := false) (want := false) rfl (by kernel_rfl) h23, k_move rfl (ev_tmp h2)⟩)
  case z86 =>
  refine frN5 hs hd h1 h2 h3 h6 h23 ?_; clear hs hd h1 h2 h3 h6 h23; intro a hs hd h1 h2 h3 h6 h23 h24
  refine opL 5 25 (v := .int .i64 ((⟨s.toArray⟩ : ByteArray).size : Nat)) (w' := w3) (by kernel_rfl) (frZ hs) ?z87 ?z88
  case z87 => (intro o ho; obtain rfl := Option.some.inj ho; exact ⟨wanted_at (b := false) (want := false) rfl (by kernel_rfl) h23, k_lenT rfl (ev_tmp h24)⟩)
  case z88 =>
  refine frN5 hs hd h1 h2 h3 h6 h23 ?_; clear hs hd h1 h2 h3 h6 h23 h24; intro a hs hd h1 h2 h3 h6 h23 h25
  refine opL 6 26 (v := .bool false) (w' := w3) (by kernel_rfl) (frZ hs) ?z89 ?z90
  case z89 => (intro o ho; obtain rfl := Option.some.inj ho; exact ⟨wanted_at (b := false) (want := false) rfl (by kernel_rfl) h23, o_gtI rfl (ev_tmp h25) rfl (decide_eq_false (by rw [ba_len]; omega))⟩)
  case z90 =>
  refine frN5 hs hd h1 h2 h3 h6 h23 ?_; clear hs hd h1 h2 h3 h6 h23 h25; intro a hs hd h1 h2 h3 h6 h23 h26
  refine opL 7 27 (v := .bool false) (w' := w3) (by kernel_rfl) (frZ hs) ?_ ?_
  · exact frY rfl (k_pick_no rfl (ev_tmp h23) (ev_tmp h26))
  clear h23 h26; revert hs hd h1 h2 h3 h6; refine frM4 ?_; intro a hs hd h1 h2 h3 h6 h27
  refine opL 8 28 (v := .bool false) (w' := w3) (by kernel_rfl) (frZ hs) ?_ ?_
  · exact frY rfl (k_move rfl (ev_tmp h27))
  clear h27; revert hs hd h1 h2 h3 h6; refine frM4 ?_; intro a hs hd h1 h2 h3 h6 h28
  refine opL 9 29 (v := .string ⟨(s).toArray⟩) (w' := w3) (by kernel_rfl) (frZ hs) ?z95 ?z96
  case z95 => (intro o ho; obtain rfl := Option.some.inj ho; exact ⟨wanted_at (b := false) (want := false) rfl (by kernel_rfl) h28, k_move rfl (ev_tmp h2)⟩)
  case z96 =>
  refine frN5 hs hd h1 h2 h3 h6 h28 ?_; clear hs hd h1 h2 h3 h6 h28; intro a hs hd h1 h2 h3 h6 h28 h29
  have hc := con_any s w3
  have hx := fun ops Q rest d a i h1 h2 h3 => opL_call (P := Tryz.prog) (ops := ops) (Q := Q) (a := a) (w := w3) (rest := rest) i d h1 h2 h3 hc
  refine hx _ _ _ 30 _ 10 ?z97a ?z97b ?z97 ?z98
  case z97a => kernel_rfl
  case z97b => (rw [hs]; decide)
  case z97 => (intro o ho; obtain rfl := Option.some.inj ho; exact ⟨wanted_at (b := false) (want := false) rfl (by kernel_rfl) h28, c_Con rfl rfl (ev_tmp h29) rfl⟩)
  case z98 =>
  rintro _ w3b a ⟨rfl, hww⟩ F0
  subst hww
  rw [hcon] at F0
  replace hs := F0.z.trans hs
  replace hd := F0.e.trans hd
  replace h1 := (F0.n 1 (by decide)).trans h1
  replace h2 := (F0.n 2 (by decide)).trans h2
  replace h3 := (F0.n 3 (by decide)).trans h3
  replace h6 := (F0.n 6 (by decide)).trans h6
  replace h28 := (F0.n 28 (by decide)).trans h28
  clear h29
  have h30 := F0.s
  clear F0
  clear hx hc
  refine opL 11 31 (v := .bool true) (w' := w3) (by kernel_rfl) (frZ hs) ?_ ?_
  · exact frY rfl (k_pick_no rfl (ev_tmp h28) (ev_tmp h30))
  refine frN4 hs hd h1 h2 h3 h6 ?_; clear hs hd h1 h2 h3 h6 h28 h30; intro a hs hd h1 h2 h3 h6 h31
  refine wp_cond_true (ev_tmp h31) ?_
  clear h31
  refine wp_seq ?_
  refine wp_region (show wpOps _ _ _ [0] _ _ from ?_)
  refine opL 0 6 (v := .bool true) (w' := w3) (by kernel_rfl) (frZ hs) ?_ ?_
  · exact frY rfl (k_assign rfl rfl)
  clear h6; revert hs hd h1 h2 h3; refine frM3 ?_; intro a hs hd h1 h2 h3 h6
  refine wp_ret ?_
  exact hfin a _ hd h6 m3

set_option maxRecDepth 100000 in
set_option maxHeartbeats 2000000 in
theorem rfcTwice_main (F I E C U : Int) (AM AD AW AP : Option Addr) (cM cD cW cP : Nat) (lm ld : List Int) (lw : List (Int × Int)) (lp : List Int) (k : Int) (s : List UInt8) (w : World) (hT : Tabs3 w) (hX : XIn0 w F I E C U AM AD AW AP lm ld lw lp) (hk : 0 ≤ k ∧ k ≤ 255) (hlt : light lm ld lw lp = true) (hln : s.length ≤ 40) (hcon : decide (0 ≤ Lib.indexByte s 59) = false) :
    Calls Tryz.prog 6 #[.agg #[.int .u8 F, .int .u8 I, .int .u8 E, .int .u16 C, .int .u32 U, .slice AM lm.length cM, .slice AD ld.length cD, .slice AW lw.length cW, .slice AP lp.length cP], .int .u8 k, .string ⟨(s).toArray⟩] w fun e w' => e = .returned (.bool true) ∧ Below w.heap.size w w' := by
  have hsemi := not_in hcon
  have ll : lm.length ≤ 20 ∧ ld.length ≤ 20 ∧ lw.length ≤ 20 ∧ lp.length ≤ 20 := by simpa [light] using hlt
  obtain ⟨n1, n2, n3, n4⟩ := make_20 (F := F) ll.1 ll.2.1 ll.2.2.1 ll.2.2.2
  obtain ⟨ck, -, -, t, ok⟩ := make_okay (hX.full hlt) (by omega) (by omega) (by omega) (by omega)
  have htl := text_20 ok n1 n2 n3 n4
  obtain ⟨gg, hpt⟩ := Rfc.parse_text' ok ck htl
  clear hpt gg
  have hv20 := vals_20 ok n1 n2 n3 n4
  obtain ⟨PS, hspl, hps, hle, hjn, hrest, hmem⟩ := Rfc.twice_facts ok hv20 htl s hsemi hln
  have hkm := Int.tmod_eq_emod_of_nonneg (b := PS.length) hk.1
  have hk0 := Int.emod_nonneg k (show (PS.length : Int) ≠ 0 by omega)
  have hk1 := Int.emod_lt_of_pos k (show (0 : Int) < PS.length by omega)
  obtain ⟨j, hj⟩ : ∃ j : Nat, k.tmod PS.length = (j : Int) := ⟨(k.tmod PS.length).toNat, by omega⟩
  have hjl : j < PS.length := by omega
  obtain ⟨hpj, q, cv, hcut, hnq, hp8, hp9⟩ := hmem PS[j] (List.getElem_mem hjl)
  clear hmem hkm hk0 hk1 ll n1 n2 n3 n4 hv20 ck
  refine calls_of_wp Tryz.func6 (show Tryz.f6.body = some twiceBody from rfl) ?_
  generalize hA : (Act.mk (#[.agg #[.int .u8 F, .int .u8 I, .int .u8 E, .int .u16 C, .int .u32 U, .slice AM lm.length cM, .slice AD ld.length cD, .slice AW lw.length cW, .slice AP lp.length cP], .int .u8 k, .string ⟨(s).toArray⟩] ++ Array.replicate (Tryz.f6.ntmps - (#[.agg #[.int .u8 F, .int .u8 I, .int .u8 E, .int .u16 C, .int .u32 U, .slice AM lm.length cM, .slice AD ld.length cD, .slice AW lw.length cW, .slice AP lp.length cP], .int .u8 k, .string ⟨(s).toArray⟩] : Array Value).size) undef) []) = a
  have hs : a.tmps.size = 89 := by rw [← hA]; simp [Tryz.ntmps6]
  have hd : a.defers = [] := by rw [← hA]
  have h0 : a.tmps.getD 0 undef = .agg #[.int .u8 F, .int .u8 I, .int .u8 E, .int .u16 C, .int .u32 U, .slice AM lm.length cM, .slice AD ld.length cD, .slice AW lw.length cW, .slice AP lp.length cP] := by rw [← hA]; simp
  have h1 : a.tmps.getD 1 undef = .int .u8 k := by rw [← hA]; simp
  have h2 : a.tmps.getD 2 undef = .string ⟨(s).toArray⟩ := by rw [← hA]; simp
  clear hA
  refine Code.wp_mono NoPanic.imp ?_
  have hQ : Blind (NoPanic (bodyPost Tryz.prog Tryz.f6 fun e w' => e = .returned (.bool true) ∧ Below w.heap.size w w')) := fun _ _ _ _ q => q.elim
  have hfin : ∀ (a' : Act) (w' : World), a'.defers = [] → a'.tmps.getD 6 undef = .bool true → Below w.heap.size w w' → NoPanic (bodyPost Tryz.prog Tryz.f6 fun e w' => e = .returned (.bool true) ∧ Below w.heap.size w w') .ret a' w' := by
    intro a' w' k1 k2 k3
    exact ⟨k1, _, results_tmp rfl _ _ _, by rw [k2], k3⟩
  generalize NoPanic (bodyPost Tryz.prog Tryz.f6 fun e w' => e = .returned (.bool true) ∧ Below w.heap.size w w') = Q at hQ hfin
  unfold twiceBody
  conv => arg 2; whnf
  refine wp_seq ?_
  refine wp_region (show wpOps _ _ _ [0, 1] _ _ from ?_)
  refine opL 0 3 (v := .pointer (some ⟨w.heap.size, 0, none⟩)) (w' := (w.alloc (.cells #[.int .u8 F, .int .u8 I, .int .u8 E, .int .u16 C, .int .u32 U, .slice AM lm.length cM, .slice AD ld.length cD, .slice AW lw.length cW, .slice AP lp.length cP] 29))) (by kernel_rfl) (frZ hs) ?_ ?_
  · exact frY rfl (k_box9 rfl (ev_tmp h0))
  refine frN2 hs hd h1 h2 ?_; clear hs hd h1 h2 h0; intro a hs hd h1 h2 h3
  obtain ⟨w1, hw1⟩ : ∃ wn, wn = w.alloc (.cells #[.int .u8 F, .int .u8 I, .int .u8 E, .int .u16 C, .int .u32 U, .slice AM lm.length cM, .slice AD ld.length cD, .slice AW lw.length cW, .slice AP lp.length cP] 29) := ⟨_, rfl⟩
  rw [← hw1]
  have q1 : Blk w1 w.heap.size 29 #[.int .u8 F, .int .u8 I, .int .u8 E, .int .u16 C, .int .u32 U, .slice AM lm.length cM, .slice AD ld.length cD, .slice AW lw.length cW, .slice AP lp.length cP] := by rw [hw1]; exact Blk.alloc _ _ _
  have l1 : Below w.heap.size w w1 := by rw [hw1]; exact (Below.refl _ _).alloc (Nat.le_refl _) _
  clear hw1
  refine opL 1 6 (v := .bool false) (w' := w1) (by kernel_rfl) (frZ hs) ?_ ?_
  · exact frY rfl (k_assign rfl rfl)
  refine frN3 hs hd h1 h2 h3 ?_; clear hs hd h1 h2 h3; intro a hs hd h1 h2 h3 h6
  refine wp_seq ?_
  refine wp_seq ?_
  refine wp_region (show wpOps _ _ _ [0, 1] _ _ from ?_)
  have hc := awake3 w1 (hT.below l1).t
  have hx := fun ops Q rest d a i h1 h2 h3 => opL_call (P := Tryz.prog) (ops := ops) (Q := Q) (a := a) (w := w1) (rest := rest) i d h1 h2 h3 hc
  refine hx _ _ _ 18 _ 0 ?z107a ?z107b ?z107 ?z108
  case z107a => kernel_rfl
  case z107b => (rw [hs]; decide)
  case z107 => exact frY rfl (c_Awk3 rfl rfl)
  case z108 =>
  rintro _ w2 a ⟨rfl, l2⟩ F0
  replace hs := F0.z.trans hs
  replace hd := F0.e.trans hd
  replace h1 := (F0.n 1 (by decide)).trans h1
  replace h2 := (F0.n 2 (by decide)).trans h2
  replace h3 := (F0.n 3 (by decide)).trans h3
  replace h6 := (F0.n 6 (by decide)).trans h6
  have h18 := F0.s
  clear F0
  clear hx hc
  replace q1 := q1.below l2 q1.lt
  have m2 := l1.trans (l2.mono l1.size)
  clear l1 l2
  refine opL 1 19 (v := .bool false) (w' := w2) (by kernel_rfl) (frZ hs) ?_ ?_
  · exact frY rfl (o_not rfl (ev_tmp h18) rfl)
  refine frN4 hs hd h1 h2 h3 h6 ?_; clear hs hd h1 h2 h3 h6 h18; intro a hs hd h1 h2 h3 h6 h19
  refine wp_cond_false (ev_tmp h19) ?_
  clear h19
  refine wp_skip ?_
  refine wp_seq ?_
  refine wp_seq ?_
  refine wp_region (show wpOps _ _ _ [0, 1, 2, 3, 4, 5, 6, 7, 8, 9, 10, 11] _ _ from ?_)
  refine opL 0 20 (v := .agg #[.int .u8 F, .int .u8 I, .int .u8 E, .int .u16 C, .int .u32 U, .slice AM lm.length cM, .slice AD ld.length cD, .slice AW lw.length cW, .slice AP lp.length cP]) (w' := w2) (by kernel_rfl) (frZ hs) ?_ ?_
  · exact frY rfl (k_load9 rfl (ev_tmp h3) q1)
  revert hs hd h1 h2 h3 h6; refine frM4 ?_; intro a hs hd h1 h2 h3 h6 h20
  refine opL_call 1 21 (f := 8) (args := #[.agg #[.int .u8 F, .int .u8 I, .int .u8 E, .int .u16 C, .int .u32 U, .slice AM lm.length cM, .slice AD ld.length cD, .slice AW lw.length cW, .slice AP lp.length cP]]) (R := fun v w' => v = .bool (light lm ld lw lp) ∧ Below w2.heap.size w2 w') (by kernel_rfl) (frZ hs) ?z113 (light_any _ _ _ _ _ AM AD AW AP cM cD cW cP lm ld lw lp w2 hX.lm1 hX.ld1 hX.lw1 hX.lp1) ?z114
  case z113 => exact frY rfl (c_Light rfl rfl (ev_tmp h20))
  case z114 =>
  rintro _ w3 a ⟨rfl, l3⟩ F0
  rw [hlt] at F0
  replace hs := F0.z.trans hs
  replace hd := F0.e.trans hd
  replace h1 := (F0.n 1 (by decide)).trans h1
  replace h2 := (F0.n 2 (by decide)).trans h2
  replace h3 := (F0.n 3 (by decide)).trans h3
  replace h6 := (F0.n 6 (by decide)).trans h6
  clear h20
  have h21 := F0.s
  clear F0
  replace q1 := q1.below l3 q1.lt
  have m3 := m2.trans (l3.mono m2.size)
  clear m2 l3
  refine opL 2 22 (v := .bool false) (w' := w3) (by kernel_rfl) (frZ hs) ?_ ?_
  · exact frY rfl (o_not rfl (ev_tmp h21) rfl)
  refine frN4 hs hd h1 h2 h3 h6 ?_; clear hs hd h1 h2 h3 h6 h21; intro a hs hd h1 h2 h3 h6 h22
  refine opL 3 23 (v := .bool false) (w' := w3) (by kernel_rfl) (frZ hs) ?_ ?_
  · exact frY rfl (k_move rfl (ev_tmp h22))
  clear h22; revert hs hd h1 h2 h3 h6; refine frM4 ?_; intro a hs hd h1 h2 h3 h6 h23
  refine opL 4 24 (v := .string ⟨(s).toArray⟩) (w' := w3) (by kernel_rfl) (frZ hs) ?z119 ?z120
  case z119 => (intro o ho; obtain rfl := Option.some.inj ho; exact ⟨wanted_at (b := false) (want := false) rfl (by kernel_rfl) h23, k_move rfl (ev_tmp h2)⟩)
  case z120 =>
  refine frN5 hs hd h1 h2 h3 h6 h23 ?_; clear hs hd h1 h2 h3 h6 h23; intro a hs hd h1 h2 h3 h6 h23 h24
  refine opL 5 25 (v := .int .i64 ((⟨s.toArray⟩ : ByteArray).size : Nat)) (w' := w3) (by kernel_rfl) (frZ hs) ?z121 ?z122
  case z121 => (intro o ho; obtain rfl := Option.some.inj ho; exact ⟨wanted_at (b := false) (want := false) rfl (by kernel_rfl) h23, k_lenT rfl (ev_tmp h24)⟩)
  case z122 =>
  refine frN5 hs hd h1 h2 h3 h6 h23 ?_; clear hs hd h1 h2 h3 h6 h23 h24; intro a hs hd h1 h2 h3 h6 h23 h25
  refine opL 6 26 (v := .bool false) (w' := w3) (by kernel_rfl) (frZ hs) ?z123 ?z124
  case z123 => (intro o ho; obtain rfl := Option.some.inj ho; exact ⟨wanted_at (b := false) (want := false) rfl (by kernel_rfl) h23, o_gtI rfl (ev_tmp h25) rfl (decide_eq_false (by rw [ba_len]; omega))⟩)
  case z124 =>
  refine frN5 hs hd h1 h2 h3 h6 h23 ?_; clear hs hd h1 h2 h3 h6 h23 h25; intro a hs hd h1 h2 h3 h6 h23 h26
  refine opL 7 27 (v := .bool false) (w' := w3) (by kernel_rfl) (frZ hs) ?_ ?_
  · exact frY rfl (k_pick_no rfl (ev_tmp h23) (ev_tmp h26))
  clear h23 h26; revert hs hd h1 h2 h3 h6; refine frM4 ?_; intro a hs hd h1 h2 h3 h6 h27
  refine opL 8 28 (v := .bool false) (w' := w3) (by kernel_rfl) (frZ hs) ?_ ?_
  · exact frY rfl (k_move rfl (ev_tmp h27))
  clear h27; revert hs hd h1 h2 h3 h6; refine frM4 ?_; intro a hs hd h1 h2 h3 h6 h28
  refine opL 9 29 (v := .string ⟨(s).toArray⟩) (w' := w3) (by kernel_rfl) (frZ hs) ?z129 ?z130
  case z129 => (intro o ho; obtain rfl := Option.some.inj ho; exact ⟨wanted_at (b := false) (want := false) rfl (by kernel_rfl) h28, k_move rfl (ev_tmp h2)⟩)
  case z130 =>
  refine frN5 hs hd h1 h2 h3 h6 h28 ?_; clear hs hd h1 h2 h3 h6 h28; intro a hs hd h1 h2 h3 h6 h28 h29
  have hc := con_any s w3
  have hx := fun ops Q rest d a i h1 h2 h3 => opL_call (P := Tryz.prog) (ops := ops) (Q := Q) (a := a) (w := w3) (rest := rest) i d h1 h2 h3 hc
  refine hx _ _ _ 30 _ 10 ?z131a ?z131b ?z131 ?z132
  case z131a => kernel_rfl
  case z131b => (rw [hs]; decide)
  case z131 => (intro o ho; obtain rfl := Option.some.inj ho; exact ⟨wanted_at (b := false) (want := false) rfl (by kernel_rfl) h28, c_Con rfl rfl (ev_tmp h29) rfl⟩)
  case z132 =>
  rintro _ w3b a ⟨rfl, hww⟩ F0
  subst hww
  rw [hcon] at F0
  replace hs := F0.z.trans hs
  replace hd := F0.e.trans hd
  replace h1 := (F0.n 1 (by decide)).trans h1
  replace h2 := (F0.n 2 (by decide)).trans h2
  replace h3 := (F0.n 3 (by decide)).trans h3
  replace h6 := (F0.n 6 (by decide)).trans h6
  replace h28 := (F0.n 28 (by decide)).trans h28
  clear h29
  have h30 := F0.s
  clear F0
  clear hx hc
  refine opL 11 31 (v := .bool false) (w' := w3) (by kernel_rfl) (frZ hs) ?_ ?_
  · exact frY rfl (k_pick_no rfl (ev_tmp h28) (ev_tmp h30))
  refine frN4 hs hd h1 h2 h3 h6 ?_; clear hs hd h1 h2 h3 h6 h28 h30; intro a hs hd h1 h2 h3 h6 h31
  refine wp_cond_false (ev_tmp h31) ?_
  clear h31
  refine wp_skip ?_
  refine wp_seq ?_
  refine wp_region (show wpOps _ _ _ [0, 1, 2, 3] _ _ from ?_)
  refine opL 0 32 (v := .agg #[.int .u8 F, .int .u8 I, .int .u8 E, .int .u16 C, .int .u32 U, .slice AM lm.length cM, .slice AD ld.length cD, .slice AW lw.length cW, .slice AP lp.length cP]) (w' := w3) (by kernel_rfl) (frZ hs) ?_ ?_
  · exact frY rfl (k_load9 rfl (ev_tmp h3) q1)
  revert hs hd h1 h2 h3 h6; refine frM4 ?_; intro a hs hd h1 h2 h3 h6 h32
  have hc := make_any' F I E C U AM AD AW AP cM cD cW cP lm ld lw lp w3 ((hX.below m3).full hlt)
  have hx := fun ops Q rest d a i h1 h2 h3 => opL_call (P := Tryz.prog) (ops := ops) (Q := Q) (a := a) (w := w3) (rest := rest) i d h1 h2 h3 hc
  refine hx _ _ _ 33 _ 1 ?z137a ?z137b ?z137 ?z138
  case z137a => kernel_rfl
  case z137b => (rw [hs]; decide)
  case z137 => exact frY rfl (c_Make rfl rfl (ev_tmp h32))
  case z138 =>
  rintro _ w4 a ⟨A1, A2, A3, A4, c1, c2, c3, c4, tD, tW, tP, rfl, F4, l4⟩ F0
  replace hs := F0.z.trans hs
  replace hd := F0.e.trans hd
  replace h1 := (F0.n 1 (by decide)).trans h1
  replace h2 := (F0.n 2 (by decide)).trans h2
  replace h3 := (F0.n 3 (by decide)).trans h3
  replace h6 := (F0.n 6 (by decide)).trans h6
  clear h32
  have h33 := F0.s
  clear F0
  clear hx hc
  have m4 := m3.trans (l4.mono m3.size)
  have Hp := F4.plain
  clear m3 F4 l4
  have hc := lprint_any (F.tmod 4) (Mk.iv I) (Mk.cnt E C) (Mk.unt E U) t A1 A2 A3 A4 c1 c2 c3 c4 (Mk.mon lm) (Mk.D F ld) ((Mk.W F lw).map (·.1)) (Mk.P F lm ld lw lp) w4 (hT.below m4) Hp.lists ok
  have hx := fun ops Q rest d a i h1 h2 h3 => opL_call (P := Tryz.prog) (ops := ops) (Q := Q) (a := a) (w := w4) (rest := rest) i d h1 h2 h3 hc
  refine hx _ _ _ 34 _ 2 ?z139a ?z139b ?z139 ?z140
  case z139a => kernel_rfl
  case z139b => (rw [hs]; decide)
  case z139 => exact frY rfl (c_lPrint rfl rfl (ev_tmp h33))
  case z140 =>
  rintro _ w5 a ⟨rfl, l5⟩ F0
  clear Hp ok
  generalize (Rfc.text (F.tmod 4) (Mk.iv I) (Mk.cnt E C) t (Mk.mon lm) (Mk.D F ld) ((Mk.W F lw).map (·.1)) (Mk.P F lm ld lw lp)) = TX at F0 htl hspl hp8 hp9
  replace hs := F0.z.trans hs
  replace hd := F0.e.trans hd
  replace h1 := (F0.n 1 (by decide)).trans h1
  replace h2 := (F0.n 2 (by decide)).trans h2
  replace h3 := (F0.n 3 (by decide)).trans h3
  replace h6 := (F0.n 6 (by decide)).trans h6
  clear h33
  have h34 := F0.s
  clear F0
  clear hx hc
  have m5 := m4.trans (l5.mono m4.size)
  clear m4 l5 q1
  refine opL 3 7 (v := .string ⟨(TX).toArray⟩) (w' := w5) (by kernel_rfl) (frZ hs) ?_ ?_
  · exact frY rfl (k_assign rfl (ev_tmp h34))
  refine frN4 hs hd h1 h2 h3 h6 ?_; clear hs hd h1 h2 h3 h6 h34; intro a hs hd h1 h2 h3 h6 h7
  refine wp_seq ?_
  refine wp_region (show wpOps _ _ _ [0, 1, 2] _ _ from ?_)
  refine opL 0 35 (v := .string ⟨(TX).toArray⟩) (w' := w5) (by kernel_rfl) (frZ hs) ?_ ?_
  · exact frY rfl (k_move rfl (ev_tmp h7))
  revert hs hd h1 h2 h3 h6 h7; refine frM5 ?_; intro a hs hd h1 h2 h3 h6 h7 h35
  have hc := split_any TX 59 w5 (hT.below m5).t (by omega)
  have hx := fun ops Q rest d a i h1 h2 h3 => opL_call (P := Tryz.prog) (ops := ops) (Q := Q) (a := a) (w := w5) (rest := rest) i d h1 h2 h3 hc
  refine hx _ _ _ 36 _ 1 ?z145a ?z145b ?z145 ?z146
  case z145a => kernel_rfl
  case z145b => (rw [hs]; decide)
  case z145 => exact frY rfl (c_Split rfl rfl (ev_tmp h35) rfl)
  case z146 =>
  rintro v6 w6 a ⟨hv6, l6⟩ F0
  rw [hspl] at hv6
  obtain ⟨hv6, q6⟩ := hv6
  subst hv6
  have hcj : w6.cell? ⟨w5.heap.size, j, none⟩ = some (.string ⟨(PS[j]).toArray⟩) := by
    rw [q6.cell j]
    simp [hjl]
  replace hs := F0.z.trans hs
  replace hd := F0.e.trans hd
  replace h1 := (F0.n 1 (by decide)).trans h1
  replace h2 := (F0.n 2 (by decide)).trans h2
  replace h3 := (F0.n 3 (by decide)).trans h3
  replace h6 := (F0.n 6 (by decide)).trans h6
  replace h7 := (F0.n 7 (by decide)).trans h7
  clear h35
  have h36 := F0.s
  clear F0
  clear hx hc
  have m6 := m5.trans (l6.mono m5.size)
  clear m5 l6
  refine opL 2 8 (v := .slice (some ⟨w5.heap.size, 0, none⟩) PS.length PS.length) (w' := w6) (by kernel_rfl) (frZ hs) ?_ ?_
  · exact frY rfl (k_assign rfl (ev_tmp h36))
  refine frN5 hs hd h1 h2 h3 h6 h7 ?_; clear hs hd h1 h2 h3 h6 h7 h36; intro a hs hd h1 h2 h3 h6 h7 h8
  refine wp_seq ?_
  refine wp_region (show wpOps _ _ _ [0, 1, 2, 3, 4, 5, 6, 7, 8, 9, 10, 11, 12, 13, 14, 15] _ _ from ?_)
  refine opL 0 38 (v := .slice (some ⟨w5.heap.size, 0, none⟩) PS.length PS.length) (w' := w6) (by kernel_rfl) (frZ hs) ?_ ?_
  · exact frY rfl (k_move rfl (ev_tmp h8))
  revert hs hd h1 h2 h3 h6 h7 h8; refine frM6 ?_; intro a hs hd h1 h2 h3 h6 h7 h8 h38
  refine opL 1 39 (v := .int .u8 k) (w' := w6) (by kernel_rfl) (frZ hs) ?_ ?_
  · exact frY rfl (k_move rfl (ev_tmp h1))
  revert hs hd h1 h2 h3 h6 h7 h8 h38; refine frM7 ?_; intro a hs hd h1 h2 h3 h6 h7 h8 h38 h39
  refine opL 2 40 (v := .int .i64 k) (w' := w6) (by kernel_rfl) (frZ hs) ?_ ?_
  · exact frY rfl (o_convBI rfl (ev_tmp h39) (wrap_small (by omega) (by omega)))
  clear h39; revert hs hd h1 h2 h3 h6 h7 h8 h38; refine frM7 ?_; intro a hs hd h1 h2 h3 h6 h7 h8 h38 h40
  refine opL 3 41 (v := .slice (some ⟨w5.heap.size, 0, none⟩) PS.length PS.length) (w' := w6) (by kernel_rfl) (frZ hs) ?_ ?_
  · exact frY rfl (k_move rfl (ev_tmp h8))
  revert hs hd h1 h2 h3 h6 h7 h8 h38 h40; refine frM8 ?_; intro a hs hd h1 h2 h3 h6 h7 h8 h38 h40 h41
  refine opL 4 42 (v := .int .i64 PS.length) (w' := w6) (by kernel_rfl) (frZ hs) ?_ ?_
  · exact frY rfl (k_lenStr rfl (ev_tmp h41))
  clear h41; revert hs hd h1 h2 h3 h6 h7 h8 h38 h40; refine frM8 ?_; intro a hs hd h1 h2 h3 h6 h7 h8 h38 h40 h42
  refine opL 5 43 (v := .int .i64 (j : Nat)) (w' := w6) (by kernel_rfl) (frZ hs) ?_ ?_
  · exact frY rfl (o_remI rfl (ev_tmp h40) (ev_tmp h42) (by omega) hj)
  clear h40 h42; revert hs hd h1 h2 h3 h6 h7 h8 h38; refine frM7 ?_; intro a hs hd h1 h2 h3 h6 h7 h8 h38 h43
  refine opL 6 44 (v := .pointer (some ⟨w5.heap.size, j, none⟩)) (w' := w6) (by kernel_rfl) (frZ hs) ?_ ?_
  · exact frY rfl (k_atS' rfl (ev_tmp h38) (ev_tmp h43) hjl)
  clear h38 h43; revert hs hd h1 h2 h3 h6 h7 h8; refine frM6 ?_; intro a hs hd h1 h2 h3 h6 h7 h8 h44
  refine opL 7 45 (v := .string ⟨(PS[j]).toArray⟩) (w' := w6) (by kernel_rfl) (frZ hs) ?_ ?_
  · exact frY rfl (k_loadStr rfl (ev_tmp h44) hcj)
  clear h44; revert hs hd h1 h2 h3 h6 h7 h8; refine frM6 ?_; intro a hs hd h1 h2 h3 h6 h7 h8 h45
  have hc := cut_any PS[j] w6 (hT.below m6).t (by omega)
  have hx := fun ops Q rest d a i h1 h2 h3 => opL_call (P := Tryz.prog) (ops := ops) (Q := Q) (a := a) (w := w6) (rest := rest) i d h1 h2 h3 hc
  refine hx _ _ _ 46 _ 8 ?z165a ?z165b ?z165 ?z166
  case z165a => kernel_rfl
  case z165b => (rw [hs]; decide)
  case z165 => exact frY rfl (c_Cut rfl rfl (ev_tmp h45) rfl)
  case z166 =>
  rintro _ w7 a ⟨rfl, l7⟩ F0
  rw [hcut] at F0
  replace hs := F0.z.trans hs
  replace hd := F0.e.trans hd
  replace h1 := (F0.n 1 (by decide)).trans h1
  replace h2 := (F0.n 2 (by decide)).trans h2
  replace h3 := (F0.n 3 (by decide)).trans h3
  replace h6 := (F0.n 6 (by decide)).trans h6
  replace h7 := (F0.n 7 (by decide)).trans h7
  replace h8 := (F0.n 8 (by decide)).trans h8
  clear h45
  have h46 := F0.s
  clear F0
  clear hx hc hcj
  replace q6 := q6.below l7 q6.lt
  have m7 := m6.trans (l7.mono m6.size)
  clear m6 l7
  refine opL 9 37 (v := .tuple #[.string ⟨(Rfc.nm q).toArray⟩, .string ⟨cv.toArray⟩, .bool true]) (w' := w7) (by kernel_rfl) (frZ hs) ?_ ?_
  · exact frY rfl (k_move rfl (ev_tmp h46))
  refine frN6 hs hd h1 h2 h3 h6 h7 h8 ?_; clear hs hd h1 h2 h3 h6 h7 h8 h46; intro a hs hd h1 h2 h3 h6 h7 h8 h37
  refine opL 10 47 (v := .string ⟨(Rfc.nm q).toArray⟩) (w' := w7) (by kernel_rfl) (frZ hs) ?_ ?_
  · exact frY rfl (k_extract rfl (ev_tmp h37) rfl)
  revert hs hd h1 h2 h3 h6 h7 h8 h37; refine frM7 ?_; intro a hs hd h1 h2 h3 h6 h7 h8 h37 h47
  refine opL 11 48 (v := .string ⟨(cv).toArray⟩) (w' := w7) (by kernel_rfl) (frZ hs) ?_ ?_
  · exact frY rfl (k_extract rfl (ev_tmp h37) rfl)
  revert hs hd h1 h2 h3 h6 h7 h8 h37 h47; refine frM8 ?_; intro a hs hd h1 h2 h3 h6 h7 h8 h37 h47 h48
  refine opL 12 49 (v := .bool true) (w' := w7) (by kernel_rfl) (frZ hs) ?_ ?_
  · exact frY rfl (k_extract rfl (ev_tmp h37) rfl)
  revert hs hd h1 h2 h3 h6 h7 h8 h37 h47 h48; refine frM9 ?_; intro a hs hd h1 h2 h3 h6 h7 h8 h37 h47 h48 h49
  refine opL 13 9 (v := .string ⟨(Rfc.nm q).toArray⟩) (w' := w7) (by kernel_rfl) (frZ hs) ?_ ?_
  · exact frY rfl (k_assign rfl (ev_tmp h47))
  clear h47; revert hs hd h1 h2 h3 h6 h7 h8 h37 h48 h49; refine frM9 ?_; intro a hs hd h1 h2 h3 h6 h7 h8 h37 h48 h49 h9
  refine opL 14 10 (v := .string ⟨(cv).toArray⟩) (w' := w7) (by kernel_rfl) (frZ hs) ?_ ?_
  · exact frY rfl (k_assign rfl (ev_tmp h48))
  clear h48; revert hs hd h1 h2 h3 h6 h7 h8 h37 h49 h9; refine frM9 ?_; intro a hs hd h1 h2 h3 h6 h7 h8 h37 h49 h9 h10
  refine opL 15 11 (v := .bool true) (w' := w7) (by kernel_rfl) (frZ hs) ?_ ?_
  · exact frY rfl (k_assign rfl (ev_tmp h49))
  clear h49 h10; revert hs hd h1 h2 h3 h6 h7 h8 h37 h9; refine frM8 ?_; intro a hs hd h1 h2 h3 h6 h7 h8 h37 h9 h11
  refine wp_seq ?_
  refine wp_region (show wpOps _ _ _ [0, 1, 2, 3, 4, 5, 6, 7, 8, 9, 10, 11, 12, 13] _ _ from ?_)
  refine opL 0 51 (v := .string ⟨(TX).toArray⟩) (w' := w7) (by kernel_rfl) (frZ hs) ?_ ?_
  · exact frY rfl (k_move rfl (ev_tmp h7))
  clear h11; revert hs hd h1 h2 h3 h6 h7 h8 h37 h9; refine frM8 ?_; intro a hs hd h1 h2 h3 h6 h7 h8 h37 h9 h51
  refine opL 1 52 (v := .string ⟨((TX ++ [59])).toArray⟩) (w' := w7) (by kernel_rfl) (frZ hs) ?_ ?_
  · exact frY rfl (o_addStr rfl (ev_tmp h51) rfl (by rw [ba_len, ba_len]; simp; omega) (ba_append _ [59]))
  clear h51; revert hs hd h1 h2 h3 h6 h7 h8 h37 h9; refine frM8 ?_; intro a hs hd h1 h2 h3 h6 h7 h8 h37 h9 h52
  refine opL 2 53 (v := .string ⟨(Rfc.nm q).toArray⟩) (w' := w7) (by kernel_rfl) (frZ hs) ?_ ?_
  · exact frY rfl (k_move rfl (ev_tmp h9))
  revert hs hd h1 h2 h3 h6 h7 h8 h37 h9 h52; refine frM9 ?_; intro a hs hd h1 h2 h3 h6 h7 h8 h37 h9 h52 h53
  refine opL 3 54 (v := .string ⟨(((TX ++ [59]) ++ Rfc.nm q)).toArray⟩) (w' := w7) (by kernel_rfl) (frZ hs) ?_ ?_
  · exact frY rfl (o_addStr rfl (ev_tmp h52) (ev_tmp h53) (by rw [ba_len, ba_len]; simp; omega) (ba_append _ _))
  clear h52 h53; revert hs hd h1 h2 h3 h6 h7 h8 h37 h9; refine frM8 ?_; intro a hs hd h1 h2 h3 h6 h7 h8 h37 h9 h54
  refine opL 4 55 (v := .string ⟨((((TX ++ [59]) ++ Rfc.nm q) ++ [61])).toArray⟩) (w' := w7) (by kernel_rfl) (frZ hs) ?_ ?_
  · exact frY rfl (o_addStr rfl (ev_tmp h54) rfl (by rw [ba_len, ba_len]; simp; omega) (ba_append _ [61]))
  clear h54; revert hs hd h1 h2 h3 h6 h7 h8 h37 h9; refine frM8 ?_; intro a hs hd h1 h2 h3 h6 h7 h8 h37 h9 h55
  refine opL 5 56 (v := .string ⟨(s).toArray⟩) (w' := w7) (by kernel_rfl) (frZ hs) ?_ ?_
  · exact frY rfl (k_move rfl (ev_tmp h2))
  revert hs hd h1 h2 h3 h6 h7 h8 h37 h9 h55; refine frM9 ?_; intro a hs hd h1 h2 h3 h6 h7 h8 h37 h9 h55 h56
  refine opL 6 57 (v := .string ⟨(((((TX ++ [59]) ++ Rfc.nm q) ++ [61]) ++ s)).toArray⟩) (w' := w7) (by kernel_rfl) (frZ hs) ?_ ?_
  · exact frY rfl (o_addStr rfl (ev_tmp h55) (ev_tmp h56) (by rw [ba_len, ba_len]; simp; omega) (ba_append _ _))
  clear h55 h56; revert hs hd h1 h2 h3 h6 h7 h8 h37 h9; refine frM8 ?_; intro a hs hd h1 h2 h3 h6 h7 h8 h37 h9 h57
  have hc := parse_any ((((TX ++ [59]) ++ Rfc.nm q) ++ [61]) ++ s) w7 (hT.below m7).t
  have hx := fun ops Q rest d a i h1 h2 h3 => opL_call (P := Tryz.prog) (ops := ops) (Q := Q) (a := a) (w := w7) (rest := rest) i d h1 h2 h3 hc
  refine hx _ _ _ 58 _ 7 ?z195a ?z195b ?z195 ?z196
  case z195a => kernel_rfl
  case z195b => (rw [hs]; decide)
  case z195 => exact frY rfl (c_Parse rfl rfl (ev_tmp h57))
  case z196 =>
  rintro vwa wa a ⟨hv, lwa⟩ F0
  rw [hp8] at hv
  replace hv : vwa = .tuple #[.agg #[.int .i64 0, .int .i64 0, .int .i64 0, .int .i64 0, .slice none 0 0, .slice none 0 0, .slice none 0 0, .slice none 0 0], .int .i64 5] := hv
  subst hv
  replace hs := F0.z.trans hs
  replace hd := F0.e.trans hd
  replace h1 := (F0.n 1 (by decide)).trans h1
  replace h2 := (F0.n 2 (by decide)).trans h2
  replace h3 := (F0.n 3 (by decide)).trans h3
  replace h6 := (F0.n 6 (by decide)).trans h6
  replace h7 := (F0.n 7 (by decide)).trans h7
  replace h8 := (F0.n 8 (by decide)).trans h8
  replace h37 := (F0.n 37 (by decide)).trans h37
  replace h9 := (F0.n 9 (by decide)).trans h9
  clear h57
  have h58 := F0.s
  clear F0
  clear hx hc
  replace q6 := q6.below lwa q6.lt
  have mwa := m7.trans (lwa.mono m7.size)
  clear m7 lwa
  refine opL 8 50 (v := .tuple #[.agg #[.int .i64 0, .int .i64 0, .int .i64 0, .int .i64 0, .slice none 0 0, .slice none 0 0, .slice none 0 0, .slice none 0 0], .int .i64 5]) (w' := wa) (by kernel_rfl) (frZ hs) ?_ ?_
  · exact frY rfl (k_move rfl (ev_tmp h58))
  refine frN8 hs hd h1 h2 h3 h6 h7 h8 h37 h9 ?_; clear hs hd h1 h2 h3 h6 h7 h8 h37 h9 h58; intro a hs hd h1 h2 h3 h6 h7 h8 h37 h9 h50
  refine opL 9 59 (v := .agg #[.int .i64 0, .int .i64 0, .int .i64 0, .int .i64 0, .slice none 0 0, .slice none 0 0, .slice none 0 0, .slice none 0 0]) (w' := wa) (by kernel_rfl) (frZ hs) ?_ ?_
  · exact frY rfl (k_extract rfl (ev_tmp h50) rfl)
  revert hs hd h1 h2 h3 h6 h7 h8 h37 h9 h50; refine frM9 ?_; intro a hs hd h1 h2 h3 h6 h7 h8 h37 h9 h50 h59
  refine opL 10 60 (v := .int .i64 5) (w' := wa) (by kernel_rfl) (frZ hs) ?_ ?_
  · exact frY rfl (k_extract rfl (ev_tmp h50) rfl)
  revert hs hd h1 h2 h3 h6 h7 h8 h37 h9 h50 h59; refine frM10 ?_; intro a hs hd h1 h2 h3 h6 h7 h8 h37 h9 h50 h59 h60
  refine opL 11 12 (v := .pointer (some ⟨wa.heap.size, 0, none⟩)) (w' := (wa.alloc (.cells #[.int .i64 0, .int .i64 0, .int .i64 0, .int .i64 0, .slice none 0 0, .slice none 0 0, .slice none 0 0, .slice none 0 0] 36))) (by kernel_rfl) (frZ hs) ?_ ?_
  · exact frY rfl (k_allocR rfl)
  revert hs hd h1 h2 h3 h6 h7 h8 h37 h9 h50 h59 h60; refine frM11 ?_; intro a hs hd h1 h2 h3 h6 h7 h8 h37 h9 h50 h59 h60 h12
  obtain ⟨wb, hwn⟩ : ∃ wn, wn = wa.alloc (.cells #[.int .i64 0, .int .i64 0, .int .i64 0, .int .i64 0, .slice none 0 0, .slice none 0 0, .slice none 0 0, .slice none 0 0] 36) := ⟨_, rfl⟩
  rw [← hwn]
  have qn : Blk wb wa.heap.size 36 #[.int .i64 0, .int .i64 0, .int .i64 0, .int .i64 0, .slice none 0 0, .slice none 0 0, .slice none 0 0, .slice none 0 0] := by rw [hwn]; exact Blk.alloc _ _ _
  have ln : Below wa.heap.size wa wb := by rw [hwn]; exact (Below.refl _ _).alloc (Nat.le_refl _) _
  clear hwn
  refine opL_store 12 (w' := (wb.setRow wa.heap.size #[.int .i64 0, .int .i64 0, .int .i64 0, .int .i64 0, .slice none 0 0, .slice none 0 0, .slice none 0 0, .slice none 0 0])) (by kernel_rfl) ?_ ?_
  · exact frY rfl (k_storeR rfl (ev_tmp h12) (ev_tmp h59) qn rfl rfl (by simp [Value.oneCell']))
  clear h59
  obtain ⟨wc, hwd⟩ : ∃ wn, wn = wb.setRow wa.heap.size #[.int .i64 0, .int .i64 0, .int .i64 0, .int .i64 0, .slice none 0 0, .slice none 0 0, .slice none 0 0, .slice none 0 0] := ⟨_, rfl⟩
  rw [← hwd]
  have ld0 : Below wa.heap.size wa wc := by rw [hwd]; exact ln.trans ((exc_setRow wb wa.heap.size #[.int .i64 0, .int .i64 0, .int .i64 0, .int .i64 0, .slice none 0 0, .slice none 0 0, .slice none 0 0, .slice none 0 0] wa.heap.size).below (Nat.le_refl _))
  clear hwd qn ln
  replace q6 := q6.below ld0 q6.lt
  have mc := mwa.trans (ld0.mono mwa.size)
  clear mwa ld0
  refine opL 13 13 (v := .int .i64 5) (w' := wc) (by kernel_rfl) (frZ hs) ?_ ?_
  · exact frY rfl (k_assign rfl (ev_tmp h60))
  refine frN10 hs hd h1 h2 h3 h6 h7 h8 h37 h9 h50 h12 ?_; clear hs hd h1 h2 h3 h6 h7 h8 h37 h9 h50 h12 h60; intro a hs hd h1 h2 h3 h6 h7 h8 h37 h9 h50 h12 h13
  refine wp_seq ?_
  refine wp_region (show wpOps _ _ _ [0, 1, 2, 3, 4, 5, 6, 7, 8, 9, 10, 11, 12, 13] _ _ from ?_)
  refine opL 0 62 (v := .string ⟨(TX).toArray⟩) (w' := wc) (by kernel_rfl) (frZ hs) ?_ ?_
  · exact frY rfl (k_move rfl (ev_tmp h7))
  revert hs hd h1 h2 h3 h6 h7 h8 h37 h9 h50 h12 h13; refine frM11 ?_; intro a hs hd h1 h2 h3 h6 h7 h8 h37 h9 h50 h12 h13 h62
  refine opL 1 63 (v := .string ⟨((TX ++ [59, 88])).toArray⟩) (w' := wc) (by kernel_rfl) (frZ hs) ?_ ?_
  · exact frY rfl (o_addStr rfl (ev_tmp h62) rfl (by rw [ba_len, ba_len]; simp; omega) (ba_append _ [59, 88]))
  clear h62; revert hs hd h1 h2 h3 h6 h7 h8 h37 h9 h50 h12 h13; refine frM11 ?_; intro a hs hd h1 h2 h3 h6 h7 h8 h37 h9 h50 h12 h13 h63
  refine opL 2 64 (v := .string ⟨(Rfc.nm q).toArray⟩) (w' := wc) (by kernel_rfl) (frZ hs) ?_ ?_
  · exact frY rfl (k_move rfl (ev_tmp h9))
  revert hs hd h1 h2 h3 h6 h7 h8 h37 h9 h50 h12 h13 h63; refine frM12 ?_; intro a hs hd h1 h2 h3 h6 h7 h8 h37 h9 h50 h12 h13 h63 h64
  refine opL 3 65 (v := .string ⟨(((TX ++ [59, 88]) ++ Rfc.nm q)).toArray⟩) (w' := wc) (by kernel_rfl) (frZ hs) ?_ ?_
  · exact frY rfl (o_addStr rfl (ev_tmp h63) (ev_tmp h64) (by rw [ba_len, ba_len]; simp; omega) (ba_append _ _))
  clear h63 h64; revert hs hd h1 h2 h3 h6 h7 h8 h37 h9 h50 h12 h13; refine frM11 ?_; intro a hs hd h1 h2 h3 h6 h7 h8 h37 h9 h50 h12 h13 h65
  refine opL 4 66 (v := .string ⟨((((TX ++ [59, 88]) ++ Rfc.nm q) ++ [61])).toArray⟩) (w' := wc) (by kernel_rfl) (frZ hs) ?_ ?_
  · exact frY rfl (o_addStr rfl (ev_tmp h65) rfl (by rw [ba_len, ba_len]; simp; omega) (ba_append _ [61]))
  clear h65; revert hs hd h1 h2 h3 h6 h7 h8 h37 h9 h50 h12 h13; refine frM11 ?_; intro a hs hd h1 h2 h3 h6 h7 h8 h37 h9 h50 h12 h13 h66
  refine opL 5 67 (v := .string ⟨(s).toArray⟩) (w' := wc) (by kernel_rfl) (frZ hs) ?_ ?_
  · exact frY rfl (k_move rfl (ev_tmp h2))
  revert hs hd h1 h2 h3 h6 h7 h8 h37 h9 h50 h12 h13 h66; refine frM12 ?_; intro a hs hd h1 h2 h3 h6 h7 h8 h37 h9 h50 h12 h13 h66 h67
  refine opL 6 68 (v := .string ⟨(((((TX ++ [59, 88]) ++ Rfc.nm q) ++ [61]) ++ s)).toArray⟩) (w' := wc) (by kernel_rfl) (frZ hs) ?_ ?_
  · exact frY rfl (o_addStr rfl (ev_tmp h66) (ev_tmp h67) (by rw [ba_len, ba_len]; simp; omega) (ba_append _ _))
  clear h66 h67; revert hs hd h1 h2 h3 h6 h7 h8 h37 h9 h50 h12 h13; refine frM11 ?_; intro a hs hd h1 h2 h3 h6 h7 h8 h37 h9 h50 h12 h13 h68
  have hc := parse_any ((((TX ++ [59, 88]) ++ Rfc.nm q) ++ [61]) ++ s) wc (hT.below mc).t
  have hx := fun ops Q rest d a i h1 h2 h3 => opL_call (P := Tryz.prog) (ops := ops) (Q := Q) (a := a) (w := wc) (rest := rest) i d h1 h2 h3 hc
  refine hx _ _ _ 69 _ 7 ?z223a ?z223b ?z223 ?z224
  case z223a => kernel_rfl
  case z223b => (rw [hs]; decide)
  case z223 => exact frY rfl (c_Parse rfl rfl (ev_tmp h68))
  case z224 =>
  rintro vwd wd a ⟨hv, lwd⟩ F0
  rw [hp9] at hv
  replace hv : vwd = .tuple #[.agg #[.int .i64 0, .int .i64 0, .int .i64 0, .int .i64 0, .slice none 0 0, .slice none 0 0, .slice none 0 0, .slice none 0 0], .int .i64 1] := hv
  subst hv
  replace hs := F0.z.trans hs
  replace hd := F0.e.trans hd
  replace h1 := (F0.n 1 (by decide)).trans h1
  replace h2 := (F0.n 2 (by decide)).trans h2
  replace h3 := (F0.n 3 (by decide)).trans h3
  replace h6 := (F0.n 6 (by decide)).trans h6
  replace h7 := (F0.n 7 (by decide)).trans h7
  replace h8 := (F0.n 8 (by decide)).trans h8
  replace h37 := (F0.n 37 (by decide)).trans h37
  replace h9 := (F0.n 9 (by decide)).trans h9
  replace h50 := (F0.n 50 (by decide)).trans h50
  replace h12 := (F0.n 12 (by decide)).trans h12
  replace h13 := (F0.n 13 (by decide)).trans h13
  clear h68
  have h69 := F0.s
  clear F0
  clear hx hc
  replace q6 := q6.below lwd q6.lt
  have mwd := mc.trans (lwd.mono mc.size)
  clear mc lwd
  refine opL 8 61 (v := .tuple #[.agg #[.int .i64 0, .int .i64 0, .int .i64 0, .int .i64 0, .slice none 0 0, .slice none 0 0, .slice none 0 0, .slice none 0 0], .int .i64 1]) (w' := wd) (by kernel_rfl) (frZ hs) ?_ ?_
  · exact frY rfl (k_move rfl (ev_tmp h69))
  refine frN11 hs hd h1 h2 h3 h6 h7 h8 h37 h9 h50 h12 h13 ?_; clear hs hd h1 h2 h3 h6 h7 h8 h37 h9 h50 h12 h13 h69; intro a hs hd h1 h2 h3 h6 h7 h8 h37 h9 h50 h12 h13 h61
  refine opL 9 70 (v := .agg #[.int .i64 0, .int .i64 0, .int .i64 0, .int .i64 0, .slice none 0 0, .slice none 0 0, .slice none 0 0, .slice none 0 0]) (w' := wd) (by kernel_rfl) (frZ hs) ?_ ?_
  · exact frY rfl (k_extract rfl (ev_tmp h61) rfl)
  revert hs hd h1 h2 h3 h6 h7 h8 h37 h9 h50 h12 h13 h61; refine frM12 ?_; intro a hs hd h1 h2 h3 h6 h7 h8 h37 h9 h50 h12 h13 h61 h70
  refine opL 10 71 (v := .int .i64 1) (w' := wd) (by kernel_rfl) (frZ hs) ?_ ?_
  · exact frY rfl (k_extract rfl (ev_tmp h61) rfl)
  revert hs hd h1 h2 h3 h6 h7 h8 h37 h9 h50 h12 h13 h61 h70; refine frM13 ?_; intro a hs hd h1 h2 h3 h6 h7 h8 h37 h9 h50 h12 h13 h61 h70 h71
  refine opL 11 14 (v := .pointer (some ⟨wd.heap.size, 0, none⟩)) (w' := (wd.alloc (.cells #[.int .i64 0, .int .i64 0, .int .i64 0, .int .i64 0, .slice none 0 0, .slice none 0 0, .slice none 0 0, .slice none 0 0] 36))) (by kernel_rfl) (frZ hs) ?_ ?_
  · exact frY rfl (k_allocR rfl)
  revert hs hd h1 h2 h3 h6 h7 h8 h37 h9 h50 h12 h13 h61 h70 h71; refine frM14 ?_; intro a hs hd h1 h2 h3 h6 h7 h8 h37 h9 h50 h12 h13 h61 h70 h71 h14
  obtain ⟨we, hwn⟩ : ∃ wn, wn = wd.alloc (.cells #[.int .i64 0, .int .i64 0, .int .i64 0, .int .i64 0, .slice none 0 0, .slice none 0 0, .slice none 0 0, .slice none 0 0] 36) := ⟨_, rfl⟩
  rw [← hwn]
  have qn : Blk we wd.heap.size 36 #[.int .i64 0, .int .i64 0, .int .i64 0, .int .i64 0, .slice none 0 0, .slice none 0 0, .slice none 0 0, .slice none 0 0] := by rw [hwn]; exact Blk.alloc _ _ _
  have ln : Below wd.heap.size wd we := by rw [hwn]; exact (Below.refl _ _).alloc (Nat.le_refl _) _
  clear hwn
  refine opL_store 12 (w' := (we.setRow wd.heap.size #[.int .i64 0, .int .i64 0, .int .i64 0, .int .i64 0, .slice none 0 0, .slice none 0 0, .slice none 0 0, .slice none 0 0])) (by kernel_rfl) ?_ ?_
  · exact frY rfl (k_storeR rfl (ev_tmp h14) (ev_tmp h70) qn rfl rfl (by simp [Value.oneCell']))
  clear h70
  obtain ⟨wf, hwd⟩ : ∃ wn, wn = we.setRow wd.heap.size #[.int .i64 0, .int .i64 0, .int .i64 0, .int .i64 0, .slice none 0 0, .slice none 0 0, .slice none 0 0, .slice none 0 0] := ⟨_, rfl⟩
  rw [← hwd]
  have ld0 : Below wd.heap.size wd wf := by rw [hwd]; exact ln.trans ((exc_setRow we wd.heap.size #[.int .i64 0, .int .i64 0, .int .i64 0, .int .i64 0, .slice none 0 0, .slice none 0 0, .slice none 0 0, .slice none 0 0] wd.heap.size).below (Nat.le_refl _))
  clear hwd qn ln
  replace q6 := q6.below ld0 q6.lt
  have mf := mwd.trans (ld0.mono mwd.size)
  clear mwd ld0
  refine opL 13 15 (v := .int .i64 1) (w' := wf) (by kernel_rfl) (frZ hs) ?_ ?_
  · exact frY rfl (k_assign rfl (ev_tmp h71))
  refine frN13 hs hd h1 h2 h3 h6 h7 h8 h37 h9 h50 h12 h13 h61 h14 ?_; clear hs hd h1 h2 h3 h6 h7 h8 h37 h9 h50 h12 h13 h61 h14 h71; intro a hs hd h1 h2 h3 h6 h7 h8 h37 h9 h50 h12 h13 h61 h14 h15
  refine wp_seq ?_
  refine wp_region (show wpOps _ _ _ [0, 1, 2, 3, 4, 5, 6, 7, 8, 9] _ _ from ?_)
  refine opL 0 73 (v := .slice (some ⟨w5.heap.size, 0, none⟩) PS.length PS.length) (w' := wf) (by kernel_rfl) (frZ hs) ?_ ?_
  · exact frY rfl (k_move rfl (ev_tmp h8))
  revert hs hd h1 h2 h3 h6 h7 h8 h37 h9 h50 h12 h13 h61 h14 h15; refine frM14 ?_; intro a hs hd h1 h2 h3 h6 h7 h8 h37 h9 h50 h12 h13 h61 h14 h15 h73
  have hct : ∀ jj (h : jj < (PS.drop 1).length), wf.cell? ⟨w5.heap.size, (if 1 < PS.length then 1 else 0) + jj, none⟩ = some (.string ⟨((PS.drop 1)[jj]).toArray⟩) := fun jj hjj => by
    rw [List.length_drop] at hjj
    rw [if_pos (by omega), Nat.add_comm 1 jj, q6.cell (jj + 1)]
    simp [show jj + 1 < PS.length by omega]
  refine opL 1 74 (v := .slice (some ⟨w5.heap.size, if 1 < PS.length then 1 else 0, none⟩) (PS.length - 1) (PS.length - 1)) (w' := wf) (by kernel_rfl) (frZ hs) ?_ ?_
  · exact frY rfl (k_tailS rfl (ev_tmp h73) rfl hps)
  refine frN14 hs hd h1 h2 h3 h6 h7 h8 h37 h9 h50 h12 h13 h61 h14 h15 ?_; clear hs hd h1 h2 h3 h6 h7 h8 h37 h9 h50 h12 h13 h61 h14 h15 h73; intro a hs hd h1 h2 h3 h6 h7 h8 h37 h9 h50 h12 h13 h61 h14 h15 h74
  have hc := join_off w5.heap.size (if 1 < PS.length then 1 else 0) (PS.drop 1) wf q6.lt (by rw [List.length_drop]; omega) (by omega) hct
  have hx := fun ops Q rest d a i h1 h2 h3 => opL_call (P := Tryz.prog) (ops := ops) (Q := Q) (a := a) (w := wf) (rest := rest) i d h1 h2 h3 hc
  refine hx _ _ _ 75 _ 2 ?z241a ?z241b ?z241 ?z242
  case z241a => kernel_rfl
  case z241b => (rw [hs]; decide)
  case z241 => exact frY rfl (c_Join rfl rfl (ev_tmp (h74.trans (by rw [List.length_drop]))) rfl)
  case z242 =>
  rintro _ wg a ⟨rfl, lg⟩ F0
  replace hs := F0.z.trans hs
  replace hd := F0.e.trans hd
  replace h1 := (F0.n 1 (by decide)).trans h1
  replace h2 := (F0.n 2 (by decide)).trans h2
  replace h3 := (F0.n 3 (by decide)).trans h3
  replace h6 := (F0.n 6 (by decide)).trans h6
  replace h7 := (F0.n 7 (by decide)).trans h7
  replace h8 := (F0.n 8 (by decide)).trans h8
  replace h37 := (F0.n 37 (by decide)).trans h37
  replace h9 := (F0.n 9 (by decide)).trans h9
  replace h50 := (F0.n 50 (by decide)).trans h50
  replace h12 := (F0.n 12 (by decide)).trans h12
  replace h13 := (F0.n 13 (by decide)).trans h13
  replace h61 := (F0.n 61 (by decide)).trans h61
  replace h14 := (F0.n 14 (by decide)).trans h14
  replace h15 := (F0.n 15 (by decide)).trans h15
  clear h74
  have h75 := F0.s
  clear F0
  clear hx hc
  replace q6 := q6.below lg q6.lt
  have mg := mf.trans (lg.mono mf.size)
  clear mf lg hct
  have hc := parse_any (Lib.join (PS.drop 1) [59]) wg (hT.below mg).t
  have hx := fun ops Q rest d a i h1 h2 h3 => opL_call (P := Tryz.prog) (ops := ops) (Q := Q) (a := a) (w := wg) (rest := rest) i d h1 h2 h3 hc
  refine hx _ _ _ 76 _ 3 ?z243a ?z243b ?z243 ?z244
  case z243a => kernel_rfl
  case z243b => (rw [hs]; decide)
  case z243 => exact frY rfl (c_Parse rfl rfl (ev_tmp h75))
  case z244 =>
  rintro vwh wh a ⟨hv, lwh⟩ F0
  rw [hrest] at hv
  replace hv : vwh = .tuple #[.agg #[.int .i64 0, .int .i64 0, .int .i64 0, .int .i64 0, .slice none 0 0, .slice none 0 0, .slice none 0 0, .slice none 0 0], .int .i64 1] := hv
  subst hv
  replace hs := F0.z.trans hs
  replace hd := F0.e.trans hd
  replace h1 := (F0.n 1 (by decide)).trans h1
  replace h2 := (F0.n 2 (by decide)).trans h2
  replace h3 := (F0.n 3 (by decide)).trans h3
  replace h6 := (F0.n 6 (by decide)).trans h6
  replace h7 := (F0.n 7 (by decide)).trans h7
  replace h8 := (F0.n 8 (by decide)).trans h8
  replace h37 := (F0.n 37 (by decide)).trans h37
  replace h9 := (F0.n 9 (by decide)).trans h9
  replace h50 := (F0.n 50 (by decide)).trans h50
  replace h12 := (F0.n 12 (by decide)).trans h12
  replace h13 := (F0.n 13 (by decide)).trans h13
  replace h61 := (F0.n 61 (by decide)).trans h61
  replace h14 := (F0.n 14 (by decide)).trans h14
  replace h15 := (F0.n 15 (by decide)).trans h15
  clear h75
  have h76 := F0.s
  clear F0
  clear hx hc
  replace q6 := q6.below lwh q6.lt
  have mwh := mg.trans (lwh.mono mg.size)
  clear mg lwh
  refine opL 4 72 (v := .tuple #[.agg #[.int .i64 0, .int .i64 0, .int .i64 0, .int .i64 0, .slice none 0 0, .slice none 0 0, .slice none 0 0, .slice none 0 0], .int .i64 1]) (w' := wh) (by kernel_rfl) (frZ hs) ?_ ?_
  · exact frY rfl (k_move rfl (ev_tmp h76))
  refine frN14 hs hd h1 h2 h3 h6 h7 h8 h37 h9 h50 h12 h13 h61 h14 h15 ?_; clear hs hd h1 h2 h3 h6 h7 h8 h37 h9 h50 h12 h13 h61 h14 h15 h76; intro a hs hd h1 h2 h3 h6 h7 h8 h37 h9 h50 h12 h13 h61 h14 h15 h72
  refine opL 5 77 (v := .agg #[.int .i64 0, .int .i64 0, .int .i64 0, .int .i64 0, .slice none 0 0, .slice none 0 0, .slice none 0 0, .slice none 0 0]) (w' := wh) (by kernel_rfl) (frZ hs) ?_ ?_
  · exact frY rfl (k_extract rfl (ev_tmp h72) rfl)
  revert hs hd h1 h2 h3 h6 h7 h8 h37 h9 h50 h12 h13 h61 h14 h15 h72; refine frM15 ?_; intro a hs hd h1 h2 h3 h6 h7 h8 h37 h9 h50 h12 h13 h61 h14 h15 h72 h77
  refine opL 6 78 (v := .int .i64 1) (w' := wh) (by kernel_rfl) (frZ hs) ?_ ?_
  · exact frY rfl (k_extract rfl (ev_tmp h72) rfl)
  revert hs hd h1 h2 h3 h6 h7 h8 h37 h9 h50 h12 h13 h61 h14 h15 h72 h77; refine frM16 ?_; intro a hs hd h1 h2 h3 h6 h7 h8 h37 h9 h50 h12 h13 h61 h14 h15 h72 h77 h78
  refine opL 7 16 (v := .pointer (some ⟨wh.heap.size, 0, none⟩)) (w' := (wh.alloc (.cells #[.int .i64 0, .int .i64 0, .int .i64 0, .int .i64 0, .slice none 0 0, .slice none 0 0, .slice none 0 0, .slice none 0 0] 36))) (by kernel_rfl) (frZ hs) ?_ ?_
  · exact frY rfl (k_allocR rfl)
  intro a F0
  replace hs := F0.z.trans hs
  replace hd := F0.e.trans hd
  replace h1 := (F0.n 1 (by decide)).trans h1
  replace h2 := (F0.n 2 (by decide)).trans h2
  replace h3 := (F0.n 3 (by decide)).trans h3
  replace h6 := (F0.n 6 (by decide)).trans h6
  replace h7 := (F0.n 7 (by decide)).trans h7
  replace h8 := (F0.n 8 (by decide)).trans h8
  replace h37 := (F0.n 37 (by decide)).trans h37
  replace h9 := (F0.n 9 (by decide)).trans h9
  replace h50 := (F0.n 50 (by decide)).trans h50
  replace h12 := (F0.n 12 (by decide)).trans h12
  replace h13 := (F0.n 13 (by decide)).trans h13
  replace h61 := (F0.n 61 (by decide)).trans h61
  replace h14 := (F0.n 14 (by decide)).trans h14
  replace h15 := (F0.n 15 (by decide)).trans h15
  replace h72 := (F0.n 72 (by decide)).trans h72
  replace h77 := (F0.n 77 (by decide)).trans h77
  replace h78 := (F0.n 78 (by decide)).trans h78
  have h16 := F0.s
  clear F0
  obtain ⟨wi, hwn⟩ : ∃ wn, wn = wh.alloc (.cells #[.int .i64 0, .int .i64 0, .int .i64 0, .int .i64 0, .slice none 0 0, .slice none 0 0, .slice none 0 0, .slice none 0 0] 36) := ⟨_, rfl⟩
  rw [← hwn]
  have qn : Blk wi wh.heap.size 36 #[.int .i64 0, .int .i64 0, .int .i64 0, .int .i64 0, .slice none 0 0, .slice none 0 0, .slice none 0 0, .slice none 0 0] := by rw [hwn]; exact Blk.alloc _ _ _
  have ln : Below wh.heap.size wh wi := by rw [hwn]; exact (Below.refl _ _).alloc (Nat.le_refl _) _
  clear hwn
  refine opL_store 8 (w' := (wi.setRow wh.heap.size #[.int .i64 0, .int .i64 0, .int .i64 0, .int .i64 0, .slice none 0 0, .slice none 0 0, .slice none 0 0, .slice none 0 0])) (by kernel_rfl) ?_ ?_
  · exact frY rfl (k_storeR rfl (ev_tmp h16) (ev_tmp h77) qn rfl rfl (by simp [Value.oneCell']))
  clear h77
  obtain ⟨wj, hwd⟩ : ∃ wn, wn = wi.setRow wh.heap.size #[.int .i64 0, .int .i64 0, .int .i64 0, .int .i64 0, .slice none 0 0, .slice none 0 0, .slice none 0 0, .slice none 0 0] := ⟨_, rfl⟩
  rw [← hwd]
  have ld0 : Below wh.heap.size wh wj := by rw [hwd]; exact ln.trans ((exc_setRow wi wh.heap.size #[.int .i64 0, .int .i64 0, .int .i64 0, .int .i64 0, .slice none 0 0, .slice none 0 0, .slice none 0 0, .slice none 0 0] wh.heap.size).below (Nat.le_refl _))
  clear hwd qn ln
  replace q6 := q6.below ld0 q6.lt
  have mj := mwh.trans (ld0.mono mwh.size)
  clear mwh ld0
  refine opL 9 17 (v := .int .i64 1) (w' := wj) (by kernel_rfl) (frZ hs) ?_ ?_
  · exact frY rfl (k_assign rfl (ev_tmp h78))
  refine frN16 hs hd h1 h2 h3 h6 h7 h8 h37 h9 h50 h12 h13 h61 h14 h15 h72 h16 ?_; clear hs hd h1 h2 h3 h6 h7 h8 h37 h9 h50 h12 h13 h61 h14 h15 h72 h16 h78; intro a hs hd h1 h2 h3 h6 h7 h8 h37 h9 h50 h12 h13 h61 h14 h15 h72 h16 h17
  refine wp_seq ?_
  refine wp_region (show wpOps _ _ _ [0, 1, 2, 3, 4, 5, 6, 7, 8, 9, 10] _ _ from ?_)
  refine opL 0 79 (v := .int .i64 5) (w' := wj) (by kernel_rfl) (frZ hs) ?_ ?_
  · exact frY rfl (k_move rfl (ev_tmp h13))
  intro a F0
  replace hs := F0.z.trans hs
  replace hd := F0.e.trans hd
  replace h1 := (F0.n 1 (by decide)).trans h1
  replace h2 := (F0.n 2 (by decide)).trans h2
  replace h3 := (F0.n 3 (by decide)).trans h3
  replace h6 := (F0.n 6 (by decide)).trans h6
  replace h7 := (F0.n 7 (by decide)).trans h7
  replace h8 := (F0.n 8 (by decide)).trans h8
  replace h37 := (F0.n 37 (by decide)).trans h37
  replace h9 := (F0.n 9 (by decide)).trans h9
  replace h50 := (F0.n 50 (by decide)).trans h50
  replace h12 := (F0.n 12 (by decide)).trans h12
  replace h13 := (F0.n 13 (by decide)).trans h13
  replace h61 := (F0.n 61 (by decide)).trans h61
  replace h14 := (F0.n 14 (by decide)).trans h14
  replace h15 := (F0.n 15 (by decide)).trans h15
  replace h72 := (F0.n 72 (by decide)).trans h72
  replace h16 := (F0.n 16 (by decide)).trans h16
  replace h17 := (F0.n 17 (by decide)).trans h17
  have h79 := F0.s
  clear F0
  refine opL 1 80 (v := .bool true) (w' := wj) (by kernel_rfl) (frZ hs) ?_ ?_
  · exact frY rfl (o_eqE rfl (ev_tmp h79) rfl rfl)
  intro a F0
  replace hs := F0.z.trans hs
  replace hd := F0.e.trans hd
  replace h1 := (F0.n 1 (by decide)).trans h1
  replace h2 := (F0.n 2 (by decide)).trans h2
  replace h3 := (F0.n 3 (by decide)).trans h3
  replace h6 := (F0.n 6 (by decide)).trans h6
  replace h7 := (F0.n 7 (by decide)).trans h7
  replace h8 := (F0.n 8 (by decide)).trans h8
  replace h37 := (F0.n 37 (by decide)).trans h37
  replace h9 := (F0.n 9 (by decide)).trans h9
  replace h50 := (F0.n 50 (by decide)).trans h50
  replace h12 := (F0.n 12 (by decide)).trans h12
  replace h13 := (F0.n 13 (by decide)).trans h13
  replace h61 := (F0.n 61 (by decide)).trans h61
  replace h14 := (F0.n 14 (by decide)).trans h14
  replace h15 := (F0.n 15 (by decide)).trans h15
  replace h72 := (F0.n 72 (by decide)).trans h72
  replace h16 := (F0.n 16 (by decide)).trans h16
  replace h17 := (F0.n 17 (by decide)).trans h17
  clear h79
  have h80 := F0.s
  clear F0
  refine opL 2 81 (v := .bool true) (w' := wj) (by kernel_rfl) (frZ hs) ?_ ?_
  · exact frY rfl (k_move rfl (ev_tmp h80))
  intro a F0
  replace hs := F0.z.trans hs
  replace hd := F0.e.trans hd
  replace h1 := (F0.n 1 (by decide)).trans h1
  replace h2 := (F0.n 2 (by decide)).trans h2
  replace h3 := (F0.n 3 (by decide)).trans h3
  replace h6 := (F0.n 6 (by decide)).trans h6
  replace h7 := (F0.n 7 (by decide)).trans h7
  replace h8 := (F0.n 8 (by decide)).trans h8
  replace h37 := (F0.n 37 (by decide)).trans h37
  replace h9 := (F0.n 9 (by decide)).trans h9
  replace h50 := (F0.n 50 (by decide)).trans h50
  replace h12 := (F0.n 12 (by decide)).trans h12
  replace h13 := (F0.n 13 (by decide)).trans h13
  replace h61 := (F0.n 61 (by decide)).trans h61
  replace h14 := (F0.n 14 (by decide)).trans h14
  replace h15 := (F0.n 15 (by decide)).trans h15
  replace h72 := (F0.n 72 (by decide)).trans h72
  replace h16 := (F0.n 16 (by decide)).trans h16
  replace h17 := (F0.n 17 (by decide)).trans h17
  clear h80
  have h81 := F0.s
  clear F0
  refine opL 3 82 (v := .int .i64 1) (w' := wj) (by kernel_rfl) (frZ hs) ?z263 ?z264
  case z263 => (intro o ho; obtain rfl := Option.some.inj ho; exact ⟨wanted_at (b := true) (want := true) rfl (by kernel_rfl) h81, k_move rfl (ev_tmp h15)⟩)
  case z264 =>
  intro a F0
  replace hs := F0.z.trans hs
  replace hd := F0.e.trans hd
  replace h1 := (F0.n 1 (by decide)).trans h1
  replace h2 := (F0.n 2 (by decide)).trans h2
  replace h3 := (F0.n 3 (by decide)).trans h3
  replace h6 := (F0.n 6 (by decide)).trans h6
  replace h7 := (F0.n 7 (by decide)).trans h7
  replace h8 := (F0.n 8 (by decide)).trans h8
  replace h37 := (F0.n 37 (by decide)).trans h37
  replace h9 := (F0.n 9 (by decide)).trans h9
  replace h50 := (F0.n 50 (by decide)).trans h50
  replace h12 := (F0.n 12 (by decide)).trans h12
  replace h13 := (F0.n 13 (by decide)).trans h13
  replace h61 := (F0.n 61 (by decide)).trans h61
  replace h14 := (F0.n 14 (by decide)).trans h14
  replace h15 := (F0.n 15 (by decide)).trans h15
  replace h72 := (F0.n 72 (by decide)).trans h72
  replace h16 := (F0.n 16 (by decide)).trans h16
  replace h17 := (F0.n 17 (by decide)).trans h17
  replace h81 := (F0.n 81 (by decide)).trans h81
  have h82 := F0.s
  clear F0
  refine opL 4 83 (v := .bool true) (w' := wj) (by kernel_rfl) (frZ hs) ?z265 ?z266
  case z265 => (intro o ho; obtain rfl := Option.some.inj ho; exact ⟨wanted_at (b := true) (want := true) rfl (by kernel_rfl) h81, o_eqE rfl (ev_tmp h82) rfl rfl⟩)
  case z266 =>
  intro a F0
  replace hs := F0.z.trans hs
  replace hd := F0.e.trans hd
  replace h1 := (F0.n 1 (by decide)).trans h1
  replace h2 := (F0.n 2 (by decide)).trans h2
  replace h3 := (F0.n 3 (by decide)).trans h3
  replace h6 := (F0.n 6 (by decide)).trans h6
  replace h7 := (F0.n 7 (by decide)).trans h7
  replace h8 := (F0.n 8 (by decide)).trans h8
  replace h37 := (F0.n 37 (by decide)).trans h37
  replace h9 := (F0.n 9 (by decide)).trans h9
  replace h50 := (F0.n 50 (by decide)).trans h50
  replace h12 := (F0.n 12 (by decide)).trans h12
  replace h13 := (F0.n 13 (by decide)).trans h13
  replace h61 := (F0.n 61 (by decide)).trans h61
  replace h14 := (F0.n 14 (by decide)).trans h14
  replace h15 := (F0.n 15 (by decide)).trans h15
  replace h72 := (F0.n 72 (by decide)).trans h72
  replace h16 := (F0.n 16 (by decide)).trans h16
  replace h17 := (F0.n 17 (by decide)).trans h17
  replace h81 := (F0.n 81 (by decide)).trans h81
  clear h82
  have h83 := F0.s
  clear F0
  refine opL 5 84 (v := .bool true) (w' := wj) (by kernel_rfl) (frZ hs) ?_ ?_
  · exact frY rfl (k_pick_yes rfl (ev_tmp h81) (ev_tmp h83))
  intro a F0
  replace hs := F0.z.trans hs
  replace hd := F0.e.trans hd
  replace h1 := (F0.n 1 (by decide)).trans h1
  replace h2 := (F0.n 2 (by decide)).trans h2
  replace h3 := (F0.n 3 (by decide)).trans h3
  replace h6 := (F0.n 6 (by decide)).trans h6
  replace h7 := (F0.n 7 (by decide)).trans h7
  replace h8 := (F0.n 8 (by decide)).trans h8
  replace h37 := (F0.n 37 (by decide)).trans h37
  replace h9 := (F0.n 9 (by decide)).trans h9
  replace h50 := (F0.n 50 (by decide)).trans h50
  replace h12 := (F0.n 12 (by decide)).trans h12
  replace h13 := (F0.n 13 (by decide)).trans h13
  replace h61 := (F0.n 61 (by decide)).trans h61
  replace h14 := (F0.n 14 (by decide)).trans h14
  replace h15 := (F0.n 15 (by decide)).trans h15
  replace h72 := (F0.n 72 (by decide)).trans h72
  replace h16 := (F0.n 16 (by decide)).trans h16
  replace h17 := (F0.n 17 (by decide)).trans h17
  clear h81
  clear h83
  have h84 := F0.s
  clear F0
  refine opL 6 85 (v := .bool true) (w' := wj) (by kernel_rfl) (frZ hs) ?_ ?_
  · exact frY rfl (k_move rfl (ev_tmp h84))
  intro a F0
  replace hs := F0.z.trans hs
  replace hd := F0.e.trans hd
  replace h1 := (F0.n 1 (by decide)).trans h1
  replace h2 := (F0.n 2 (by decide)).trans h2
  replace h3 := (F0.n 3 (by decide)).trans h3
  replace h6 := (F0.n 6 (by decide)).trans h6
  replace h7 := (F0.n 7 (by decide)).trans h7
  replace h8 := (F0.n 8 (by decide)).trans h8
  replace h37 := (F0.n 37 (by decide)).trans h37
  replace h9 := (F0.n 9 (by decide)).trans h9
  replace h50 := (F0.n 50 (by decide)).trans h50
  replace h12 := (F0.n 12 (by decide)).trans h12
  replace h13 := (F0.n 13 (by decide)).trans h13
  replace h61 := (F0.n 61 (by decide)).trans h61
  replace h14 := (F0.n 14 (by decide)).trans h14
  replace h15 := (F0.n 15 (by decide)).trans h15
  replace h72 := (F0.n 72 (by decide)).trans h72
  replace h16 := (F0.n 16 (by decide)).trans h16
  replace h17 := (F0.n 17 (by decide)).trans h17
  clear h84
  have h85 := F0.s
  clear F0
  refine opL 7 86 (v := .int .i64 1) (w' := wj) (by kernel_rfl) (frZ hs) ?z271 ?z272
  case z271 => (intro o ho; obtain rfl := Option.some.inj ho; exact ⟨wanted_at (b := true) (want := true) rfl (by kernel_rfl) h85, k_move rfl (ev_tmp h17)⟩)
  case z272 =>
  intro a F0
  replace hs := F0.z.trans hs
  replace hd := F0.e.trans hd
  replace h1 := (F0.n 1 (by decide)).trans h1
  replace h2 := (F0.n 2 (by decide)).trans h2
  replace h3 := (F0.n 3 (by decide)).trans h3
  replace h6 := (F0.n 6 (by decide)).trans h6
  replace h7 := (F0.n 7 (by decide)).trans h7
  replace h8 := (F0.n 8 (by decide)).trans h8
  replace h37 := (F0.n 37 (by decide)).trans h37
  replace h9 := (F0.n 9 (by decide)).trans h9
  replace h50 := (F0.n 50 (by decide)).trans h50
  replace h12 := (F0.n 12 (by decide)).trans h12
  replace h13 := (F0.n 13 (by decide)).trans h13
  replace h61 := (F0.n 61 (by decide)).trans h61
  replace h14 := (F0.n 14 (by decide)).trans h14
  replace h15 := (F0.n 15 (by decide)).trans h15
  replace h72 := (F0.n 72 (by decide)).trans h72
  replace h16 := (F0.n 16 (by decide)).trans h16
  replace h17 := (F0.n 17 (by decide)).trans h17
  replace h85 := (F0.n 85 (by decide)).trans h85
  have h86 := F0.s
  clear F0
  refine opL 8 87 (v := .bool true) (w' := wj) (by kernel_rfl) (frZ hs) ?z273 ?z274
  case z273 => (intro o ho; obtain rfl := Option.some.inj ho; exact ⟨wanted_at (b := true) (want := true) rfl (by kernel_rfl) h85, o_eqE rfl (ev_tmp h86) rfl rfl⟩)
  case z274 =>
  intro a F0
  replace hs := F0.z.trans hs
  replace hd := F0.e.trans hd
  replace h1 := (F0.n 1 (by decide)).trans h1
  replace h2 := (F0.n 2 (by decide)).trans h2
  replace h3 := (F0.n 3 (by decide)).trans h3
  replace h6 := (F0.n 6 (by decide)).trans h6
  replace h7 := (F0.n 7 (by decide)).trans h7
  replace h8 := (F0.n 8 (by decide)).trans h8
  replace h37 := (F0.n 37 (by decide)).trans h37
  replace h9 := (F0.n 9 (by decide)).trans h9
  replace h50 := (F0.n 50 (by decide)).trans h50
  replace h12 := (F0.n 12 (by decide)).trans h12
  replace h13 := (F0.n 13 (by decide)).trans h13
  replace h61 := (F0.n 61 (by decide)).trans h61
  replace h14 := (F0.n 14 (by decide)).trans h14
  replace h15 := (F0.n 15 (by decide)).trans h15
  replace h72 := (F0.n 72 (by decide)).trans h72
  replace h16 := (F0.n 16 (by decide)).trans h16
  replace h17 := (F0.n 17 (by decide)).trans h17
  replace h85 := (F0.n 85 (by decide)).trans h85
  clear h86
  have h87 := F0.s
  clear F0
  refine opL 9 88 (v := .bool true) (w' := wj) (by kernel_rfl) (frZ hs) ?_ ?_
  · exact frY rfl (k_pick_yes rfl (ev_tmp h85) (ev_tmp h87))
  intro a F0
  replace hs := F0.z.trans hs
  replace hd := F0.e.trans hd
  replace h1 := (F0.n 1 (by decide)).trans h1
  replace h2 := (F0.n 2 (by decide)).trans h2
  replace h3 := (F0.n 3 (by decide)).trans h3
  replace h6 := (F0.n 6 (by decide)).trans h6
  replace h7 := (F0.n 7 (by decide)).trans h7
  replace h8 := (F0.n 8 (by decide)).trans h8
  replace h37 := (F0.n 37 (by decide)).trans h37
  replace h9 := (F0.n 9 (by decide)).trans h9
  replace h50 := (F0.n 50 (by decide)).trans h50
  replace h12 := (F0.n 12 (by decide)).trans h12
  replace h13 := (F0.n 13 (by decide)).trans h13
  replace h61 := (F0.n 61 (by decide)).trans h61
  replace h14 := (F0.n 14 (by decide)).trans h14
  replace h15 := (F0.n 15 (by decide)).trans h15
  replace h72 := (F0.n 72 (by decide)).trans h72
  replace h16 := (F0.n 16 (by decide)).trans h16
  replace h17 := (F0.n 17 (by decide)).trans h17
  clear h85
  clear h87
  have h88 := F0.s
  clear F0
  refine opL 10 6 (v := .bool true) (w' := wj) (by kernel_rfl) (frZ hs) ?_ ?_
  · exact frY rfl (k_assign rfl (ev_tmp h88))
  refine frN16 hs hd h1 h2 h3 h7 h8 h37 h9 h50 h12 h13 h61 h14 h15 h72 h16 h17 ?_; clear hs hd h1 h2 h3 h7 h8 h37 h9 h50 h12 h13 h61 h14 h15 h72 h16 h17 h6 h88; intro a hs hd h1 h2 h3 h7 h8 h37 h9 h50 h12 h13 h61 h14 h15 h72 h16 h17 h6
  refine wp_ret ?_
  exact hfin a _ hd h6 mj
theorem rfcTwice_walk (F I E C U : Int) (AM AD AW AP : Option Addr) (cM cD cW cP : Nat) (lm ld : List Int) (lw : List (Int × Int)) (lp : List Int) (k : Int) (s : List UInt8) (w : World) (hT : Tabs3 w) (hX : XIn0 w F I E C U AM AD AW AP lm ld lw lp) (hk : 0 ≤ k ∧ k ≤ 255) :
    Calls Tryz.prog 6 #[.agg #[.int .u8 F, .int .u8 I, .int .u8 E, .int .u16 C, .int .u32 U, .slice AM lm.length cM, .slice AD ld.length cD, .slice AW lw.length cW, .slice AP lp.length cP], .int .u8 k, .string ⟨(s).toArray⟩] w fun e w' => e = .returned (.bool true) ∧ Below w.heap.size w w' := by
  cases hlt : light lm ld lw lp
  · exact rfcTwice_h F I E C U AM AD AW AP cM cD cW cP lm ld lw lp k s w hT hX hlt
  · by_cases hln : 40 < s.length
    · exact rfcTwice_l F I E C U AM AD AW AP cM cD cW cP lm ld lw lp k s w hT hX hlt hln
    · cases hcon : decide (0 ≤ Lib.indexByte s 59)
      · exact rfcTwice_main F I E C U AM AD AW AP cM cD cW cP lm ld lw lp k s w hT hX hk hlt (by omega) hcon
      · exact rfcTwice_c F I E C U AM AD AW AP cM cD cW cP lm ld lw lp k s w hT hX hlt (by omega) hcon
end Go.Proofs.YtocpmljkmdpfkaaGreatDoor
