/-
  Lists read: rfc.parseList.
-/
import Derived.Test.YtocpmljkmdpfkaaGreatDoorRg2
import Derived.Test.YtocpmljkmdpfkaaGreatDoorMk
namespace Go.Proofs.YtocpmljkmdpfkaaGreatDoor
open Go.RowKit

/-- a list that was read, or none -/
def LI (w : World) (base : Nat) (o : Option (List (Int))) (v : Value) : Prop := match o with
  | some L => ∃ A cap, v = .tuple #[.slice A L.length cap, .bool true] ∧ OwnI w base (.slice A L.length cap) L
  | none => v = .tuple #[.slice none 0 0, .bool false]
noncomputable def psIBody : Code := Tryz.f66.body.getD .skip
noncomputable def psIRound : Code := (Tryz.f66.body.bind loopOf).getD .skip
structure LsI (w w1 : World) (s : List UInt8) (i : Nat) (L : List (Int)) (A : Option Addr) (cap : Nat) (a : Act) (wx : World) : Prop where
  d : a.defers = []
  z : a.tmps.size = 32
  s1 : a.tmps.getD 1 undef = .func (.func 63) #[] #[]
  s6 : a.tmps.getD 6 undef = .slice A L.length cap
  s12 : a.tmps.getD 12 undef = .slice (some ⟨w.heap.size, 0, none⟩) (Rfc.spl s 44).length (Rfc.spl s 44).length
  s13 : a.tmps.getD 13 undef = .int .i64 (Rfc.spl s 44).length
  s14 : a.tmps.getD 14 undef = .int .i64 i
  iN : i ≤ (Rfc.spl s 44).length
  m : Rfc.mm Rfc.pnum ((Rfc.spl s 44).take i) = some L
  lL : L.length ≤ i
  o : OwnI wx w1.heap.size (.slice A L.length cap) L
  B : Blk wx w.heap.size 9 ((Rfc.spl s 44).map fun x => Value.string ⟨x.toArray⟩).toArray
  zz : w.heap.size < w1.heap.size ∧ w1.heap.size ≤ wx.heap.size
  b : Below w.heap.size w wx

set_option maxRecDepth 100000 in
set_option maxHeartbeats 1000000 in
theorem psI_ok (w w1 : World) (s : List UInt8) (hT : Tabs w) (hl : s.length ≤ 100000) (i : Nat) (L : List (Int)) (A : Option Addr) (cap : Nat) (a : Act) (wx : World) (Q : Exit → Act → World → Prop) (J : LsI w w1 s i L A cap a wx) (hlt : i < (Rfc.spl s 44).length) (y : Int) (hg : Rfc.pnum ((Rfc.spl s 44)[i]) = some y) :
    psIRound.wp Tryz.prog (Exit.then (fun a' w' => (∃ i L A cap, LsI w w1 s i L A cap a' w') ∧ ((Rfc.spl s 44).length - intOf (a'.tmps.getD 14 undef)).toNat < ((Rfc.spl s 44).length - intOf (a.tmps.getD 14 undef)).toNat) Q) a wx := by
  obtain ⟨hd, hs, h1, h6, h12, h13, h14, hi, hm, lL, hO, hB, zz, hb⟩ := J
  have hpl : ((Rfc.spl s 44)[i]).length ≤ 100000 := Nat.le_trans (piece_le _ s 44 _ (List.getElem_mem hlt)) hl
  have hcell : wx.cell? ⟨w.heap.size, i, none⟩ = some (.string ⟨(((Rfc.spl s 44)[i])).toArray⟩) := by rw [hB.cell i]; simp [hlt]
  have hspl : (Rfc.spl s 44).length ≤ 100001 := by
    rw [spl_len]
    have := Lib.countB_le ⟨#[44]⟩ (Nat.le_refl 1) _ ⟨s.toArray⟩ (Nat.le_refl _)
    rw [ba_size] at this
    omega
  have e14 := h14
  rw [e14]
  clear e14
  unfold psIRound
  conv => arg 2; whnf
  refine wp_seq ?_
  refine wp_region (show wpOps _ _ _ [0] _ _ from ?_)
  refine opL 0 15 (v := .bool true) (w' := wx) (by kernel_rfl) (frZ hs) ?_ ?_
  · exact frY rfl (o_ltI rfl (ev_tmp h14) (ev_tmp h13) (decide_eq_true (by omega)))
  refine frN5 hs hd h1 h6 h12 h13 h14 ?_; clear hs hd h1 h6 h12 h13 h14; intro a hs hd h1 h6 h12 h13 h14 h15
  refine wp_seq ?_
  refine wp_cond_true (ev_tmp h15) ?_
  refine wp_skip ?_
  refine wp_seq ?_
  refine wp_block ?_
  refine wp_seq ?_
  refine wp_region (show wpOps _ _ _ [0, 1, 2] _ _ from ?_)
  refine opL 0 16 (v := .pointer (some ⟨w.heap.size, i, none⟩)) (w' := wx) (by kernel_rfl) (frZ hs) ?_ ?_
  · exact frY rfl (k_atS' rfl (ev_tmp h12) (ev_tmp h14) hlt)
  revert hs hd h1 h6 h12 h13 h14 h15; refine frM6 ?_; intro a hs hd h1 h6 h12 h13 h14 h15 h16
  refine opL 1 17 (v := .string ⟨(((Rfc.spl s 44)[i])).toArray⟩) (w' := wx) (by kernel_rfl) (frZ hs) ?_ ?_
  · exact frY rfl (k_loadStr rfl (ev_tmp h16) hcell)
  clear h16; revert hs hd h1 h6 h12 h13 h14 h15; refine frM6 ?_; intro a hs hd h1 h6 h12 h13 h14 h15 h17
  refine opL 2 8 (v := .string ⟨(((Rfc.spl s 44)[i])).toArray⟩) (w' := wx) (by kernel_rfl) (frZ hs) ?_ ?_
  · exact frY rfl (k_assign rfl (ev_tmp h17))
  clear h17; revert hs hd h1 h6 h12 h13 h14 h15; refine frM6 ?_; intro a hs hd h1 h6 h12 h13 h14 h15 h8
  refine wp_seq ?_
  refine wp_region (show wpOps _ _ _ [0, 1, 2, 3, 4, 5, 6, 7] _ _ from ?_)
  refine opL 0 19 (v := .func (.func 63) #[] #[]) (w' := wx) (by kernel_rfl) (frZ hs) ?_ ?_
  · exact frY rfl (k_move rfl (ev_tmp h1))
  revert hs hd h1 h6 h12 h13 h14 h15 h8; refine frM7 ?_; intro a hs hd h1 h6 h12 h13 h14 h15 h8 h19
  refine opL 1 20 (v := .string ⟨(((Rfc.spl s 44)[i])).toArray⟩) (w' := wx) (by kernel_rfl) (frZ hs) ?_ ?_
  · exact frY rfl (k_move rfl (ev_tmp h8))
  revert hs hd h1 h6 h12 h13 h14 h15 h8 h19; refine frM8 ?_; intro a hs hd h1 h6 h12 h13 h14 h15 h8 h19 h20
  have hc := pn_any ((Rfc.spl s 44)[i]) wx (hT.below hb) hpl
  have hx := fun ops Q rest d a i h1 h2 h3 => opL_call (P := Tryz.prog) (ops := ops) (Q := Q) (a := a) (w := wx) (rest := rest) i d h1 h2 h3 hc
  refine hx _ _ _ 21 _ 2 ?z521a ?z521b ?z521 ?z522
  case z521a => kernel_rfl
  case z521b => (rw [hs]; decide)
  case z521 => exact frY rfl (c_valNum rfl (ev_tmp h19) (ev_tmp h20))
  case z522 =>
  rintro _ w2 a ⟨rfl, l2⟩ F0
  rw [hg] at F0
  replace hs := F0.z.trans hs
  replace hd := F0.e.trans hd
  replace h1 := (F0.n 1 (by decide)).trans h1
  replace h6 := (F0.n 6 (by decide)).trans h6
  replace h12 := (F0.n 12 (by decide)).trans h12
  replace h13 := (F0.n 13 (by decide)).trans h13
  replace h14 := (F0.n 14 (by decide)).trans h14
  replace h15 := (F0.n 15 (by decide)).trans h15
  replace h8 := (F0.n 8 (by decide)).trans h8
  clear h19
  clear h20
  have h21 := F0.s
  clear F0
  clear hx hc
  replace hO := hO.below l2
  replace hB := hB.below l2 hB.lt
  replace hb := hb.trans (l2.mono hb.size)
  have z2 : w1.heap.size ≤ w2.heap.size := Nat.le_trans zz.2 l2.size
  refine opL 3 18 (v := .tuple #[.int .i64 y, .bool true]) (w' := w2) (by kernel_rfl) (frZ hs) ?_ ?_
  · exact frY rfl (k_move rfl (ev_tmp h21))
  refine frN7 hs hd h1 h6 h12 h13 h14 h15 h8 ?_; clear hs hd h1 h6 h12 h13 h14 h15 h8 h21; intro a hs hd h1 h6 h12 h13 h14 h15 h8 h18
  refine opL 4 22 (v := .int .i64 y) (w' := w2) (by kernel_rfl) (frZ hs) ?_ ?_
  · exact frY rfl (k_extract rfl (ev_tmp h18) rfl)
  revert hs hd h1 h6 h12 h13 h14 h15 h8 h18; refine frM8 ?_; intro a hs hd h1 h6 h12 h13 h14 h15 h8 h18 h22
  refine opL 5 23 (v := .bool true) (w' := w2) (by kernel_rfl) (frZ hs) ?_ ?_
  · exact frY rfl (k_extract rfl (ev_tmp h18) rfl)
  clear h18; revert hs hd h1 h6 h12 h13 h14 h15 h8 h22; refine frM8 ?_; intro a hs hd h1 h6 h12 h13 h14 h15 h8 h22 h23
  refine opL 6 9 (v := .int .i64 y) (w' := w2) (by kernel_rfl) (frZ hs) ?_ ?_
  · exact frY rfl (k_assign rfl (ev_tmp h22))
  clear h22; revert hs hd h1 h6 h12 h13 h14 h15 h8 h23; refine frM8 ?_; intro a hs hd h1 h6 h12 h13 h14 h15 h8 h23 h9
  refine opL 7 10 (v := .bool true) (w' := w2) (by kernel_rfl) (frZ hs) ?_ ?_
  · exact frY rfl (k_assign rfl (ev_tmp h23))
  clear h23; revert hs hd h1 h6 h12 h13 h14 h15 h8 h9; refine frM8 ?_; intro a hs hd h1 h6 h12 h13 h14 h15 h8 h9 h10
  refine wp_seq ?_
  refine wp_seq ?_
  refine wp_region (show wpOps _ _ _ [0, 1] _ _ from ?_)
  refine opL 0 24 (v := .bool true) (w' := w2) (by kernel_rfl) (frZ hs) ?_ ?_
  · exact frY rfl (k_move rfl (ev_tmp h10))
  revert hs hd h1 h6 h12 h13 h14 h15 h8 h9 h10; refine frM9 ?_; intro a hs hd h1 h6 h12 h13 h14 h15 h8 h9 h10 h24
  refine opL 1 25 (v := .bool false) (w' := w2) (by kernel_rfl) (frZ hs) ?_ ?_
  · exact frY rfl (o_not rfl (ev_tmp h24) rfl)
  clear h24; revert hs hd h1 h6 h12 h13 h14 h15 h8 h9 h10; refine frM9 ?_; intro a hs hd h1 h6 h12 h13 h14 h15 h8 h9 h10 h25
  refine wp_cond_false (ev_tmp h25) ?_
  refine wp_skip ?_
  refine wp_region (show wpOps _ _ _ [0, 1, 2, 3, 4] _ _ from ?_)
  refine opL 0 26 (v := .slice A L.length cap) (w' := w2) (by kernel_rfl) (frZ hs) ?_ ?_
  · exact frY rfl (k_move rfl (ev_tmp h6))
  revert hs hd h1 h6 h12 h13 h14 h15 h8 h9 h10 h25; refine frM10 ?_; intro a hs hd h1 h6 h12 h13 h14 h15 h8 h9 h10 h25 h26
  refine opL 1 27 (v := .int .i64 y) (w' := w2) (by kernel_rfl) (frZ hs) ?_ ?_
  · exact frY rfl (k_move rfl (ev_tmp h9))
  revert hs hd h1 h6 h12 h13 h14 h15 h8 h9 h10 h25 h26; refine frM11 ?_; intro a hs hd h1 h6 h12 h13 h14 h15 h8 h9 h10 h25 h26 h27
  refine opL 2 28 (v := .slice (some ⟨w2.heap.size, 0, none⟩) 1 1) (w' := (w2.alloc (.cells #[.int .i64 y] 3))) (by kernel_rfl) (frZ hs) ?_ ?_
  · exact frY rfl (k_slice1 rfl (ev_tmp h27))
  clear h27; revert hs hd h1 h6 h12 h13 h14 h15 h8 h9 h10 h25 h26; refine frM11 ?_; intro a hs hd h1 h6 h12 h13 h14 h15 h8 h9 h10 h25 h26 h28
  obtain ⟨w3, hw3⟩ : ∃ wn, wn = w2.alloc (.cells #[.int .i64 y] 3) := ⟨_, rfl⟩
  rw [← hw3]
  have q3 : Blk w3 w2.heap.size 3 #[.int .i64 y] := by rw [hw3]; exact Blk.alloc _ _ _
  have l3 : Below w2.heap.size w2 w3 := by rw [hw3]; exact (Below.refl _ _).alloc (Nat.le_refl _) _
  clear hw3
  replace hO := hO.below l3
  replace hB := hB.below l3 hB.lt
  replace hb := hb.trans (l3.mono hb.size)
  have z3 : w1.heap.size ≤ w3.heap.size := Nat.le_trans z2 l3.size
  obtain ⟨v', w4, hr, hO4, b4, z4⟩ := append_int_b (c := 1) hO (q3.cell 0) (by omega) z3
  obtain ⟨A', cap', rfl, -, -, -⟩ := hO4.ints
  refine opL 3 29 (v := .slice A' (L ++ [y]).length cap') (w' := w4) (by kernel_rfl) (frZ hs) ?_ ?_
  · exact frY rfl (k_append rfl rfl (ev_tmp h26) (ev_tmp h28) hr)
  refine frN10 hs hd h1 h6 h12 h13 h14 h15 h8 h9 h10 h25 ?_; clear hs hd h1 h6 h12 h13 h14 h15 h8 h9 h10 h25 h26 h28; intro a hs hd h1 h6 h12 h13 h14 h15 h8 h9 h10 h25 h29
  have hB4 := hB.below b4 zz.1
  have hb4 := hb.trans (b4.mono (Nat.le_of_lt zz.1))
  refine opL 4 6 (v := .slice A' (L ++ [y]).length cap') (w' := w4) (by kernel_rfl) (frZ hs) ?_ ?_
  · exact frY rfl (k_assign rfl (ev_tmp h29))
  refine frN9 hs hd h1 h12 h13 h14 h15 h8 h9 h10 h25 ?_; clear hs hd h1 h12 h13 h14 h15 h8 h9 h10 h25 h6 h29; intro a hs hd h1 h12 h13 h14 h15 h8 h9 h10 h25 h6
  refine wp_region (show wpOps _ _ _ [0, 1] _ _ from ?_)
  refine opL 0 30 (v := .int .i64 (i + 1 : Nat)) (w' := w4) (by kernel_rfl) (frZ hs) ?_ ?_
  · exact frY rfl (o_addI rfl (ev_tmp h14) rfl (wrap_small (n := (i : Int) + 1) (by omega) (by omega)))
  revert hs hd h1 h12 h13 h14 h15 h8 h9 h10 h25 h6; refine frM10 ?_; intro a hs hd h1 h12 h13 h14 h15 h8 h9 h10 h25 h6 h30
  refine opL 1 14 (v := .int .i64 (i + 1 : Nat)) (w' := w4) (by kernel_rfl) (frZ hs) ?_ ?_
  · exact frY rfl (k_move rfl (ev_tmp h30))
  clear h14 h30; revert hs hd h1 h12 h13 h15 h8 h9 h10 h25 h6; refine frM9 ?_; intro a hs hd h1 h12 h13 h15 h8 h9 h10 h25 h6 h14
  refine ⟨⟨i + 1, L ++ [y], A', cap', hd, hs, h1, h6, h12, h13, h14, hlt, ?_, by simp; omega, hO4, hB4, ⟨zz.1, by omega⟩, hb4⟩, ?_⟩
  · rw [List.take_succ_eq_append_getElem hlt]
    exact Rfc.mm_snoc Rfc.pnum _ _ L y hm hg
  · rw [h14]
    simp only [intOf]
    omega

set_option maxRecDepth 100000 in
set_option maxHeartbeats 1000000 in
theorem psI_bad (w w1 : World) (s : List UInt8) (hT : Tabs w) (hl : s.length ≤ 100000) (i : Nat) (L : List (Int)) (A : Option Addr) (cap : Nat) (a : Act) (wx : World) (Q : Exit → Act → World → Prop) (J : LsI w w1 s i L A cap a wx) (hlt : i < (Rfc.spl s 44).length) (hg : Rfc.pnum ((Rfc.spl s 44)[i]) = none) (hfin : ∀ (a' : Act) (w' : World), a'.defers = [] → a'.tmps.getD 4 undef = .slice none 0 0 → a'.tmps.getD 5 undef = .bool false → Rfc.plistI s = none → Below w.heap.size w w' → Q .ret a' w') :
    psIRound.wp Tryz.prog (Exit.then (fun a' w' => (∃ i L A cap, LsI w w1 s i L A cap a' w') ∧ ((Rfc.spl s 44).length - intOf (a'.tmps.getD 14 undef)).toNat < ((Rfc.spl s 44).length - intOf (a.tmps.getD 14 undef)).toNat) Q) a wx := by
  obtain ⟨hd, hs, h1, h6, h12, h13, h14, hi, hm, lL, hO, hB, zz, hb⟩ := J
  have hpl : ((Rfc.spl s 44)[i]).length ≤ 100000 := Nat.le_trans (piece_le _ s 44 _ (List.getElem_mem hlt)) hl
  have hcell : wx.cell? ⟨w.heap.size, i, none⟩ = some (.string ⟨(((Rfc.spl s 44)[i])).toArray⟩) := by rw [hB.cell i]; simp [hlt]
  have hspl : (Rfc.spl s 44).length ≤ 100001 := by
    rw [spl_len]
    have := Lib.countB_le ⟨#[44]⟩ (Nat.le_refl 1) _ ⟨s.toArray⟩ (Nat.le_refl _)
    rw [ba_size] at this
    omega
  have e14 := h14
  rw [e14]
  clear e14
  unfold psIRound
  conv => arg 2; whnf
  refine wp_seq ?_
  refine wp_region (show wpOps _ _ _ [0] _ _ from ?_)
  refine opL 0 15 (v := .bool true) (w' := wx) (by kernel_rfl) (frZ hs) ?_ ?_
  · exact frY rfl (o_ltI rfl (ev_tmp h14) (ev_tmp h13) (decide_eq_true (by omega)))
  refine frN5 hs hd h1 h6 h12 h13 h14 ?_; clear hs hd h1 h6 h12 h13 h14; intro a hs hd h1 h6 h12 h13 h14 h15
  refine wp_seq ?_
  refine wp_cond_true (ev_tmp h15) ?_
  refine wp_skip ?_
  refine wp_seq ?_
  refine wp_block ?_
  refine wp_seq ?_
  refine wp_region (show wpOps _ _ _ [0, 1, 2] _ _ from ?_)
  refine opL 0 16 (v := .pointer (some ⟨w.heap.size, i, none⟩)) (w' := wx) (by kernel_rfl) (frZ hs) ?_ ?_
  · exact frY rfl (k_atS' rfl (ev_tmp h12) (ev_tmp h14) hlt)
  revert hs hd h1 h6 h12 h13 h14 h15; refine frM6 ?_; intro a hs hd h1 h6 h12 h13 h14 h15 h16
  refine opL 1 17 (v := .string ⟨(((Rfc.spl s 44)[i])).toArray⟩) (w' := wx) (by kernel_rfl) (frZ hs) ?_ ?_
  · exact frY rfl (k_loadStr rfl (ev_tmp h16) hcell)
  clear h16; revert hs hd h1 h6 h12 h13 h14 h15; refine frM6 ?_; intro a hs hd h1 h6 h12 h13 h14 h15 h17
  refine opL 2 8 (v := .string ⟨(((Rfc.spl s 44)[i])).toArray⟩) (w' := wx) (by kernel_rfl) (frZ hs) ?_ ?_
  · exact frY rfl (k_assign rfl (ev_tmp h17))
  clear h17; revert hs hd h1 h6 h12 h13 h14 h15; refine frM6 ?_; intro a hs hd h1 h6 h12 h13 h14 h15 h8
  refine wp_seq ?_
  refine wp_region (show wpOps _ _ _ [0, 1, 2, 3, 4, 5, 6, 7] _ _ from ?_)
  refine opL 0 19 (v := .func (.func 63) #[] #[]) (w' := wx) (by kernel_rfl) (frZ hs) ?_ ?_
  · exact frY rfl (k_move rfl (ev_tmp h1))
  revert hs hd h1 h6 h12 h13 h14 h15 h8; refine frM7 ?_; intro a hs hd h1 h6 h12 h13 h14 h15 h8 h19
  refine opL 1 20 (v := .string ⟨(((Rfc.spl s 44)[i])).toArray⟩) (w' := wx) (by kernel_rfl) (frZ hs) ?_ ?_
  · exact frY rfl (k_move rfl (ev_tmp h8))
  revert hs hd h1 h6 h12 h13 h14 h15 h8 h19; refine frM8 ?_; intro a hs hd h1 h6 h12 h13 h14 h15 h8 h19 h20
  have hc := pn_any ((Rfc.spl s 44)[i]) wx (hT.below hb) hpl
  have hx := fun ops Q rest d a i h1 h2 h3 => opL_call (P := Tryz.prog) (ops := ops) (Q := Q) (a := a) (w := wx) (rest := rest) i d h1 h2 h3 hc
  refine hx _ _ _ 21 _ 2 ?z563a ?z563b ?z563 ?z564
  case z563a => kernel_rfl
  case z563b => (rw [hs]; decide)
  case z563 => exact frY rfl (c_valNum rfl (ev_tmp h19) (ev_tmp h20))
  case z564 =>
  rintro _ w2 a ⟨rfl, l2⟩ F0
  rw [hg] at F0
  replace hs := F0.z.trans hs
  replace hd := F0.e.trans hd
  replace h1 := (F0.n 1 (by decide)).trans h1
  replace h6 := (F0.n 6 (by decide)).trans h6
  replace h12 := (F0.n 12 (by decide)).trans h12
  replace h13 := (F0.n 13 (by decide)).trans h13
  replace h14 := (F0.n 14 (by decide)).trans h14
  replace h15 := (F0.n 15 (by decide)).trans h15
  replace h8 := (F0.n 8 (by decide)).trans h8
  clear h19
  clear h20
  have h21 := F0.s
  clear F0
  clear hx hc
  replace hO := hO.below l2
  replace hB := hB.below l2 hB.lt
  replace hb := hb.trans (l2.mono hb.size)
  have z2 : w1.heap.size ≤ w2.heap.size := Nat.le_trans zz.2 l2.size
  refine opL 3 18 (v := .tuple #[.int .i64 0, .bool false]) (w' := w2) (by kernel_rfl) (frZ hs) ?_ ?_
  · exact frY rfl (k_move rfl (ev_tmp h21))
  refine frN7 hs hd h1 h6 h12 h13 h14 h15 h8 ?_; clear hs hd h1 h6 h12 h13 h14 h15 h8 h21; intro a hs hd h1 h6 h12 h13 h14 h15 h8 h18
  refine opL 4 22 (v := .int .i64 0) (w' := w2) (by kernel_rfl) (frZ hs) ?_ ?_
  · exact frY rfl (k_extract rfl (ev_tmp h18) rfl)
  revert hs hd h1 h6 h12 h13 h14 h15 h8 h18; refine frM8 ?_; intro a hs hd h1 h6 h12 h13 h14 h15 h8 h18 h22
  refine opL 5 23 (v := .bool false) (w' := w2) (by kernel_rfl) (frZ hs) ?_ ?_
  · exact frY rfl (k_extract rfl (ev_tmp h18) rfl)
  clear h18; revert hs hd h1 h6 h12 h13 h14 h15 h8 h22; refine frM8 ?_; intro a hs hd h1 h6 h12 h13 h14 h15 h8 h22 h23
  refine opL 6 9 (v := .int .i64 0) (w' := w2) (by kernel_rfl) (frZ hs) ?_ ?_
  · exact frY rfl (k_assign rfl (ev_tmp h22))
  clear h22; revert hs hd h1 h6 h12 h13 h14 h15 h8 h23; refine frM8 ?_; intro a hs hd h1 h6 h12 h13 h14 h15 h8 h23 h9
  refine opL 7 10 (v := .bool false) (w' := w2) (by kernel_rfl) (frZ hs) ?_ ?_
  · exact frY rfl (k_assign rfl (ev_tmp h23))
  clear h23; revert hs hd h1 h6 h12 h13 h14 h15 h8 h9; refine frM8 ?_; intro a hs hd h1 h6 h12 h13 h14 h15 h8 h9 h10
  refine wp_seq ?_
  refine wp_seq ?_
  refine wp_region (show wpOps _ _ _ [0, 1] _ _ from ?_)
  refine opL 0 24 (v := .bool false) (w' := w2) (by kernel_rfl) (frZ hs) ?_ ?_
  · exact frY rfl (k_move rfl (ev_tmp h10))
  revert hs hd h1 h6 h12 h13 h14 h15 h8 h9 h10; refine frM9 ?_; intro a hs hd h1 h6 h12 h13 h14 h15 h8 h9 h10 h24
  refine opL 1 25 (v := .bool true) (w' := w2) (by kernel_rfl) (frZ hs) ?_ ?_
  · exact frY rfl (o_not rfl (ev_tmp h24) rfl)
  clear h24; revert hs hd h1 h6 h12 h13 h14 h15 h8 h9 h10; refine frM9 ?_; intro a hs hd h1 h6 h12 h13 h14 h15 h8 h9 h10 h25
  refine wp_cond_true (ev_tmp h25) ?_
  refine wp_seq ?_
  refine wp_region (show wpOps _ _ _ [0, 1] _ _ from ?_)
  refine opL 0 4 (v := .slice none 0 0) (w' := w2) (by kernel_rfl) (frZ hs) ?_ ?_
  · exact frY rfl (k_assign rfl rfl)
  revert hs hd h1 h6 h12 h13 h14 h15 h8 h9 h10 h25; refine frM10 ?_; intro a hs hd h1 h6 h12 h13 h14 h15 h8 h9 h10 h25 h4
  refine opL 1 5 (v := .bool false) (w' := w2) (by kernel_rfl) (frZ hs) ?_ ?_
  · exact frY rfl (k_assign rfl rfl)
  revert hs hd h1 h6 h12 h13 h14 h15 h8 h9 h10 h25 h4; refine frM11 ?_; intro a hs hd h1 h6 h12 h13 h14 h15 h8 h9 h10 h25 h4 h5
  refine wp_ret ?_
  exact hfin a _ hd h4 h5 (Rfc.mm_fail Rfc.pnum _ i hlt hg) hb

set_option maxRecDepth 100000 in
set_option maxHeartbeats 1000000 in
theorem psI_any (s : List UInt8) (w : World) (hT : Tabs w) (hl : s.length ≤ 100000) :
    Calls Tryz.prog 66 #[.string ⟨s.toArray⟩, .func (.func 63) #[] #[]] w fun e w' => ∃ v, e = .returned v ∧ LI w' w.heap.size (Rfc.plistI s) v ∧ Below w.heap.size w w' := by
  refine calls_of_wp Tryz.func66 (show Tryz.f66.body = some psIBody from rfl) ?_
  generalize hAA : (Act.mk (#[.string ⟨s.toArray⟩, .func (.func 63) #[] #[]] ++ Array.replicate (Tryz.f66.ntmps - (#[.string ⟨s.toArray⟩, .func (.func 63) #[] #[]] : Array Value).size) undef) []) = a
  have hs : a.tmps.size = 32 := by rw [← hAA]; simp [Tryz.ntmps66]
  have hd : a.defers = [] := by rw [← hAA]
  have h0 : a.tmps.getD 0 undef = .string ⟨s.toArray⟩ := by rw [← hAA]; simp
  have h1 : a.tmps.getD 1 undef = .func (.func 63) #[] #[] := by rw [← hAA]; simp
  clear hAA
  have hfin : ∀ (a' : Act) (w' : World) (x y : Value), a'.defers = [] → a'.tmps.getD 4 undef = x → a'.tmps.getD 5 undef = y → LI w' w.heap.size (Rfc.plistI s) (.tuple #[x, y]) → Below w.heap.size w w' → (bodyPost Tryz.prog Tryz.f66 fun e w' => ∃ v, e = .returned v ∧ LI w' w.heap.size (Rfc.plistI s) v ∧ Below w.heap.size w w') .ret a' w' := by
    intro a' w' x y k1 k2 k3 k4 k5
    exact ⟨k1, _, results2 rfl _ _ _, _, rfl, by rw [k2, k3]; exact k4, k5⟩
  generalize (bodyPost Tryz.prog Tryz.f66 fun e w' => ∃ v, e = .returned v ∧ LI w' w.heap.size (Rfc.plistI s) v ∧ Below w.heap.size w w') = Q at hfin
  unfold psIBody
  conv => arg 2; whnf
  refine wp_seq ?_
  refine wp_region (show wpOps _ _ _ [0, 1] _ _ from ?_)
  refine opL 0 4 (v := .slice none 0 0) (w' := w) (by kernel_rfl) (frZ hs) ?_ ?_
  · exact frY rfl (k_assign rfl rfl)
  refine frN2 hs hd h0 h1 ?_; clear hs hd h0 h1; intro a hs hd h0 h1 h4
  refine opL 1 5 (v := .bool false) (w' := w) (by kernel_rfl) (frZ hs) ?_ ?_
  · exact frY rfl (k_assign rfl rfl)
  revert hs hd h0 h1 h4; refine frM3 ?_; intro a hs hd h0 h1 h4 h5
  refine wp_seq ?_
  refine wp_region (show wpOps _ _ _ [0] _ _ from ?_)
  refine opL 0 6 (v := .slice none 0 0) (w' := w) (by kernel_rfl) (frZ hs) ?_ ?_
  · exact frY rfl (k_assign rfl rfl)
  revert hs hd h0 h1 h4 h5; refine frM4 ?_; intro a hs hd h0 h1 h4 h5 h6
  refine wp_seq ?_
  refine wp_seq ?_
  refine wp_region (show wpOps _ _ _ [0, 1, 2, 3] _ _ from ?_)
  refine opL 0 11 (v := .string ⟨s.toArray⟩) (w' := w) (by kernel_rfl) (frZ hs) ?_ ?_
  · exact frY rfl (k_move rfl (ev_tmp h0))
  revert hs hd h0 h1 h4 h5 h6; refine frM5 ?_; intro a hs hd h0 h1 h4 h5 h6 h11
  have hc := split_any s 44 w hT hl
  have hx := fun ops Q rest d a i h1 h2 h3 => opL_call (P := Tryz.prog) (ops := ops) (Q := Q) (a := a) (w := w) (rest := rest) i d h1 h2 h3 hc
  refine hx _ _ _ 12 _ 1 ?z591a ?z591b ?z591 ?z592
  case z591a => kernel_rfl
  case z591b => (rw [hs]; decide)
  case z591 => exact frY rfl (c_Split rfl rfl (ev_tmp h11) rfl)
  case z592 =>
  rintro _ w1 a ⟨⟨rfl, q1⟩, l1⟩ F0
  replace hs := F0.z.trans hs
  replace hd := F0.e.trans hd
  replace h0 := (F0.n 0 (by decide)).trans h0
  replace h1 := (F0.n 1 (by decide)).trans h1
  replace h4 := (F0.n 4 (by decide)).trans h4
  replace h5 := (F0.n 5 (by decide)).trans h5
  replace h6 := (F0.n 6 (by decide)).trans h6
  clear h11
  have h12 := F0.s
  clear F0
  clear hx hc
  refine opL 2 13 (v := .int .i64 (Rfc.spl s 44).length) (w' := w1) (by kernel_rfl) (frZ hs) ?_ ?_
  · exact frY rfl (k_lenStr rfl (ev_tmp h12))
  refine frN6 hs hd h0 h1 h4 h5 h6 h12 ?_; clear hs hd h0 h1 h4 h5 h6 h12; intro a hs hd h0 h1 h4 h5 h6 h12 h13
  refine opL 3 14 (v := .int .i64 0) (w' := w1) (by kernel_rfl) (frZ hs) ?_ ?_
  · exact frY rfl (k_move rfl rfl)
  revert hs hd h0 h1 h4 h5 h6 h12 h13; refine frM7 ?_; intro a hs hd h0 h1 h4 h5 h6 h12 h13 h14
  refine wp_block ?_
  refine wp_loop (fun a wx => ∃ i L A cap, LsI w w1 s i L A cap a wx) (fun a _ => ((Rfc.spl s 44).length - intOf (a.tmps.getD 14 undef)).toNat) ⟨0, [], none, 0, ⟨hd, hs, h1, h6, h12, h13, h14, Nat.zero_le _, rfl, Nat.le_refl _, OwnI.nil _ _, q1, ⟨q1.lt, Nat.le_refl _⟩, l1⟩⟩ ?_
  clear hs hd q1 l1 h0 h1 h4 h5 h6 h12 h13 h14 a
  rintro a wx ⟨i, L, A, cap, J⟩
  by_cases hlt : i < (Rfc.spl s 44).length
  · cases hg : Rfc.pnum ((Rfc.spl s 44)[i]) with
    | none => exact psI_bad w w1 s hT hl i L A cap a wx _ J hlt hg (fun a' w' k1 k2 k3 k4 k5 => hfin a' w' _ _ k1 k2 k3 (by show LI _ _ _ _; rw [k4]; rfl) k5)
    | some y => exact psI_ok w w1 s hT hl i L A cap a wx _ J hlt y hg
  obtain ⟨hd, hs, h1, h6, h12, h13, h14, hi, hm, lL, hO, hB, zz, hb⟩ := J
  obtain rfl : i = (Rfc.spl s 44).length := by omega
  rw [List.take_length] at hm
  clear h1 h12 hB
  refine wp_seq ?_
  refine wp_region (show wpOps _ _ _ [0] _ _ from ?_)
  refine opL 0 15 (v := .bool false) (w' := wx) (by kernel_rfl) (frZ hs) ?_ ?_
  · exact frY rfl (o_ltI rfl (ev_tmp h14) (ev_tmp h13) (decide_eq_false (by omega)))
  refine frN3 hs hd h6 h13 h14 ?_; clear hs hd h6 h13 h14; intro a hs hd h6 h13 h14 h15
  refine wp_seq ?_
  refine wp_cond_false (ev_tmp h15) ?_
  refine wp_exit ?_
  change Code.wp _ _ _ _ _
  refine wp_seq ?_
  refine wp_region (show wpOps _ _ _ [0, 1, 2] _ _ from ?_)
  refine opL 0 31 (v := .slice A L.length cap) (w' := wx) (by kernel_rfl) (frZ hs) ?_ ?_
  · exact frY rfl (k_move rfl (ev_tmp h6))
  refine frN4 hs hd h6 h13 h14 h15 ?_; clear hs hd h6 h13 h14 h15; intro a hs hd h6 h13 h14 h15 h31
  refine opL 1 4 (v := .slice A L.length cap) (w' := wx) (by kernel_rfl) (frZ hs) ?_ ?_
  · exact frY rfl (k_assign rfl (ev_tmp h31))
  clear h31; revert hs hd h6 h13 h14 h15; refine frM4 ?_; intro a hs hd h6 h13 h14 h15 h4
  refine opL 2 5 (v := .bool true) (w' := wx) (by kernel_rfl) (frZ hs) ?_ ?_
  · exact frY rfl (k_assign rfl rfl)
  revert hs hd h6 h13 h14 h15 h4; refine frM5 ?_; intro a hs hd h6 h13 h14 h15 h4 h5
  refine wp_ret ?_
  exact hfin a wx _ _ hd h4 h5 (by show LI _ _ _ _; rw [show Rfc.plistI s = some L from hm]; exact ⟨A, cap, rfl, hO.base (Nat.le_of_lt zz.1)⟩) hb

/-- a list that was read, or none -/
def LN (w : World) (base : Nat) (o : Option (List (Int × Int))) (v : Value) : Prop := match o with
  | some L => ∃ A cap, v = .tuple #[.slice A L.length cap, .bool true] ∧ OwnN w base (.slice A L.length cap) L
  | none => v = .tuple #[.slice none 0 0, .bool false]
noncomputable def psNBody : Code := Tryz.f67.body.getD .skip
noncomputable def psNRound : Code := (Tryz.f67.body.bind loopOf).getD .skip
structure LsN (w w1 : World) (s : List UInt8) (i : Nat) (L : List (Int × Int)) (A : Option Addr) (cap : Nat) (a : Act) (wx : World) : Prop where
  d : a.defers = []
  z : a.tmps.size = 32
  s1 : a.tmps.getD 1 undef = .func (.func 68) #[] #[]
  s6 : a.tmps.getD 6 undef = .slice A L.length cap
  s12 : a.tmps.getD 12 undef = .slice (some ⟨w.heap.size, 0, none⟩) (Rfc.spl s 44).length (Rfc.spl s 44).length
  s13 : a.tmps.getD 13 undef = .int .i64 (Rfc.spl s 44).length
  s14 : a.tmps.getD 14 undef = .int .i64 i
  iN : i ≤ (Rfc.spl s 44).length
  m : Rfc.mm Rfc.pw ((Rfc.spl s 44).take i) = some L
  lL : L.length ≤ i
  o : OwnN wx w1.heap.size (.slice A L.length cap) L
  B : Blk wx w.heap.size 9 ((Rfc.spl s 44).map fun x => Value.string ⟨x.toArray⟩).toArray
  zz : w.heap.size < w1.heap.size ∧ w1.heap.size ≤ wx.heap.size
  b : Below w.heap.size w wx

set_option maxRecDepth 100000 in
set_option maxHeartbeats 1000000 in
theorem psN_ok (w w1 : World) (s : List UInt8) (hT : Tabs w) (hl : s.length ≤ 100000) (i : Nat) (L : List (Int × Int)) (A : Option Addr) (cap : Nat) (a : Act) (wx : World) (Q : Exit → Act → World → Prop) (J : LsN w w1 s i L A cap a wx) (hlt : i < (Rfc.spl s 44).length) (hg : (Rfc.pwd ((Rfc.spl s 44)[i])).2 = true) :
    psNRound.wp Tryz.prog (Exit.then (fun a' w' => (∃ i L A cap, LsN w w1 s i L A cap a' w') ∧ ((Rfc.spl s 44).length - intOf (a'.tmps.getD 14 undef)).toNat < ((Rfc.spl s 44).length - intOf (a.tmps.getD 14 undef)).toNat) Q) a wx := by
  obtain ⟨hd, hs, h1, h6, h12, h13, h14, hi, hm, lL, hO, hB, zz, hb⟩ := J
  have hpl : ((Rfc.spl s 44)[i]).length ≤ 100000 := Nat.le_trans (piece_le _ s 44 _ (List.getElem_mem hlt)) hl
  have hcell : wx.cell? ⟨w.heap.size, i, none⟩ = some (.string ⟨(((Rfc.spl s 44)[i])).toArray⟩) := by rw [hB.cell i]; simp [hlt]
  have hspl : (Rfc.spl s 44).length ≤ 100001 := by
    rw [spl_len]
    have := Lib.countB_le ⟨#[44]⟩ (Nat.le_refl 1) _ ⟨s.toArray⟩ (Nat.le_refl _)
    rw [ba_size] at this
    omega
  have e14 := h14
  rw [e14]
  clear e14
  unfold psNRound
  conv => arg 2; whnf
  refine wp_seq ?_
  refine wp_region (show wpOps _ _ _ [0] _ _ from ?_)
  refine opL 0 15 (v := .bool true) (w' := wx) (by kernel_rfl) (frZ hs) ?_ ?_
  · exact frY rfl (o_ltI rfl (ev_tmp h14) (ev_tmp h13) (decide_eq_true (by omega)))
  refine frN5 hs hd h1 h6 h12 h13 h14 ?_; clear hs hd h1 h6 h12 h13 h14; intro a hs hd h1 h6 h12 h13 h14 h15
  refine wp_seq ?_
  refine wp_cond_true (ev_tmp h15) ?_
  refine wp_skip ?_
  refine wp_seq ?_
  refine wp_block ?_
  refine wp_seq ?_
  refine wp_region (show wpOps _ _ _ [0, 1, 2] _ _ from ?_)
  refine opL 0 16 (v := .pointer (some ⟨w.heap.size, i, none⟩)) (w' := wx) (by kernel_rfl) (frZ hs) ?_ ?_
  · exact frY rfl (k_atS' rfl (ev_tmp h12) (ev_tmp h14) hlt)
  revert hs hd h1 h6 h12 h13 h14 h15; refine frM6 ?_; intro a hs hd h1 h6 h12 h13 h14 h15 h16
  refine opL 1 17 (v := .string ⟨(((Rfc.spl s 44)[i])).toArray⟩) (w' := wx) (by kernel_rfl) (frZ hs) ?_ ?_
  · exact frY rfl (k_loadStr rfl (ev_tmp h16) hcell)
  clear h16; revert hs hd h1 h6 h12 h13 h14 h15; refine frM6 ?_; intro a hs hd h1 h6 h12 h13 h14 h15 h17
  refine opL 2 8 (v := .string ⟨(((Rfc.spl s 44)[i])).toArray⟩) (w' := wx) (by kernel_rfl) (frZ hs) ?_ ?_
  · exact frY rfl (k_assign rfl (ev_tmp h17))
  clear h17; revert hs hd h1 h6 h12 h13 h14 h15; refine frM6 ?_; intro a hs hd h1 h6 h12 h13 h14 h15 h8
  refine wp_seq ?_
  refine wp_region (show wpOps _ _ _ [0, 1, 2, 3, 4, 5, 6, 7, 8] _ _ from ?_)
  refine opL 0 19 (v := .func (.func 68) #[] #[]) (w' := wx) (by kernel_rfl) (frZ hs) ?_ ?_
  · exact frY rfl (k_move rfl (ev_tmp h1))
  revert hs hd h1 h6 h12 h13 h14 h15 h8; refine frM7 ?_; intro a hs hd h1 h6 h12 h13 h14 h15 h8 h19
  refine opL 1 20 (v := .string ⟨(((Rfc.spl s 44)[i])).toArray⟩) (w' := wx) (by kernel_rfl) (frZ hs) ?_ ?_
  · exact frY rfl (k_move rfl (ev_tmp h8))
  revert hs hd h1 h6 h12 h13 h14 h15 h8 h19; refine frM8 ?_; intro a hs hd h1 h6 h12 h13 h14 h15 h8 h19 h20
  have hc := pw_any ((Rfc.spl s 44)[i]) wx (hT.below hb) hpl
  have hx := fun ops Q rest d a i h1 h2 h3 => opL_call (P := Tryz.prog) (ops := ops) (Q := Q) (a := a) (w := wx) (rest := rest) i d h1 h2 h3 hc
  refine hx _ _ _ 21 _ 2 ?z617a ?z617b ?z617 ?z618
  case z617a => kernel_rfl
  case z617b => (rw [hs]; decide)
  case z617 => exact frY rfl (c_valWd rfl (ev_tmp h19) (ev_tmp h20))
  case z618 =>
  rintro _ w2 a ⟨rfl, l2⟩ F0
  rw [hg] at F0
  replace hs := F0.z.trans hs
  replace hd := F0.e.trans hd
  replace h1 := (F0.n 1 (by decide)).trans h1
  replace h6 := (F0.n 6 (by decide)).trans h6
  replace h12 := (F0.n 12 (by decide)).trans h12
  replace h13 := (F0.n 13 (by decide)).trans h13
  replace h14 := (F0.n 14 (by decide)).trans h14
  replace h15 := (F0.n 15 (by decide)).trans h15
  replace h8 := (F0.n 8 (by decide)).trans h8
  clear h19
  clear h20
  have h21 := F0.s
  clear F0
  clear hx hc
  replace hO := hO.below l2
  replace hB := hB.below l2 hB.lt
  replace hb := hb.trans (l2.mono hb.size)
  have z2 : w1.heap.size ≤ w2.heap.size := Nat.le_trans zz.2 l2.size
  refine opL 3 18 (v := .tuple #[.agg #[.int .i64 (Rfc.pwd ((Rfc.spl s 44)[i])).1.1, .int .i64 (Rfc.pwd ((Rfc.spl s 44)[i])).1.2], .bool true]) (w' := w2) (by kernel_rfl) (frZ hs) ?_ ?_
  · exact frY rfl (k_move rfl (ev_tmp h21))
  refine frN7 hs hd h1 h6 h12 h13 h14 h15 h8 ?_; clear hs hd h1 h6 h12 h13 h14 h15 h8 h21; intro a hs hd h1 h6 h12 h13 h14 h15 h8 h18
  refine opL 4 22 (v := .agg #[.int .i64 (Rfc.pwd ((Rfc.spl s 44)[i])).1.1, .int .i64 (Rfc.pwd ((Rfc.spl s 44)[i])).1.2]) (w' := w2) (by kernel_rfl) (frZ hs) ?_ ?_
  · exact frY rfl (k_extract rfl (ev_tmp h18) rfl)
  revert hs hd h1 h6 h12 h13 h14 h15 h8 h18; refine frM8 ?_; intro a hs hd h1 h6 h12 h13 h14 h15 h8 h18 h22
  refine opL 5 23 (v := .bool true) (w' := w2) (by kernel_rfl) (frZ hs) ?_ ?_
  · exact frY rfl (k_extract rfl (ev_tmp h18) rfl)
  clear h18; revert hs hd h1 h6 h12 h13 h14 h15 h8 h22; refine frM8 ?_; intro a hs hd h1 h6 h12 h13 h14 h15 h8 h22 h23
  refine opL 6 9 (v := .pointer (some ⟨w2.heap.size, 0, none⟩)) (w' := (w2.alloc (.cells #[.int .i64 0, .int .i64 0] 55))) (by kernel_rfl) (frZ hs) ?_ ?_
  · exact frY rfl (k_allocN rfl)
  revert hs hd h1 h6 h12 h13 h14 h15 h8 h22 h23; refine frM9 ?_; intro a hs hd h1 h6 h12 h13 h14 h15 h8 h22 h23 h9
  obtain ⟨wa, hwa⟩ : ∃ wn, wn = w2.alloc (.cells #[.int .i64 0, .int .i64 0] 55) := ⟨_, rfl⟩
  rw [← hwa]
  have qa : Blk wa w2.heap.size 55 #[.int .i64 0, .int .i64 0] := by rw [hwa]; exact Blk.alloc _ _ _
  have la : Below w2.heap.size w2 wa := by rw [hwa]; exact (Below.refl _ _).alloc (Nat.le_refl _) _
  clear hwa
  refine opL_store 7 (w' := (wa.setRow w2.heap.size #[.int .i64 (Rfc.pwd ((Rfc.spl s 44)[i])).1.1, .int .i64 (Rfc.pwd ((Rfc.spl s 44)[i])).1.2])) (by kernel_rfl) ?_ ?_
  · exact frY rfl (k_storeS2 rfl (ev_tmp h9) (ev_tmp h22) qa (by kernel_rfl) rfl rfl (by simp [Value.oneCell']))
  clear h22
  obtain ⟨wb, hwb⟩ : ∃ wn, wn = wa.setRow w2.heap.size #[.int .i64 (Rfc.pwd ((Rfc.spl s 44)[i])).1.1, .int .i64 (Rfc.pwd ((Rfc.spl s 44)[i])).1.2] := ⟨_, rfl⟩
  rw [← hwb]
  have qb : Blk wb w2.heap.size 55 #[.int .i64 (Rfc.pwd ((Rfc.spl s 44)[i])).1.1, .int .i64 (Rfc.pwd ((Rfc.spl s 44)[i])).1.2] := by rw [hwb]; exact qa.setRow
  have lb : Below w2.heap.size w2 wb := by rw [hwb]; exact la.trans ((exc_setRow wa w2.heap.size #[.int .i64 (Rfc.pwd ((Rfc.spl s 44)[i])).1.1, .int .i64 (Rfc.pwd ((Rfc.spl s 44)[i])).1.2] w2.heap.size).below (Nat.le_refl _))
  clear hwb qa la
  replace hO := hO.below lb
  replace hB := hB.below lb hB.lt
  replace hb := hb.trans (lb.mono hb.size)
  replace z2 : w1.heap.size ≤ wb.heap.size := Nat.le_trans z2 lb.size
  refine opL 8 10 (v := .bool true) (w' := wb) (by kernel_rfl) (frZ hs) ?_ ?_
  · exact frY rfl (k_assign rfl (ev_tmp h23))
  refine frN8 hs hd h1 h6 h12 h13 h14 h15 h8 h9 ?_; clear hs hd h1 h6 h12 h13 h14 h15 h8 h9 h23; intro a hs hd h1 h6 h12 h13 h14 h15 h8 h9 h10
  refine wp_seq ?_
  refine wp_seq ?_
  refine wp_region (show wpOps _ _ _ [0, 1] _ _ from ?_)
  refine opL 0 24 (v := .bool true) (w' := wb) (by kernel_rfl) (frZ hs) ?_ ?_
  · exact frY rfl (k_move rfl (ev_tmp h10))
  revert hs hd h1 h6 h12 h13 h14 h15 h8 h9 h10; refine frM9 ?_; intro a hs hd h1 h6 h12 h13 h14 h15 h8 h9 h10 h24
  refine opL 1 25 (v := .bool false) (w' := wb) (by kernel_rfl) (frZ hs) ?_ ?_
  · exact frY rfl (o_not rfl (ev_tmp h24) rfl)
  clear h24; revert hs hd h1 h6 h12 h13 h14 h15 h8 h9 h10; refine frM9 ?_; intro a hs hd h1 h6 h12 h13 h14 h15 h8 h9 h10 h25
  refine wp_cond_false (ev_tmp h25) ?_
  refine wp_skip ?_
  refine wp_region (show wpOps _ _ _ [0, 1, 2, 3, 4] _ _ from ?_)
  refine opL 0 26 (v := .slice A L.length cap) (w' := wb) (by kernel_rfl) (frZ hs) ?_ ?_
  · exact frY rfl (k_move rfl (ev_tmp h6))
  revert hs hd h1 h6 h12 h13 h14 h15 h8 h9 h10 h25; refine frM10 ?_; intro a hs hd h1 h6 h12 h13 h14 h15 h8 h9 h10 h25 h26
  refine opL 1 27 (v := .agg #[.int .i64 (Rfc.pwd ((Rfc.spl s 44)[i])).1.1, .int .i64 (Rfc.pwd ((Rfc.spl s 44)[i])).1.2]) (w' := wb) (by kernel_rfl) (frZ hs) ?_ ?_
  · exact frY rfl (k_loadNs rfl (ev_tmp h9) qb)
  revert hs hd h1 h6 h12 h13 h14 h15 h8 h9 h10 h25 h26; refine frM11 ?_; intro a hs hd h1 h6 h12 h13 h14 h15 h8 h9 h10 h25 h26 h27
  refine opL 2 28 (v := .slice (some ⟨wb.heap.size, 0, none⟩) 1 1) (w' := (wb.alloc (.cells #[.int .i64 (Rfc.pwd ((Rfc.spl s 44)[i])).1.1, .int .i64 (Rfc.pwd ((Rfc.spl s 44)[i])).1.2] 55))) (by kernel_rfl) (frZ hs) ?_ ?_
  · exact frY rfl (k_sliceN rfl (ev_tmp h27))
  clear h27; revert hs hd h1 h6 h12 h13 h14 h15 h8 h9 h10 h25 h26; refine frM11 ?_; intro a hs hd h1 h6 h12 h13 h14 h15 h8 h9 h10 h25 h26 h28
  obtain ⟨w3, hw3⟩ : ∃ wn, wn = wb.alloc (.cells #[.int .i64 (Rfc.pwd ((Rfc.spl s 44)[i])).1.1, .int .i64 (Rfc.pwd ((Rfc.spl s 44)[i])).1.2] 55) := ⟨_, rfl⟩
  rw [← hw3]
  have q3 : Blk w3 wb.heap.size 55 #[.int .i64 (Rfc.pwd ((Rfc.spl s 44)[i])).1.1, .int .i64 (Rfc.pwd ((Rfc.spl s 44)[i])).1.2] := by rw [hw3]; exact Blk.alloc _ _ _
  have l3 : Below wb.heap.size wb w3 := by rw [hw3]; exact (Below.refl _ _).alloc (Nat.le_refl _) _
  clear hw3
  replace hO := hO.below l3
  replace hB := hB.below l3 hB.lt
  replace hb := hb.trans (l3.mono hb.size)
  have z3 : w1.heap.size ≤ w3.heap.size := Nat.le_trans z2 l3.size
  obtain ⟨v', w4, hr, hO4, b4, z4⟩ := append_nth_b (c := 1) hO (q3.cell 0) (q3.cell 1) (by omega) z3
  obtain ⟨A', cap', rfl, -, -, -⟩ := hO4.nths
  refine opL 3 29 (v := .slice A' (L ++ [((Rfc.pwd ((Rfc.spl s 44)[i])).1.1, (Rfc.pwd ((Rfc.spl s 44)[i])).1.2)]).length cap') (w' := w4) (by kernel_rfl) (frZ hs) ?_ ?_
  · exact frY rfl (k_append rfl rfl (ev_tmp h26) (ev_tmp h28) hr)
  refine frN10 hs hd h1 h6 h12 h13 h14 h15 h8 h9 h10 h25 ?_; clear hs hd h1 h6 h12 h13 h14 h15 h8 h9 h10 h25 h26 h28; intro a hs hd h1 h6 h12 h13 h14 h15 h8 h9 h10 h25 h29
  have hB4 := hB.below b4 zz.1
  have hb4 := hb.trans (b4.mono (Nat.le_of_lt zz.1))
  refine opL 4 6 (v := .slice A' (L ++ [((Rfc.pwd ((Rfc.spl s 44)[i])).1.1, (Rfc.pwd ((Rfc.spl s 44)[i])).1.2)]).length cap') (w' := w4) (by kernel_rfl) (frZ hs) ?_ ?_
  · exact frY rfl (k_assign rfl (ev_tmp h29))
  refine frN9 hs hd h1 h12 h13 h14 h15 h8 h9 h10 h25 ?_; clear hs hd h1 h12 h13 h14 h15 h8 h9 h10 h25 h6 h29; intro a hs hd h1 h12 h13 h14 h15 h8 h9 h10 h25 h6
  refine wp_region (show wpOps _ _ _ [0, 1] _ _ from ?_)
  refine opL 0 30 (v := .int .i64 (i + 1 : Nat)) (w' := w4) (by kernel_rfl) (frZ hs) ?_ ?_
  · exact frY rfl (o_addI rfl (ev_tmp h14) rfl (wrap_small (n := (i : Int) + 1) (by omega) (by omega)))
  revert hs hd h1 h12 h13 h14 h15 h8 h9 h10 h25 h6; refine frM10 ?_; intro a hs hd h1 h12 h13 h14 h15 h8 h9 h10 h25 h6 h30
  refine opL 1 14 (v := .int .i64 (i + 1 : Nat)) (w' := w4) (by kernel_rfl) (frZ hs) ?_ ?_
  · exact frY rfl (k_move rfl (ev_tmp h30))
  clear h14 h30; revert hs hd h1 h12 h13 h15 h8 h9 h10 h25 h6; refine frM9 ?_; intro a hs hd h1 h12 h13 h15 h8 h9 h10 h25 h6 h14
  refine ⟨⟨i + 1, L ++ [((Rfc.pwd ((Rfc.spl s 44)[i])).1.1, (Rfc.pwd ((Rfc.spl s 44)[i])).1.2)], A', cap', hd, hs, h1, h6, h12, h13, h14, hlt, ?_, by simp; omega, hO4, hB4, ⟨zz.1, by omega⟩, hb4⟩, ?_⟩
  · rw [List.take_succ_eq_append_getElem hlt]
    exact Rfc.mm_snoc Rfc.pw _ _ L ((Rfc.pwd ((Rfc.spl s 44)[i])).1.1, (Rfc.pwd ((Rfc.spl s 44)[i])).1.2) hm (by unfold Rfc.pw; rw [hg]; rfl)
  · rw [h14]
    simp only [intOf]
    omega

set_option maxRecDepth 100000 in
set_option maxHeartbeats 1000000 in
theorem psN_bad (w w1 : World) (s : List UInt8) (hT : Tabs w) (hl : s.length ≤ 100000) (i : Nat) (L : List (Int × Int)) (A : Option Addr) (cap : Nat) (a : Act) (wx : World) (Q : Exit → Act → World → Prop) (J : LsN w w1 s i L A cap a wx) (hlt : i < (Rfc.spl s 44).length) (hg : (Rfc.pwd ((Rfc.spl s 44)[i])).2 = false) (hfin : ∀ (a' : Act) (w' : World), a'.defers = [] → a'.tmps.getD 4 undef = .slice none 0 0 → a'.tmps.getD 5 undef = .bool false → Rfc.plistN s = none → Below w.heap.size w w' → Q .ret a' w') :
    psNRound.wp Tryz.prog (Exit.then (fun a' w' => (∃ i L A cap, LsN w w1 s i L A cap a' w') ∧ ((Rfc.spl s 44).length - intOf (a'.tmps.getD 14 undef)).toNat < ((Rfc.spl s 44).length - intOf (a.tmps.getD 14 undef)).toNat) Q) a wx := by
  obtain ⟨hd, hs, h1, h6, h12, h13, h14, hi, hm, lL, hO, hB, zz, hb⟩ := J
  have hpl : ((Rfc.spl s 44)[i]).length ≤ 100000 := Nat.le_trans (piece_le _ s 44 _ (List.getElem_mem hlt)) hl
  have hcell : wx.cell? ⟨w.heap.size, i, none⟩ = some (.string ⟨(((Rfc.spl s 44)[i])).toArray⟩) := by rw [hB.cell i]; simp [hlt]
  have hspl : (Rfc.spl s 44).length ≤ 100001 := by
    rw [spl_len]
    have := Lib.countB_le ⟨#[44]⟩ (Nat.le_refl 1) _ ⟨s.toArray⟩ (Nat.le_refl _)
    rw [ba_size] at this
    omega
  have e14 := h14
  rw [e14]
  clear e14
  unfold psNRound
  conv => arg 2; whnf
  refine wp_seq ?_
  refine wp_region (show wpOps _ _ _ [0] _ _ from ?_)
  refine opL 0 15 (v := .bool true) (w' := wx) (by kernel_rfl) (frZ hs) ?_ ?_
  · exact frY rfl (o_ltI rfl (ev_tmp h14) (ev_tmp h13) (decide_eq_true (by omega)))
  refine frN5 hs hd h1 h6 h12 h13 h14 ?_; clear hs hd h1 h6 h12 h13 h14; intro a hs hd h1 h6 h12 h13 h14 h15
  refine wp_seq ?_
  refine wp_cond_true (ev_tmp h15) ?_
  refine wp_skip ?_
  refine wp_seq ?_
  refine wp_block ?_
  refine wp_seq ?_
  refine wp_region (show wpOps _ _ _ [0, 1, 2] _ _ from ?_)
  refine opL 0 16 (v := .pointer (some ⟨w.heap.size, i, none⟩)) (w' := wx) (by kernel_rfl) (frZ hs) ?_ ?_
  · exact frY rfl (k_atS' rfl (ev_tmp h12) (ev_tmp h14) hlt)
  revert hs hd h1 h6 h12 h13 h14 h15; refine frM6 ?_; intro a hs hd h1 h6 h12 h13 h14 h15 h16
  refine opL 1 17 (v := .string ⟨(((Rfc.spl s 44)[i])).toArray⟩) (w' := wx) (by kernel_rfl) (frZ hs) ?_ ?_
  · exact frY rfl (k_loadStr rfl (ev_tmp h16) hcell)
  clear h16; revert hs hd h1 h6 h12 h13 h14 h15; refine frM6 ?_; intro a hs hd h1 h6 h12 h13 h14 h15 h17
  refine opL 2 8 (v := .string ⟨(((Rfc.spl s 44)[i])).toArray⟩) (w' := wx) (by kernel_rfl) (frZ hs) ?_ ?_
  · exact frY rfl (k_assign rfl (ev_tmp h17))
  clear h17; revert hs hd h1 h6 h12 h13 h14 h15; refine frM6 ?_; intro a hs hd h1 h6 h12 h13 h14 h15 h8
  refine wp_seq ?_
  refine wp_region (show wpOps _ _ _ [0, 1, 2, 3, 4, 5, 6, 7, 8] _ _ from ?_)
  refine opL 0 19 (v := .func (.func 68) #[] #[]) (w' := wx) (by kernel_rfl) (frZ hs) ?_ ?_
  · exact frY rfl (k_move rfl (ev_tmp h1))
  revert hs hd h1 h6 h12 h13 h14 h15 h8; refine frM7 ?_; intro a hs hd h1 h6 h12 h13 h14 h15 h8 h19
  refine opL 1 20 (v := .string ⟨(((Rfc.spl s 44)[i])).toArray⟩) (w' := wx) (by kernel_rfl) (frZ hs) ?_ ?_
  · exact frY rfl (k_move rfl (ev_tmp h8))
  revert hs hd h1 h6 h12 h13 h14 h15 h8 h19; refine frM8 ?_; intro a hs hd h1 h6 h12 h13 h14 h15 h8 h19 h20
  have hc := pw_any ((Rfc.spl s 44)[i]) wx (hT.below hb) hpl
  have hx := fun ops Q rest d a i h1 h2 h3 => opL_call (P := Tryz.prog) (ops := ops) (Q := Q) (a := a) (w := wx) (rest := rest) i d h1 h2 h3 hc
  refine hx _ _ _ 21 _ 2 ?z661a ?z661b ?z661 ?z662
  case z661a => kernel_rfl
  case z661b => (rw [hs]; decide)
  case z661 => exact frY rfl (c_valWd rfl (ev_tmp h19) (ev_tmp h20))
  case z662 =>
  rintro _ w2 a ⟨rfl, l2⟩ F0
  rw [hg] at F0
  replace hs := F0.z.trans hs
  replace hd := F0.e.trans hd
  replace h1 := (F0.n 1 (by decide)).trans h1
  replace h6 := (F0.n 6 (by decide)).trans h6
  replace h12 := (F0.n 12 (by decide)).trans h12
  replace h13 := (F0.n 13 (by decide)).trans h13
  replace h14 := (F0.n 14 (by decide)).trans h14
  replace h15 := (F0.n 15 (by decide)).trans h15
  replace h8 := (F0.n 8 (by decide)).trans h8
  clear h19
  clear h20
  have h21 := F0.s
  clear F0
  clear hx hc
  replace hO := hO.below l2
  replace hB := hB.below l2 hB.lt
  replace hb := hb.trans (l2.mono hb.size)
  have z2 : w1.heap.size ≤ w2.heap.size := Nat.le_trans zz.2 l2.size
  refine opL 3 18 (v := .tuple #[.agg #[.int .i64 (Rfc.pwd ((Rfc.spl s 44)[i])).1.1, .int .i64 (Rfc.pwd ((Rfc.spl s 44)[i])).1.2], .bool false]) (w' := w2) (by kernel_rfl) (frZ hs) ?_ ?_
  · exact frY rfl (k_move rfl (ev_tmp h21))
  refine frN7 hs hd h1 h6 h12 h13 h14 h15 h8 ?_; clear hs hd h1 h6 h12 h13 h14 h15 h8 h21; intro a hs hd h1 h6 h12 h13 h14 h15 h8 h18
  refine opL 4 22 (v := .agg #[.int .i64 (Rfc.pwd ((Rfc.spl s 44)[i])).1.1, .int .i64 (Rfc.pwd ((Rfc.spl s 44)[i])).1.2]) (w' := w2) (by kernel_rfl) (frZ hs) ?_ ?_
  · exact frY rfl (k_extract rfl (ev_tmp h18) rfl)
  revert hs hd h1 h6 h12 h13 h14 h15 h8 h18; refine frM8 ?_; intro a hs hd h1 h6 h12 h13 h14 h15 h8 h18 h22
  refine opL 5 23 (v := .bool false) (w' := w2) (by kernel_rfl) (frZ hs) ?_ ?_
  · exact frY rfl (k_extract rfl (ev_tmp h18) rfl)
  clear h18; revert hs hd h1 h6 h12 h13 h14 h15 h8 h22; refine frM8 ?_; intro a hs hd h1 h6 h12 h13 h14 h15 h8 h22 h23
  refine opL 6 9 (v := .pointer (some ⟨w2.heap.size, 0, none⟩)) (w' := (w2.alloc (.cells #[.int .i64 0, .int .i64 0] 55))) (by kernel_rfl) (frZ hs) ?_ ?_
  · exact frY rfl (k_allocN rfl)
  revert hs hd h1 h6 h12 h13 h14 h15 h8 h22 h23; refine frM9 ?_; intro a hs hd h1 h6 h12 h13 h14 h15 h8 h22 h23 h9
  obtain ⟨wa, hwa⟩ : ∃ wn, wn = w2.alloc (.cells #[.int .i64 0, .int .i64 0] 55) := ⟨_, rfl⟩
  rw [← hwa]
  have qa : Blk wa w2.heap.size 55 #[.int .i64 0, .int .i64 0] := by rw [hwa]; exact Blk.alloc _ _ _
  have la : Below w2.heap.size w2 wa := by rw [hwa]; exact (Below.refl _ _).alloc (Nat.le_refl _) _
  clear hwa
  refine opL_store 7 (w' := (wa.setRow w2.heap.size #[.int .i64 (Rfc.pwd ((Rfc.spl s 44)[i])).1.1, .int .i64 (Rfc.pwd ((Rfc.spl s 44)[i])).1.2])) (by kernel_rfl) ?_ ?_
  · exact frY rfl (k_storeS2 rfl (ev_tmp h9) (ev_tmp h22) qa (by kernel_rfl) rfl rfl (by simp [Value.oneCell']))
  clear h22
  obtain ⟨wb, hwb⟩ : ∃ wn, wn = wa.setRow w2.heap.size #[.int .i64 (Rfc.pwd ((Rfc.spl s 44)[i])).1.1, .int .i64 (Rfc.pwd ((Rfc.spl s 44)[i])).1.2] := ⟨_, rfl⟩
  rw [← hwb]
  have qb : Blk wb w2.heap.size 55 #[.int .i64 (Rfc.pwd ((Rfc.spl s 44)[i])).1.1, .int .i64 (Rfc.pwd ((Rfc.spl s 44)[i])).1.2] := by rw [hwb]; exact qa.setRow
  have lb : Below w2.heap.size w2 wb := by rw [hwb]; exact la.trans ((exc_setRow wa w2.heap.size #[.int .i64 (Rfc.pwd ((Rfc.spl s 44)[i])).1.1, .int .i64 (Rfc.pwd ((Rfc.spl s 44)[i])).1.2] w2.heap.size).below (Nat.le_refl _))
  clear hwb qa la
  replace hO := hO.below lb
  replace hB := hB.below lb hB.lt
  replace hb := hb.trans (lb.mono hb.size)
  replace z2 : w1.heap.size ≤ wb.heap.size := Nat.le_trans z2 lb.size
  refine opL 8 10 (v := .bool false) (w' := wb) (by kernel_rfl) (frZ hs) ?_ ?_
  · exact frY rfl (k_assign rfl (ev_tmp h23))
  refine frN8 hs hd h1 h6 h12 h13 h14 h15 h8 h9 ?_; clear hs hd h1 h6 h12 h13 h14 h15 h8 h9 h23; intro a hs hd h1 h6 h12 h13 h14 h15 h8 h9 h10
  refine wp_seq ?_
  refine wp_seq ?_
  refine wp_region (show wpOps _ _ _ [0, 1] _ _ from ?_)
  refine opL 0 24 (v := .bool false) (w' := wb) (by kernel_rfl) (frZ hs) ?_ ?_
  · exact frY rfl (k_move rfl (ev_tmp h10))
  revert hs hd h1 h6 h12 h13 h14 h15 h8 h9 h10; refine frM9 ?_; intro a hs hd h1 h6 h12 h13 h14 h15 h8 h9 h10 h24
  refine opL 1 25 (v := .bool true) (w' := wb) (by kernel_rfl) (frZ hs) ?_ ?_
  · exact frY rfl (o_not rfl (ev_tmp h24) rfl)
  clear h24; revert hs hd h1 h6 h12 h13 h14 h15 h8 h9 h10; refine frM9 ?_; intro a hs hd h1 h6 h12 h13 h14 h15 h8 h9 h10 h25
  refine wp_cond_true (ev_tmp h25) ?_
  refine wp_seq ?_
  refine wp_region (show wpOps _ _ _ [0, 1] _ _ from ?_)
  refine opL 0 4 (v := .slice none 0 0) (w' := wb) (by kernel_rfl) (frZ hs) ?_ ?_
  · exact frY rfl (k_assign rfl rfl)
  revert hs hd h1 h6 h12 h13 h14 h15 h8 h9 h10 h25; refine frM10 ?_; intro a hs hd h1 h6 h12 h13 h14 h15 h8 h9 h10 h25 h4
  refine opL 1 5 (v := .bool false) (w' := wb) (by kernel_rfl) (frZ hs) ?_ ?_
  · exact frY rfl (k_assign rfl rfl)
  revert hs hd h1 h6 h12 h13 h14 h15 h8 h9 h10 h25 h4; refine frM11 ?_; intro a hs hd h1 h6 h12 h13 h14 h15 h8 h9 h10 h25 h4 h5
  refine wp_ret ?_
  exact hfin a _ hd h4 h5 (Rfc.mm_fail Rfc.pw _ i hlt (by unfold Rfc.pw; rw [hg]; rfl)) hb

set_option maxRecDepth 100000 in
set_option maxHeartbeats 1000000 in
theorem psN_any (s : List UInt8) (w : World) (hT : Tabs w) (hl : s.length ≤ 100000) :
    Calls Tryz.prog 67 #[.string ⟨s.toArray⟩, .func (.func 68) #[] #[]] w fun e w' => ∃ v, e = .returned v ∧ LN w' w.heap.size (Rfc.plistN s) v ∧ Below w.heap.size w w' := by
  refine calls_of_wp Tryz.func67 (show Tryz.f67.body = some psNBody from rfl) ?_
  generalize hAA : (Act.mk (#[.string ⟨s.toArray⟩, .func (.func 68) #[] #[]] ++ Array.replicate (Tryz.f67.ntmps - (#[.string ⟨s.toArray⟩, .func (.func 68) #[] #[]] : Array Value).size) undef) []) = a
  have hs : a.tmps.size = 32 := by rw [← hAA]; simp [Tryz.ntmps67]
  have hd : a.defers = [] := by rw [← hAA]
  have h0 : a.tmps.getD 0 undef = .string ⟨s.toArray⟩ := by rw [← hAA]; simp
  have h1 : a.tmps.getD 1 undef = .func (.func 68) #[] #[] := by rw [← hAA]; simp
  clear hAA
  have hfin : ∀ (a' : Act) (w' : World) (x y : Value), a'.defers = [] → a'.tmps.getD 4 undef = x → a'.tmps.getD 5 undef = y → LN w' w.heap.size (Rfc.plistN s) (.tuple #[x, y]) → Below w.heap.size w w' → (bodyPost Tryz.prog Tryz.f67 fun e w' => ∃ v, e = .returned v ∧ LN w' w.heap.size (Rfc.plistN s) v ∧ Below w.heap.size w w') .ret a' w' := by
    intro a' w' x y k1 k2 k3 k4 k5
    exact ⟨k1, _, results2 rfl _ _ _, _, rfl, by rw [k2, k3]; exact k4, k5⟩
  generalize (bodyPost Tryz.prog Tryz.f67 fun e w' => ∃ v, e = .returned v ∧ LN w' w.heap.size (Rfc.plistN s) v ∧ Below w.heap.size w w') = Q at hfin
  unfold psNBody
  conv => arg 2; whnf
  refine wp_seq ?_
  refine wp_region (show wpOps _ _ _ [0, 1] _ _ from ?_)
  refine opL 0 4 (v := .slice none 0 0) (w' := w) (by kernel_rfl) (frZ hs) ?_ ?_
  · exact frY rfl (k_assign rfl rfl)
  refine frN2 hs hd h0 h1 ?_; clear hs hd h0 h1; intro a hs hd h0 h1 h4
  refine opL 1 5 (v := .bool false) (w' := w) (by kernel_rfl) (frZ hs) ?_ ?_
  · exact frY rfl (k_assign rfl rfl)
  revert hs hd h0 h1 h4; refine frM3 ?_; intro a hs hd h0 h1 h4 h5
  refine wp_seq ?_
  refine wp_region (show wpOps _ _ _ [0] _ _ from ?_)
  refine opL 0 6 (v := .slice none 0 0) (w' := w) (by kernel_rfl) (frZ hs) ?_ ?_
  · exact frY rfl (k_assign rfl rfl)
  revert hs hd h0 h1 h4 h5; refine frM4 ?_; intro a hs hd h0 h1 h4 h5 h6
  refine wp_seq ?_
  refine wp_seq ?_
  refine wp_region (show wpOps _ _ _ [0, 1, 2, 3] _ _ from ?_)
  refine opL 0 11 (v := .string ⟨s.toArray⟩) (w' := w) (by kernel_rfl) (frZ hs) ?_ ?_
  · exact frY rfl (k_move rfl (ev_tmp h0))
  revert hs hd h0 h1 h4 h5 h6; refine frM5 ?_; intro a hs hd h0 h1 h4 h5 h6 h11
  have hc := split_any s 44 w hT hl
  have hx := fun ops Q rest d a i h1 h2 h3 => opL_call (P := Tryz.prog) (ops := ops) (Q := Q) (a := a) (w := w) (rest := rest) i d h1 h2 h3 hc
  refine hx _ _ _ 12 _ 1 ?z691a ?z691b ?z691 ?z692
  case z691a => kernel_rfl
  case z691b => (rw [hs]; decide)
  case z691 => exact frY rfl (c_Split rfl rfl (ev_tmp h11) rfl)
  case z692 =>
  rintro _ w1 a ⟨⟨rfl, q1⟩, l1⟩ F0
  replace hs := F0.z.trans hs
  replace hd := F0.e.trans hd
  replace h0 := (F0.n 0 (by decide)).trans h0
  replace h1 := (F0.n 1 (by decide)).trans h1
  replace h4 := (F0.n 4 (by decide)).trans h4
  replace h5 := (F0.n 5 (by decide)).trans h5
  replace h6 := (F0.n 6 (by decide)).trans h6
  clear h11
  have h12 := F0.s
  clear F0
  clear hx hc
  refine opL 2 13 (v := .int .i64 (Rfc.spl s 44).length) (w' := w1) (by kernel_rfl) (frZ hs) ?_ ?_
  · exact frY rfl (k_lenStr rfl (ev_tmp h12))
  refine frN6 hs hd h0 h1 h4 h5 h6 h12 ?_; clear hs hd h0 h1 h4 h5 h6 h12; intro a hs hd h0 h1 h4 h5 h6 h12 h13
  refine opL 3 14 (v := .int .i64 0) (w' := w1) (by kernel_rfl) (frZ hs) ?_ ?_
  · exact frY rfl (k_move rfl rfl)
  revert hs hd h0 h1 h4 h5 h6 h12 h13; refine frM7 ?_; intro a hs hd h0 h1 h4 h5 h6 h12 h13 h14
  refine wp_block ?_
  refine wp_loop (fun a wx => ∃ i L A cap, LsN w w1 s i L A cap a wx) (fun a _ => ((Rfc.spl s 44).length - intOf (a.tmps.getD 14 undef)).toNat) ⟨0, [], none, 0, ⟨hd, hs, h1, h6, h12, h13, h14, Nat.zero_le _, rfl, Nat.le_refl _, OwnN.nil _ _, q1, ⟨q1.lt, Nat.le_refl _⟩, l1⟩⟩ ?_
  clear hs hd q1 l1 h0 h1 h4 h5 h6 h12 h13 h14 a
  rintro a wx ⟨i, L, A, cap, J⟩
  by_cases hlt : i < (Rfc.spl s 44).length
  · cases hg : (Rfc.pwd ((Rfc.spl s 44)[i])).2
    · exact psN_bad w w1 s hT hl i L A cap a wx _ J hlt hg (fun a' w' k1 k2 k3 k4 k5 => hfin a' w' _ _ k1 k2 k3 (by show LN _ _ _ _; rw [k4]; rfl) k5)
    · exact psN_ok w w1 s hT hl i L A cap a wx _ J hlt hg
  obtain ⟨hd, hs, h1, h6, h12, h13, h14, hi, hm, lL, hO, hB, zz, hb⟩ := J
  obtain rfl : i = (Rfc.spl s 44).length := by omega
  rw [List.take_length] at hm
  clear h1 h12 hB
  refine wp_seq ?_
  refine wp_region (show wpOps _ _ _ [0] _ _ from ?_)
  refine opL 0 15 (v := .bool false) (w' := wx) (by kernel_rfl) (frZ hs) ?_ ?_
  · exact frY rfl (o_ltI rfl (ev_tmp h14) (ev_tmp h13) (decide_eq_false (by omega)))
  refine frN3 hs hd h6 h13 h14 ?_; clear hs hd h6 h13 h14; intro a hs hd h6 h13 h14 h15
  refine wp_seq ?_
  refine wp_cond_false (ev_tmp h15) ?_
  refine wp_exit ?_
  change Code.wp _ _ _ _ _
  refine wp_seq ?_
  refine wp_region (show wpOps _ _ _ [0, 1, 2] _ _ from ?_)
  refine opL 0 31 (v := .slice A L.length cap) (w' := wx) (by kernel_rfl) (frZ hs) ?_ ?_
  · exact frY rfl (k_move rfl (ev_tmp h6))
  refine frN4 hs hd h6 h13 h14 h15 ?_; clear hs hd h6 h13 h14 h15; intro a hs hd h6 h13 h14 h15 h31
  refine opL 1 4 (v := .slice A L.length cap) (w' := wx) (by kernel_rfl) (frZ hs) ?_ ?_
  · exact frY rfl (k_assign rfl (ev_tmp h31))
  clear h31; revert hs hd h6 h13 h14 h15; refine frM4 ?_; intro a hs hd h6 h13 h14 h15 h4
  refine opL 2 5 (v := .bool true) (w' := wx) (by kernel_rfl) (frZ hs) ?_ ?_
  · exact frY rfl (k_assign rfl rfl)
  revert hs hd h6 h13 h14 h15 h4; refine frM5 ?_; intro a hs hd h6 h13 h14 h15 h4 h5
  refine wp_ret ?_
  exact hfin a wx _ _ hd h4 h5 (by show LN _ _ _ _; rw [show Rfc.plistN s = some L from hm]; exact ⟨A, cap, rfl, hO.base (Nat.le_of_lt zz.1)⟩) hb
end Go.Proofs.YtocpmljkmdpfkaaGreatDoor
