/-
  Lists read: rfc.parseList.
-/
import Derived.Test.YtjdjekpbjnkliaaGreatDoorRf2
import Derived.Test.YtjdjekpbjnkliaaGreatDoorMk
import Derived.Test.YtjdjekpbjnkliaaGreatDoorRf0
import Derived.Lib.Strings
namespace Go.Proofs.YtjdjekpbjnkliaaGreatDoor
open Go.RowKit

def LI (w : World) (base : Nat) (o : Option (List (Int))) (v : Value) : Prop := match o with
  | some L => ∃ A cap, v = .tuple #[.slice A L.length cap, .bool true] ∧ OwnI w base (.slice A L.length cap) L
  | none => v = .tuple #[.slice none 0 0, .bool false]
noncomputable def psIBody : Code := Tryz.f48.body.getD .skip
noncomputable def psIRound : Code := (Tryz.f48.body.bind loopC).getD .skip
structure LsI (w w1 : World) (s : List UInt8) (i : Nat) (L : List (Int)) (A : Option Addr) (cap : Nat) (a : Act) (wx : World) : Prop where
  d : a.defers = []
  z : a.tmps.size = 32
  s1 : a.tmps.getD 1 undef = .func (.func 45) #[] #[]
  s6 : a.tmps.getD 6 undef = .slice A L.length cap
  s12 : a.tmps.getD 12 undef = .slice (some ⟨w.heap.size, 0, none⟩) (Rfc.spl s 44).length (Rfc.spl s 44).length
  s13 : a.tmps.getD 13 undef = .int .i64 (Rfc.spl s 44).length
  s14 : a.tmps.getD 14 undef = .int .i64 i
  iN : i ≤ (Rfc.spl s 44).length
  m : Rfc.mm Rfc.pnum ((Rfc.spl s 44).take i) = some L
  lL : L.length ≤ i
  o : OwnI wx w1.heap.size (.slice A L.length cap) L
  B : Blk wx w.heap.size 9 ((Rfc.spl s 44).map fun x => Value.string ⟨x.toArray⟩).toArray
  zz : w.heap.size < w1.heap.size ∧ w1.heap.size ≤ wx.heap.size
  b : Below w.heap.size w wx

set_option maxRecDepth 100000 in
set_option maxHeartbeats 1000000 in
theorem psI_ok (w w1 : World) (s : List UInt8) (hT : Tabs w) (hl : s.length ≤ 100000) (i : Nat) (L : List (Int)) (A : Option Addr) (cap : Nat) (a : Act) (wx : World) (Q : Exit → Act → World → Prop) (J : LsI w w1 s i L A cap a wx) (hlt : i < (Rfc.spl s 44).length) (y : Int) (hg : Rfc.pnum ((Rfc.spl s 44)[i]) = some y) :
    psIRound.wp Tryz.prog (Exit.then (fun a' w' => (∃ i L A cap, LsI w w1 s i L A cap a' w') ∧ ((Rfc.spl s 44).length - intOf (a'.tmps.getD 14 undef)).toNat < ((Rfc.spl s 44).length - intOf (a.tmps.getD 14 undef)).toNat) Q) a wx := by
  obtain ⟨hd, hs, h1, h6, h12, h13, h14, hi, hm, lL, hO, hB, zz, hb⟩ := J
  have kk := (((((kn hs hd).p h1).p h6).p h12).p h13).p h14; clear hs hd h1 h6 h12 h13 h14
  have hpl : ((Rfc.spl s 44)[i]).length ≤ 100000 := Nat.le_trans (piece_le _ s 44 _ (List.getElem_mem hlt)) hl
  have hcell : wx.cell? ⟨w.heap.size, i, none⟩ = some (.string ⟨(((Rfc.spl s 44)[i])).toArray⟩) := by rw [hB.cell i]; simp [hlt]
  have hspl : (Rfc.spl s 44).length ≤ 100001 := by
    rw [spl_len]
    have := Lib.countB_le ⟨#[44]⟩ (Nat.le_refl 1) _ ⟨s.toArray⟩ (Nat.le_refl _)
    rw [ba_size] at this
    omega
  have e14 := (kk.g 14 rfl)
  rw [e14]
  clear e14
  unfold psIRound
  conv => arg 2; whnf
  refine wp_seq ?_
  refine wpr 1 ?_
  refine opk 0 15 (v := .bool true) kk (frY rfl (o_ltI rfl (kk.e 14 rfl) (kk.e 13 rfl) (decide_eq_true (by omega)))) ?_; clear kk; intro a kk
  refine wp_seq ?_
  refine wp_cond_true (kk.e 15 rfl) ?_
  refine wp_skip ?_
  refine wp_seq ?_
  refine wp_block ?_
  refine wp_seq ?_
  refine wpr 3 ?_
  refine opk 0 16 (v := .pointer (some ⟨w.heap.size, i, none⟩)) kk (frY rfl (k_atS' rfl (kk.e 12 rfl) (kk.e 14 rfl) hlt)) ?_; clear kk; intro a kk
  refine opk 1 17 (v := .string ⟨(((Rfc.spl s 44)[i])).toArray⟩) kk (frY rfl (k_loadStr rfl (kk.e 16 rfl) hcell)) ?_; clear kk; intro a kk
  refine opk 2 8 kk (frY rfl (k_assign rfl (kk.e 17 rfl))) ?_; clear kk; intro a kk
  refine wp_seq ?_
  refine wpr 8 ?_
  refine opk 0 19 kk (frY rfl (k_move rfl (kk.e 1 rfl))) ?_; clear kk; intro a kk
  refine opk 1 20 kk (frY rfl (k_move rfl (kk.e 8 rfl))) ?_; clear kk; intro a kk
  have hc := pn_any ((Rfc.spl s 44)[i]) wx (hT.below hb) hpl
  refine opkc 2 21 kk hc (frY rfl (c_valNum rfl (kk.e 19 rfl) (kk.e 20 rfl))) ?_; clear kk hc
  rintro _ w2 a ⟨rfl, l2⟩ F0
  rw [hg] at F0
  have kk := F0; clear F0
  replace hO := hO.below l2
  replace hB := hB.below l2 hB.lt
  replace hb := hb.trans (l2.mono hb.size)
  have z2 : w1.heap.size ≤ w2.heap.size := Nat.le_trans zz.2 l2.size
  refine opk 3 18 kk (frY rfl (k_move rfl (kk.e 21 rfl))) ?_; clear kk; intro a kk
  refine opk 4 22 (v := .int .i64 y) kk (frY rfl (k_extract rfl (kk.e 18 rfl) rfl)) ?_; clear kk; intro a kk
  refine opk 5 23 (v := .bool true) kk (frY rfl (k_extract rfl (kk.e 18 rfl) rfl)) ?_; clear kk; intro a kk
  refine opk 6 9 kk (frY rfl (k_assign rfl (kk.e 22 rfl))) ?_; clear kk; intro a kk
  refine opk 7 10 kk (frY rfl (k_assign rfl (kk.e 23 rfl))) ?_; clear kk; intro a kk
  refine wp_seq ?_
  refine wp_seq ?_
  refine wpr 2 ?_
  refine opk 0 24 kk (frY rfl (k_move rfl (kk.e 10 rfl))) ?_; clear kk; intro a kk
  refine opk 1 25 (v := .bool false) kk (frY rfl (o_not rfl (kk.e 24 rfl) rfl)) ?_; clear kk; intro a kk
  refine wp_cond_false (kk.e 25 rfl) ?_
  refine wp_skip ?_
  refine wpr 5 ?_
  refine opk 0 26 kk (frY rfl (k_move rfl (kk.e 6 rfl))) ?_; clear kk; intro a kk
  refine opk 1 27 kk (frY rfl (k_move rfl (kk.e 9 rfl))) ?_; clear kk; intro a kk
  refine opk 2 28 (v := .slice (some ⟨w2.heap.size, 0, none⟩) 1 1) (w' := (w2.alloc (.cells #[.int .i64 y] 3))) kk (frY rfl (k_slice1 rfl (kk.e 27 rfl))) ?_; clear kk; intro a kk
  obtain ⟨w3, hw3⟩ : ∃ wn, wn = w2.alloc (.cells #[.int .i64 y] 3) := ⟨_, rfl⟩
  rw [← hw3]
  have q3 : Blk w3 w2.heap.size 3 #[.int .i64 y] := by rw [hw3]; exact Blk.alloc _ _ _
  have l3 : Below w2.heap.size w2 w3 := by rw [hw3]; exact (Below.refl _ _).alloc (Nat.le_refl _) _
  clear hw3
  replace hO := hO.below l3
  replace hB := hB.below l3 hB.lt
  replace hb := hb.trans (l3.mono hb.size)
  have z3 : w1.heap.size ≤ w3.heap.size := Nat.le_trans z2 l3.size
  obtain ⟨v', w4, hr, hO4, b4, z4⟩ := append_int_b (c := 1) hO (q3.cell 0) (by omega) z3
  obtain ⟨A', cap', rfl, -, -, -⟩ := hO4.ints
  refine opk 3 29 (v := .slice A' (L ++ [y]).length cap') kk (frY rfl (k_append rfl rfl (kk.e 26 rfl) (kk.e 28 rfl) hr)) ?_; clear kk; intro a kk
  have hB4 := hB.below b4 zz.1
  have hb4 := hb.trans (b4.mono (Nat.le_of_lt zz.1))
  replace kk := kk.keep [29, 25, 10, 9, 8, 15, 14, 13, 12, 1] rfl
  refine opk 4 6 kk (frY rfl (k_assign rfl (kk.e 29 rfl))) ?_; clear kk; intro a kk
  refine wpr 2 ?_
  refine opk 0 30 (v := .int .i64 (i + 1 : Nat)) kk (frY rfl (o_addI rfl (kk.e 14 rfl) rfl (wrap_small (n := (i : Int) + 1) (by omega) (by omega)))) ?_; clear kk; intro a kk
  replace kk := kk.keep [30, 6, 25, 10, 9, 8, 15, 13, 12, 1] rfl
  refine opk 1 14 kk (frY rfl (k_move rfl (kk.e 30 rfl))) ?_; clear kk; intro a kk
  refine ⟨⟨i + 1, L ++ [y], A', cap', kk.d, kk.z, (kk.g 1 rfl), (kk.g 6 rfl), (kk.g 12 rfl), (kk.g 13 rfl), (kk.g 14 rfl), hlt, ?_, by simp; omega, hO4, hB4, ⟨zz.1, by omega⟩, hb4⟩, ?_⟩
  ·
    rw [List.take_succ_eq_append_getElem hlt]
    exact Rfc.mm_snoc Rfc.pnum _ _ L y hm hg
  ·
    rw [(kk.g 14 rfl)]
    simp only [intOf]
    omega

set_option maxRecDepth 100000 in
set_option maxHeartbeats 1000000 in
theorem psI_bad (w w1 : World) (s : List UInt8) (hT : Tabs w) (hl : s.length ≤ 100000) (i : Nat) (L : List (Int)) (A : Option Addr) (cap : Nat) (a : Act) (wx : World) (Q : Exit → Act → World → Prop) (J : LsI w w1 s i L A cap a wx) (hlt : i < (Rfc.spl s 44).length) (hg : Rfc.pnum ((Rfc.spl s 44)[i]) = none) (hfin : ∀ (a' : Act) (w' : World), a'.defers = [] → a'.tmps.getD 4 undef = .slice none 0 0 → a'.tmps.getD 5 undef = .bool false → Rfc.plistI s = none → Below w.heap.size w w' → Q .ret a' w') :
    psIRound.wp Tryz.prog (Exit.then (fun a' w' => (∃ i L A cap, LsI w w1 s i L A cap a' w') ∧ ((Rfc.spl s 44).length - intOf (a'.tmps.getD 14 undef)).toNat < ((Rfc.spl s 44).length - intOf (a.tmps.getD 14 undef)).toNat) Q) a wx := by
  obtain ⟨hd, hs, h1, h6, h12, h13, h14, hi, hm, lL, hO, hB, zz, hb⟩ := J
  have kk := (((((kn hs hd).p h1).p h6).p h12).p h13).p h14; clear hs hd h1 h6 h12 h13 h14
  have hpl : ((Rfc.spl s 44)[i]).length ≤ 100000 := Nat.le_trans (piece_le _ s 44 _ (List.getElem_mem hlt)) hl
  have hcell : wx.cell? ⟨w.heap.size, i, none⟩ = some (.string ⟨(((Rfc.spl s 44)[i])).toArray⟩) := by rw [hB.cell i]; simp [hlt]
  have hspl : (Rfc.spl s 44).length ≤ 100001 := by
    rw [spl_len]
    have := Lib.countB_le ⟨#[44]⟩ (Nat.le_refl 1) _ ⟨s.toArray⟩ (Nat.le_refl _)
    rw [ba_size] at this
    omega
  have e14 := (kk.g 14 rfl)
  rw [e14]
  clear e14
  unfold psIRound
  conv => arg 2; whnf
  refine wp_seq ?_
  refine wpr 1 ?_
  refine opk 0 15 (v := .bool true) kk (frY rfl (o_ltI rfl (kk.e 14 rfl) (kk.e 13 rfl) (decide_eq_true (by omega)))) ?_; clear kk; intro a kk
  refine wp_seq ?_
  refine wp_cond_true (kk.e 15 rfl) ?_
  refine wp_skip ?_
  refine wp_seq ?_
  refine wp_block ?_
  refine wp_seq ?_
  refine wpr 3 ?_
  refine opk 0 16 (v := .pointer (some ⟨w.heap.size, i, none⟩)) kk (frY rfl (k_atS' rfl (kk.e 12 rfl) (kk.e 14 rfl) hlt)) ?_; clear kk; intro a kk
  refine opk 1 17 (v := .string ⟨(((Rfc.spl s 44)[i])).toArray⟩) kk (frY rfl (k_loadStr rfl (kk.e 16 rfl) hcell)) ?_; clear kk; intro a kk
  refine opk 2 8 kk (frY rfl (k_assign rfl (kk.e 17 rfl))) ?_; clear kk; intro a kk
  refine wp_seq ?_
  refine wpr 8 ?_
  refine opk 0 19 kk (frY rfl (k_move rfl (kk.e 1 rfl))) ?_; clear kk; intro a kk
  refine opk 1 20 kk (frY rfl (k_move rfl (kk.e 8 rfl))) ?_; clear kk; intro a kk
  have hc := pn_any ((Rfc.spl s 44)[i]) wx (hT.below hb) hpl
  refine opkc 2 21 kk hc (frY rfl (c_valNum rfl (kk.e 19 rfl) (kk.e 20 rfl))) ?_; clear kk hc
  rintro _ w2 a ⟨rfl, l2⟩ F0
  rw [hg] at F0
  have kk := F0; clear F0
  replace hO := hO.below l2
  replace hB := hB.below l2 hB.lt
  replace hb := hb.trans (l2.mono hb.size)
  have z2 : w1.heap.size ≤ w2.heap.size := Nat.le_trans zz.2 l2.size
  refine opk 3 18 kk (frY rfl (k_move rfl (kk.e 21 rfl))) ?_; clear kk; intro a kk
  refine opk 4 22 (v := .int .i64 0) kk (frY rfl (k_extract rfl (kk.e 18 rfl) rfl)) ?_; clear kk; intro a kk
  refine opk 5 23 (v := .bool false) kk (frY rfl (k_extract rfl (kk.e 18 rfl) rfl)) ?_; clear kk; intro a kk
  refine opk 6 9 kk (frY rfl (k_assign rfl (kk.e 22 rfl))) ?_; clear kk; intro a kk
  refine opk 7 10 kk (frY rfl (k_assign rfl (kk.e 23 rfl))) ?_; clear kk; intro a kk
  refine wp_seq ?_
  refine wp_seq ?_
  refine wpr 2 ?_
  refine opk 0 24 kk (frY rfl (k_move rfl (kk.e 10 rfl))) ?_; clear kk; intro a kk
  refine opk 1 25 (v := .bool true) kk (frY rfl (o_not rfl (kk.e 24 rfl) rfl)) ?_; clear kk; intro a kk
  refine wp_cond_true (kk.e 25 rfl) ?_
  refine wp_seq ?_
  refine wpr 2 ?_
  refine opk 0 4 (v := .slice none 0 0) kk (frY rfl (k_assign rfl rfl)) ?_; clear kk; intro a kk
  refine opk 1 5 (v := .bool false) kk (frY rfl (k_assign rfl rfl)) ?_; clear kk; intro a kk
  refine wp_ret ?_
  exact hfin a _ kk.d (kk.g 4 rfl) (kk.g 5 rfl) (Rfc.mm_fail Rfc.pnum _ i hlt hg) hb

set_option maxRecDepth 100000 in
set_option maxHeartbeats 1000000 in
theorem psI_any (s : List UInt8) (w : World) (hT : Tabs w) (hl : s.length ≤ 100000) :
    Calls Tryz.prog 48 #[.string ⟨s.toArray⟩, .func (.func 45) #[] #[]] w fun e w' => ∃ v, e = .returned v ∧ LI w' w.heap.size (Rfc.plistI s) v ∧ Below w.heap.size w w' := by
  refine calls_of_wp Tryz.func48 (show Tryz.f48.body = some psIBody from rfl) ?_
  generalize hAA : (Act.mk (#[.string ⟨s.toArray⟩, .func (.func 45) #[] #[]] ++ Array.replicate (Tryz.f48.ntmps - (#[.string ⟨s.toArray⟩, .func (.func 45) #[] #[]] : Array Value).size) undef) []) = a
  have hs : a.tmps.size = 32 := by rw [← hAA]; simp [Tryz.ntmps48]
  have hd : a.defers = [] := by rw [← hAA]
  have h0 : a.tmps.getD 0 undef = .string ⟨s.toArray⟩ := by rw [← hAA]; simp
  have h1 : a.tmps.getD 1 undef = .func (.func 45) #[] #[] := by rw [← hAA]; simp
  clear hAA
  have kk := ((kn hs hd).p h0).p h1; clear hs hd h0 h1
  have hfin : ∀ (a' : Act) (w' : World) (x y : Value), a'.defers = [] → a'.tmps.getD 4 undef = x → a'.tmps.getD 5 undef = y → LI w' w.heap.size (Rfc.plistI s) (.tuple #[x, y]) → Below w.heap.size w w' → (bodyPost Tryz.prog Tryz.f48 fun e w' => ∃ v, e = .returned v ∧ LI w' w.heap.size (Rfc.plistI s) v ∧ Below w.heap.size w w') .ret a' w' := by
    intro a' w' x y k1 k2 k3 k4 k5
    exact ⟨k1, _, results2 rfl _ _ _, _, rfl, by rw [k2, k3]; exact k4, k5⟩
  generalize (bodyPost Tryz.prog Tryz.f48 fun e w' => ∃ v, e = .returned v ∧ LI w' w.heap.size (Rfc.plistI s) v ∧ Below w.heap.size w w') = Q at hfin
  unfold psIBody
  conv => arg 2; whnf
  refine wp_seq ?_
  refine wpr 2 ?_
  refine opk 0 4 (v := .slice none 0 0) kk (frY rfl (k_assign rfl rfl)) ?_; clear kk; intro a kk
  refine opk 1 5 (v := .bool false) kk (frY rfl (k_assign rfl rfl)) ?_; clear kk; intro a kk
  refine wp_seq ?_
  refine wpr 1 ?_
  refine opk 0 6 (v := .slice none 0 0) kk (frY rfl (k_assign rfl rfl)) ?_; clear kk; intro a kk
  refine wp_seq ?_
  refine wp_seq ?_
  refine wpr 4 ?_
  refine opk 0 11 kk (frY rfl (k_move rfl (kk.e 0 rfl))) ?_; clear kk; intro a kk
  have hc := split_any s 44 w hT hl
  refine opkc 1 12 kk hc (frY rfl (c_Split rfl rfl (kk.e 11 rfl) rfl)) ?_; clear kk hc
  rintro _ w1 a ⟨⟨rfl, q1⟩, l1⟩ F0
  have kk := F0; clear F0
  refine opk 2 13 (v := .int .i64 (Rfc.spl s 44).length) kk (frY rfl (k_lenStr rfl (kk.e 12 rfl))) ?_; clear kk; intro a kk
  refine opk 3 14 (v := .int .i64 0) kk (frY rfl (k_move rfl rfl)) ?_; clear kk; intro a kk
  refine wp_block ?_
  refine wp_loop (fun a wx => ∃ i L A cap, LsI w w1 s i L A cap a wx) (fun a _ => ((Rfc.spl s 44).length - intOf (a.tmps.getD 14 undef)).toNat) ⟨0, [], none, 0, ⟨kk.d, kk.z, (kk.g 1 rfl), (kk.g 6 rfl), (kk.g 12 rfl), (kk.g 13 rfl), (kk.g 14 rfl), Nat.zero_le _, rfl, Nat.le_refl _, OwnI.nil _ _, q1, ⟨q1.lt, Nat.le_refl _⟩, l1⟩⟩ ?_
  clear kk q1 l1 a
  rintro a wx ⟨i, L, A, cap, J⟩
  by_cases hlt : i < (Rfc.spl s 44).length
  · cases hg : Rfc.pnum ((Rfc.spl s 44)[i]) with
    | none => exact psI_bad w w1 s hT hl i L A cap a wx _ J hlt hg (fun a' w' k1 k2 k3 k4 k5 => hfin a' w' _ _ k1 k2 k3 (by show LI _ _ _ _; rw [k4]; rfl) k5)
    | some y => exact psI_ok w w1 s hT hl i L A cap a wx _ J hlt y hg
  obtain ⟨hd, hs, h1, h6, h12, h13, h14, hi, hm, lL, hO, hB, zz, hb⟩ := J
  have kk := (((((kn hs hd).p h1).p h6).p h12).p h13).p h14; clear hs hd h1 h6 h12 h13 h14
  obtain rfl : i = (Rfc.spl s 44).length := by omega
  rw [List.take_length] at hm
  clear hB
  refine wp_seq ?_
  refine wpr 1 ?_
  refine opk 0 15 (v := .bool false) kk (frY rfl (o_ltI rfl (kk.e 14 rfl) (kk.e 13 rfl) (decide_eq_false (by omega)))) ?_; clear kk; intro a kk
  refine wp_seq ?_
  refine wp_cond_false (kk.e 15 rfl) ?_
  refine wp_exit ?_
  change Code.wp _ _ _ _ _
  refine wp_seq ?_
  refine wpr 3 ?_
  refine opk 0 31 kk (frY rfl (k_move rfl (kk.e 6 rfl))) ?_; clear kk; intro a kk
  refine opk 1 4 kk (frY rfl (k_assign rfl (kk.e 31 rfl))) ?_; clear kk; intro a kk
  refine opk 2 5 (v := .bool true) kk (frY rfl (k_assign rfl rfl)) ?_; clear kk; intro a kk
  refine wp_ret ?_
  exact hfin a wx _ _ kk.d (kk.g 4 rfl) (kk.g 5 rfl) (by show LI _ _ _ _; rw [show Rfc.plistI s = some L from hm]; exact ⟨A, cap, rfl, hO.base (Nat.le_of_lt zz.1)⟩) hb

def LN (w : World) (base : Nat) (o : Option (List (Int × Int))) (v : Value) : Prop := match o with
  | some L => ∃ A cap, v = .tuple #[.slice A L.length cap, .bool true] ∧ OwnN w base (.slice A L.length cap) L
  | none => v = .tuple #[.slice none 0 0, .bool false]
noncomputable def psNBody : Code := Tryz.f49.body.getD .skip
noncomputable def psNRound : Code := (Tryz.f49.body.bind loopC).getD .skip
structure LsN (w w1 : World) (s : List UInt8) (i : Nat) (L : List (Int × Int)) (A : Option Addr) (cap : Nat) (a : Act) (wx : World) : Prop where
  d : a.defers = []
  z : a.tmps.size = 32
  s1 : a.tmps.getD 1 undef = .func (.func 50) #[] #[]
  s6 : a.tmps.getD 6 undef = .slice A L.length cap
  s12 : a.tmps.getD 12 undef = .slice (some ⟨w.heap.size, 0, none⟩) (Rfc.spl s 44).length (Rfc.spl s 44).length
  s13 : a.tmps.getD 13 undef = .int .i64 (Rfc.spl s 44).length
  s14 : a.tmps.getD 14 undef = .int .i64 i
  iN : i ≤ (Rfc.spl s 44).length
  m : Rfc.mm Rfc.pw ((Rfc.spl s 44).take i) = some L
  lL : L.length ≤ i
  o : OwnN wx w1.heap.size (.slice A L.length cap) L
  B : Blk wx w.heap.size 9 ((Rfc.spl s 44).map fun x => Value.string ⟨x.toArray⟩).toArray
  zz : w.heap.size < w1.heap.size ∧ w1.heap.size ≤ wx.heap.size
  b : Below w.heap.size w wx

set_option maxRecDepth 100000 in
set_option maxHeartbeats 1000000 in
theorem psN_ok (w w1 : World) (s : List UInt8) (hT : Tabs w) (hl : s.length ≤ 100000) (i : Nat) (L : List (Int × Int)) (A : Option Addr) (cap : Nat) (a : Act) (wx : World) (Q : Exit → Act → World → Prop) (J : LsN w w1 s i L A cap a wx) (hlt : i < (Rfc.spl s 44).length) (hg : (Rfc.pwd ((Rfc.spl s 44)[i])).2 = true) :
    psNRound.wp Tryz.prog (Exit.then (fun a' w' => (∃ i L A cap, LsN w w1 s i L A cap a' w') ∧ ((Rfc.spl s 44).length - intOf (a'.tmps.getD 14 undef)).toNat < ((Rfc.spl s 44).length - intOf (a.tmps.getD 14 undef)).toNat) Q) a wx := by
  obtain ⟨hd, hs, h1, h6, h12, h13, h14, hi, hm, lL, hO, hB, zz, hb⟩ := J
  have kk := (((((kn hs hd).p h1).p h6).p h12).p h13).p h14; clear hs hd h1 h6 h12 h13 h14
  have hpl : ((Rfc.spl s 44)[i]).length ≤ 100000 := Nat.le_trans (piece_le _ s 44 _ (List.getElem_mem hlt)) hl
  have hcell : wx.cell? ⟨w.heap.size, i, none⟩ = some (.string ⟨(((Rfc.spl s 44)[i])).toArray⟩) := by rw [hB.cell i]; simp [hlt]
  have hspl : (Rfc.spl s 44).length ≤ 100001 := by
    rw [spl_len]
    have := Lib.countB_le ⟨#[44]⟩ (Nat.le_refl 1) _ ⟨s.toArray⟩ (Nat.le_refl _)
    rw [ba_size] at this
    omega
  have e14 := (kk.g 14 rfl)
  rw [e14]
  clear e14
  unfold psNRound
  conv => arg 2; whnf
  refine wp_seq ?_
  refine wpr 1 ?_
  refine opk 0 15 (v := .bool true) kk (frY rfl (o_ltI rfl (kk.e 14 rfl) (kk.e 13 rfl) (decide_eq_true (by omega)))) ?_; clear kk; intro a kk
  refine wp_seq ?_
  refine wp_cond_true (kk.e 15 rfl) ?_
  refine wp_skip ?_
  refine wp_seq ?_
  refine wp_block ?_
  refine wp_seq ?_
  refine wpr 3 ?_
  refine opk 0 16 (v := .pointer (some ⟨w.heap.size, i, none⟩)) kk (frY rfl (k_atS' rfl (kk.e 12 rfl) (kk.e 14 rfl) hlt)) ?_; clear kk; intro a kk
  refine opk 1 17 (v := .string ⟨(((Rfc.spl s 44)[i])).toArray⟩) kk (frY rfl (k_loadStr rfl (kk.e 16 rfl) hcell)) ?_; clear kk; intro a kk
  refine opk 2 8 kk (frY rfl (k_assign rfl (kk.e 17 rfl))) ?_; clear kk; intro a kk
  refine wp_seq ?_
  refine wpr 9 ?_
  refine opk 0 19 kk (frY rfl (k_move rfl (kk.e 1 rfl))) ?_; clear kk; intro a kk
  refine opk 1 20 kk (frY rfl (k_move rfl (kk.e 8 rfl))) ?_; clear kk; intro a kk
  have hc := pw_any ((Rfc.spl s 44)[i]) wx (hT.below hb) hpl
  refine opkc 2 21 kk hc (frY rfl (c_valWd rfl (kk.e 19 rfl) (kk.e 20 rfl))) ?_; clear kk hc
  rintro _ w2 a ⟨rfl, l2⟩ F0
  rw [hg] at F0
  have kk := F0; clear F0
  replace hO := hO.below l2
  replace hB := hB.below l2 hB.lt
  replace hb := hb.trans (l2.mono hb.size)
  have z2 : w1.heap.size ≤ w2.heap.size := Nat.le_trans zz.2 l2.size
  refine opk 3 18 kk (frY rfl (k_move rfl (kk.e 21 rfl))) ?_; clear kk; intro a kk
  refine opk 4 22 (v := .agg #[.int .i64 (Rfc.pwd ((Rfc.spl s 44)[i])).1.1, .int .i64 (Rfc.pwd ((Rfc.spl s 44)[i])).1.2]) kk (frY rfl (k_extract rfl (kk.e 18 rfl) rfl)) ?_; clear kk; intro a kk
  refine opk 5 23 (v := .bool true) kk (frY rfl (k_extract rfl (kk.e 18 rfl) rfl)) ?_; clear kk; intro a kk
  refine opk 6 9 (v := .pointer (some ⟨w2.heap.size, 0, none⟩)) (w' := (w2.alloc (.cells #[.int .i64 0, .int .i64 0] 50))) kk (frY rfl (k_allocN rfl)) ?_; clear kk; intro a kk
  obtain ⟨wa, hwa⟩ : ∃ wn, wn = w2.alloc (.cells #[.int .i64 0, .int .i64 0] 50) := ⟨_, rfl⟩
  rw [← hwa]
  have qa : Blk wa w2.heap.size 50 #[.int .i64 0, .int .i64 0] := by rw [hwa]; exact Blk.alloc _ _ _
  have la : Below w2.heap.size w2 wa := by rw [hwa]; exact (Below.refl _ _).alloc (Nat.le_refl _) _
  clear hwa
  refine opL_store 7 (w' := (wa.setRow w2.heap.size #[.int .i64 (Rfc.pwd ((Rfc.spl s 44)[i])).1.1, .int .i64 (Rfc.pwd ((Rfc.spl s 44)[i])).1.2])) (by kernel_rfl) ?_ ?_
  · exact frY rfl (k_storeS2 rfl (kk.e 9 rfl) (kk.e 22 rfl) qa (by kernel_rfl) rfl rfl (by simp [Value.oneCell']))
  obtain ⟨wb, hwb⟩ : ∃ wn, wn = wa.setRow w2.heap.size #[.int .i64 (Rfc.pwd ((Rfc.spl s 44)[i])).1.1, .int .i64 (Rfc.pwd ((Rfc.spl s 44)[i])).1.2] := ⟨_, rfl⟩
  rw [← hwb]
  have qb : Blk wb w2.heap.size 50 #[.int .i64 (Rfc.pwd ((Rfc.spl s 44)[i])).1.1, .int .i64 (Rfc.pwd ((Rfc.spl s 44)[i])).1.2] := by rw [hwb]; exact qa.setRow
  have lb : Below w2.heap.size w2 wb := by rw [hwb]; exact la.trans ((exc_setRow wa w2.heap.size #[.int .i64 (Rfc.pwd ((Rfc.spl s 44)[i])).1.1, .int .i64 (Rfc.pwd ((Rfc.spl s 44)[i])).1.2] w2.heap.size).below (Nat.le_refl _))
  clear hwb qa la
  replace hO := hO.below lb
  replace hB := hB.below lb hB.lt
  replace hb := hb.trans (lb.mono hb.size)
  replace z2 : w1.heap.size ≤ wb.heap.size := Nat.le_trans z2 lb.size
  refine opk 8 10 kk (frY rfl (k_assign rfl (kk.e 23 rfl))) ?_; clear kk; intro a kk
  refine wp_seq ?_
  refine wp_seq ?_
  refine wpr 2 ?_
  refine opk 0 24 kk (frY rfl (k_move rfl (kk.e 10 rfl))) ?_; clear kk; intro a kk
  refine opk 1 25 (v := .bool false) kk (frY rfl (o_not rfl (kk.e 24 rfl) rfl)) ?_; clear kk; intro a kk
  refine wp_cond_false (kk.e 25 rfl) ?_
  refine wp_skip ?_
  refine wpr 5 ?_
  refine opk 0 26 kk (frY rfl (k_move rfl (kk.e 6 rfl))) ?_; clear kk; intro a kk
  refine opk 1 27 (v := .agg #[.int .i64 (Rfc.pwd ((Rfc.spl s 44)[i])).1.1, .int .i64 (Rfc.pwd ((Rfc.spl s 44)[i])).1.2]) kk (frY rfl (k_loadNs rfl (kk.e 9 rfl) qb)) ?_; clear kk; intro a kk
  refine opk 2 28 (v := .slice (some ⟨wb.heap.size, 0, none⟩) 1 1) (w' := (wb.alloc (.cells #[.int .i64 (Rfc.pwd ((Rfc.spl s 44)[i])).1.1, .int .i64 (Rfc.pwd ((Rfc.spl s 44)[i])).1.2] 50))) kk (frY rfl (k_sliceN rfl (kk.e 27 rfl))) ?_; clear kk; intro a kk
  obtain ⟨w3, hw3⟩ : ∃ wn, wn = wb.alloc (.cells #[.int .i64 (Rfc.pwd ((Rfc.spl s 44)[i])).1.1, .int .i64 (Rfc.pwd ((Rfc.spl s 44)[i])).1.2] 50) := ⟨_, rfl⟩
  rw [← hw3]
  have q3 : Blk w3 wb.heap.size 50 #[.int .i64 (Rfc.pwd ((Rfc.spl s 44)[i])).1.1, .int .i64 (Rfc.pwd ((Rfc.spl s 44)[i])).1.2] := by rw [hw3]; exact Blk.alloc _ _ _
  have l3 : Below wb.heap.size wb w3 := by rw [hw3]; exact (Below.refl _ _).alloc (Nat.le_refl _) _
  clear hw3
  replace hO := hO.below l3
  replace hB := hB.below l3 hB.lt
  replace hb := hb.trans (l3.mono hb.size)
  have z3 : w1.heap.size ≤ w3.heap.size := Nat.le_trans z2 l3.size
  obtain ⟨v', w4, hr, hO4, b4, z4⟩ := append_nth_b (c := 1) hO (q3.cell 0) (q3.cell 1) (by omega) z3
  obtain ⟨A', cap', rfl, -, -, -⟩ := hO4.nths
  refine opk 3 29 (v := .slice A' (L ++ [((Rfc.pwd ((Rfc.spl s 44)[i])).1.1, (Rfc.pwd ((Rfc.spl s 44)[i])).1.2)]).length cap') kk (frY rfl (k_append rfl rfl (kk.e 26 rfl) (kk.e 28 rfl) hr)) ?_; clear kk; intro a kk
  have hB4 := hB.below b4 zz.1
  have hb4 := hb.trans (b4.mono (Nat.le_of_lt zz.1))
  replace kk := kk.keep [29, 25, 10, 9, 8, 15, 14, 13, 12, 1] rfl
  refine opk 4 6 kk (frY rfl (k_assign rfl (kk.e 29 rfl))) ?_; clear kk; intro a kk
  refine wpr 2 ?_
  refine opk 0 30 (v := .int .i64 (i + 1 : Nat)) kk (frY rfl (o_addI rfl (kk.e 14 rfl) rfl (wrap_small (n := (i : Int) + 1) (by omega) (by omega)))) ?_; clear kk; intro a kk
  replace kk := kk.keep [30, 6, 25, 10, 9, 8, 15, 13, 12, 1] rfl
  refine opk 1 14 kk (frY rfl (k_move rfl (kk.e 30 rfl))) ?_; clear kk; intro a kk
  refine ⟨⟨i + 1, L ++ [((Rfc.pwd ((Rfc.spl s 44)[i])).1.1, (Rfc.pwd ((Rfc.spl s 44)[i])).1.2)], A', cap', kk.d, kk.z, (kk.g 1 rfl), (kk.g 6 rfl), (kk.g 12 rfl), (kk.g 13 rfl), (kk.g 14 rfl), hlt, ?_, by simp; omega, hO4, hB4, ⟨zz.1, by omega⟩, hb4⟩, ?_⟩
  ·
    rw [List.take_succ_eq_append_getElem hlt]
    exact Rfc.mm_snoc Rfc.pw _ _ L ((Rfc.pwd ((Rfc.spl s 44)[i])).1.1, (Rfc.pwd ((Rfc.spl s 44)[i])).1.2) hm (by unfold Rfc.pw; rw [hg]; rfl)
  ·
    rw [(kk.g 14 rfl)]
    simp only [intOf]
    omega

set_option maxRecDepth 100000 in
set_option maxHeartbeats 1000000 in
theorem psN_bad (w w1 : World) (s : List UInt8) (hT : Tabs w) (hl : s.length ≤ 100000) (i : Nat) (L : List (Int × Int)) (A : Option Addr) (cap : Nat) (a : Act) (wx : World) (Q : Exit → Act → World → Prop) (J : LsN w w1 s i L A cap a wx) (hlt : i < (Rfc.spl s 44).length) (hg : (Rfc.pwd ((Rfc.spl s 44)[i])).2 = false) (hfin : ∀ (a' : Act) (w' : World), a'.defers = [] → a'.tmps.getD 4 undef = .slice none 0 0 → a'.tmps.getD 5 undef = .bool false → Rfc.plistN s = none → Below w.heap.size w w' → Q .ret a' w') :
    psNRound.wp Tryz.prog (Exit.then (fun a' w' => (∃ i L A cap, LsN w w1 s i L A cap a' w') ∧ ((Rfc.spl s 44).length - intOf (a'.tmps.getD 14 undef)).toNat < ((Rfc.spl s 44).length - intOf (a.tmps.getD 14 undef)).toNat) Q) a wx := by
  obtain ⟨hd, hs, h1, h6, h12, h13, h14, hi, hm, lL, hO, hB, zz, hb⟩ := J
  have kk := (((((kn hs hd).p h1).p h6).p h12).p h13).p h14; clear hs hd h1 h6 h12 h13 h14
  have hpl : ((Rfc.spl s 44)[i]).length ≤ 100000 := Nat.le_trans (piece_le _ s 44 _ (List.getElem_mem hlt)) hl
  have hcell : wx.cell? ⟨w.heap.size, i, none⟩ = some (.string ⟨(((Rfc.spl s 44)[i])).toArray⟩) := by rw [hB.cell i]; simp [hlt]
  have hspl : (Rfc.spl s 44).length ≤ 100001 := by
    rw [spl_len]
    have := Lib.countB_le ⟨#[44]⟩ (Nat.le_refl 1) _ ⟨s.toArray⟩ (Nat.le_refl _)
    rw [ba_size] at this
    omega
  have e14 := (kk.g 14 rfl)
  rw [e14]
  clear e14
  unfold psNRound
  conv => arg 2; whnf
  refine wp_seq ?_
  refine wpr 1 ?_
  refine opk 0 15 (v := .bool true) kk (frY rfl (o_ltI rfl (kk.e 14 rfl) (kk.e 13 rfl) (decide_eq_true (by omega)))) ?_; clear kk; intro a kk
  refine wp_seq ?_
  refine wp_cond_true (kk.e 15 rfl) ?_
  refine wp_skip ?_
  refine wp_seq ?_
  refine wp_block ?_
  refine wp_seq ?_
  refine wpr 3 ?_
  refine opk 0 16 (v := .pointer (some ⟨w.heap.size, i, none⟩)) kk (frY rfl (k_atS' rfl (kk.e 12 rfl) (kk.e 14 rfl) hlt)) ?_; clear kk; intro a kk
  refine opk 1 17 (v := .string ⟨(((Rfc.spl s 44)[i])).toArray⟩) kk (frY rfl (k_loadStr rfl (kk.e 16 rfl) hcell)) ?_; clear kk; intro a kk
  refine opk 2 8 kk (frY rfl (k_assign rfl (kk.e 17 rfl))) ?_; clear kk; intro a kk
  refine wp_seq ?_
  refine wpr 9 ?_
  refine opk 0 19 kk (frY rfl (k_move rfl (kk.e 1 rfl))) ?_; clear kk; intro a kk
  refine opk 1 20 kk (frY rfl (k_move rfl (kk.e 8 rfl))) ?_; clear kk; intro a kk
  have hc := pw_any ((Rfc.spl s 44)[i]) wx (hT.below hb) hpl
  refine opkc 2 21 kk hc (frY rfl (c_valWd rfl (kk.e 19 rfl) (kk.e 20 rfl))) ?_; clear kk hc
  rintro _ w2 a ⟨rfl, l2⟩ F0
  rw [hg] at F0
  have kk := F0; clear F0
  replace hO := hO.below l2
  replace hB := hB.below l2 hB.lt
  replace hb := hb.trans (l2.mono hb.size)
  have z2 : w1.heap.size ≤ w2.heap.size := Nat.le_trans zz.2 l2.size
  refine opk 3 18 kk (frY rfl (k_move rfl (kk.e 21 rfl))) ?_; clear kk; intro a kk
  refine opk 4 22 (v := .agg #[.int .i64 (Rfc.pwd ((Rfc.spl s 44)[i])).1.1, .int .i64 (Rfc.pwd ((Rfc.spl s 44)[i])).1.2]) kk (frY rfl (k_extract rfl (kk.e 18 rfl) rfl)) ?_; clear kk; intro a kk
  refine opk 5 23 (v := .bool false) kk (frY rfl (k_extract rfl (kk.e 18 rfl) rfl)) ?_; clear kk; intro a kk
  refine opk 6 9 (v := .pointer (some ⟨w2.heap.size, 0, none⟩)) (w' := (w2.alloc (.cells #[.int .i64 0, .int .i64 0] 50))) kk (frY rfl (k_allocN rfl)) ?_; clear kk; intro a kk
  obtain ⟨wa, hwa⟩ : ∃ wn, wn = w2.alloc (.cells #[.int .i64 0, .int .i64 0] 50) := ⟨_, rfl⟩
  rw [← hwa]
  have qa : Blk wa w2.heap.size 50 #[.int .i64 0, .int .i64 0] := by rw [hwa]; exact Blk.alloc _ _ _
  have la : Below w2.heap.size w2 wa := by rw [hwa]; exact (Below.refl _ _).alloc (Nat.le_refl _) _
  clear hwa
  refine opL_store 7 (w' := (wa.setRow w2.heap.size #[.int .i64 (Rfc.pwd ((Rfc.spl s 44)[i])).1.1, .int .i64 (Rfc.pwd ((Rfc.spl s 44)[i])).1.2])) (by kernel_rfl) ?_ ?_
  · exact frY rfl (k_storeS2 rfl (kk.e 9 rfl) (kk.e 22 rfl) qa (by kernel_rfl) rfl rfl (by simp [Value.oneCell']))
  obtain ⟨wb, hwb⟩ : ∃ wn, wn = wa.setRow w2.heap.size #[.int .i64 (Rfc.pwd ((Rfc.spl s 44)[i])).1.1, .int .i64 (Rfc.pwd ((Rfc.spl s 44)[i])).1.2] := ⟨_, rfl⟩
  rw [← hwb]
  have qb : Blk wb w2.heap.size 50 #[.int .i64 (Rfc.pwd ((Rfc.spl s 44)[i])).1.1, .int .i64 (Rfc.pwd ((Rfc.spl s 44)[i])).1.2] := by rw [hwb]; exact qa.setRow
  have lb : Below w2.heap.size w2 wb := by rw [hwb]; exact la.trans ((exc_setRow wa w2.heap.size #[.int .i64 (Rfc.pwd ((Rfc.spl s 44)[i])).1.1, .int .i64 (Rfc.pwd ((Rfc.spl s 44)[i])).1.2] w2.heap.size).below (Nat.le_refl _))
  clear hwb qa la
  replace hO := hO.below lb
  replace hB := hB.below lb hB.lt
  replace hb := hb.trans (lb.mono hb.size)
  replace z2 : w1.heap.size ≤ wb.heap.size := Nat.le_trans z2 lb.size
  refine opk 8 10 kk (frY rfl (k_assign rfl (kk.e 23 rfl))) ?_; clear kk; intro a kk
  refine wp_seq ?_
  refine wp_seq ?_
  refine wpr 2 ?_
  refine opk 0 24 kk (frY rfl (k_move rfl (kk.e 10 rfl))) ?_; clear kk; intro a kk
  refine opk 1 25 (v := .bool true) kk (frY rfl (o_not rfl (kk.e 24 rfl) rfl)) ?_; clear kk; intro a kk
  refine wp_cond_true (kk.e 25 rfl) ?_
  refine wp_seq ?_
  refine wpr 2 ?_
  refine opk 0 4 (v := .slice none 0 0) kk (frY rfl (k_assign rfl rfl)) ?_; clear kk; intro a kk
  refine opk 1 5 (v := .bool false) kk (frY rfl (k_assign rfl rfl)) ?_; clear kk; intro a kk
  refine wp_ret ?_
  exact hfin a _ kk.d (kk.g 4 rfl) (kk.g 5 rfl) (Rfc.mm_fail Rfc.pw _ i hlt (by unfold Rfc.pw; rw [hg]; rfl)) hb

set_option maxRecDepth 100000 in
set_option maxHeartbeats 1000000 in
theorem psN_any (s : List UInt8) (w : World) (hT : Tabs w) (hl : s.length ≤ 100000) :
    Calls Tryz.prog 49 #[.string ⟨s.toArray⟩, .func (.func 50) #[] #[]] w fun e w' => ∃ v, e = .returned v ∧ LN w' w.heap.size (Rfc.plistN s) v ∧ Below w.heap.size w w' := by
  refine calls_of_wp Tryz.func49 (show Tryz.f49.body = some psNBody from rfl) ?_
  generalize hAA : (Act.mk (#[.string ⟨s.toArray⟩, .func (.func 50) #[] #[]] ++ Array.replicate (Tryz.f49.ntmps - (#[.string ⟨s.toArray⟩, .func (.func 50) #[] #[]] : Array Value).size) undef) []) = a
  have hs : a.tmps.size = 32 := by rw [← hAA]; simp [Tryz.ntmps49]
  have hd : a.defers = [] := by rw [← hAA]
  have h0 : a.tmps.getD 0 undef = .string ⟨s.toArray⟩ := by rw [← hAA]; simp
  have h1 : a.tmps.getD 1 undef = .func (.func 50) #[] #[] := by rw [← hAA]; simp
  clear hAA
  have kk := ((kn hs hd).p h0).p h1; clear hs hd h0 h1
  have hfin : ∀ (a' : Act) (w' : World) (x y : Value), a'.defers = [] → a'.tmps.getD 4 undef = x → a'.tmps.getD 5 undef = y → LN w' w.heap.size (Rfc.plistN s) (.tuple #[x, y]) → Below w.heap.size w w' → (bodyPost Tryz.prog Tryz.f49 fun e w' => ∃ v, e = .returned v ∧ LN w' w.heap.size (Rfc.plistN s) v ∧ Below w.heap.size w w') .ret a' w' := by
    intro a' w' x y k1 k2 k3 k4 k5
    exact ⟨k1, _, results2 rfl _ _ _, _, rfl, by rw [k2, k3]; exact k4, k5⟩
  generalize (bodyPost Tryz.prog Tryz.f49 fun e w' => ∃ v, e = .returned v ∧ LN w' w.heap.size (Rfc.plistN s) v ∧ Below w.heap.size w w') = Q at hfin
  unfold psNBody
  conv => arg 2; whnf
  refine wp_seq ?_
  refine wpr 2 ?_
  refine opk 0 4 (v := .slice none 0 0) kk (frY rfl (k_assign rfl rfl)) ?_; clear kk; intro a kk
  refine opk 1 5 (v := .bool false) kk (frY rfl (k_assign rfl rfl)) ?_; clear kk; intro a kk
  refine wp_seq ?_
  refine wpr 1 ?_
  refine opk 0 6 (v := .slice none 0 0) kk (frY rfl (k_assign rfl rfl)) ?_; clear kk; intro a kk
  refine wp_seq ?_
  refine wp_seq ?_
  refine wpr 4 ?_
  refine opk 0 11 kk (frY rfl (k_move rfl (kk.e 0 rfl))) ?_; clear kk; intro a kk
  have hc := split_any s 44 w hT hl
  refine opkc 1 12 kk hc (frY rfl (c_Split rfl rfl (kk.e 11 rfl) rfl)) ?_; clear kk hc
  rintro _ w1 a ⟨⟨rfl, q1⟩, l1⟩ F0
  have kk := F0; clear F0
  refine opk 2 13 (v := .int .i64 (Rfc.spl s 44).length) kk (frY rfl (k_lenStr rfl (kk.e 12 rfl))) ?_; clear kk; intro a kk
  refine opk 3 14 (v := .int .i64 0) kk (frY rfl (k_move rfl rfl)) ?_; clear kk; intro a kk
  refine wp_block ?_
  refine wp_loop (fun a wx => ∃ i L A cap, LsN w w1 s i L A cap a wx) (fun a _ => ((Rfc.spl s 44).length - intOf (a.tmps.getD 14 undef)).toNat) ⟨0, [], none, 0, ⟨kk.d, kk.z, (kk.g 1 rfl), (kk.g 6 rfl), (kk.g 12 rfl), (kk.g 13 rfl), (kk.g 14 rfl), Nat.zero_le _, rfl, Nat.le_refl _, OwnN.nil _ _, q1, ⟨q1.lt, Nat.le_refl _⟩, l1⟩⟩ ?_
  clear kk q1 l1 a
  rintro a wx ⟨i, L, A, cap, J⟩
  by_cases hlt : i < (Rfc.spl s 44).length
  · cases hg : (Rfc.pwd ((Rfc.spl s 44)[i])).2
    · exact psN_bad w w1 s hT hl i L A cap a wx _ J hlt hg (fun a' w' k1 k2 k3 k4 k5 => hfin a' w' _ _ k1 k2 k3 (by show LN _ _ _ _; rw [k4]; rfl) k5)
    · exact psN_ok w w1 s hT hl i L A cap a wx _ J hlt hg
  obtain ⟨hd, hs, h1, h6, h12, h13, h14, hi, hm, lL, hO, hB, zz, hb⟩ := J
  have kk := (((((kn hs hd).p h1).p h6).p h12).p h13).p h14; clear hs hd h1 h6 h12 h13 h14
  obtain rfl : i = (Rfc.spl s 44).length := by omega
  rw [List.take_length] at hm
  clear hB
  refine wp_seq ?_
  refine wpr 1 ?_
  refine opk 0 15 (v := .bool false) kk (frY rfl (o_ltI rfl (kk.e 14 rfl) (kk.e 13 rfl) (decide_eq_false (by omega)))) ?_; clear kk; intro a kk
  refine wp_seq ?_
  refine wp_cond_false (kk.e 15 rfl) ?_
  refine wp_exit ?_
  change Code.wp _ _ _ _ _
  refine wp_seq ?_
  refine wpr 3 ?_
  refine opk 0 31 kk (frY rfl (k_move rfl (kk.e 6 rfl))) ?_; clear kk; intro a kk
  refine opk 1 4 kk (frY rfl (k_assign rfl (kk.e 31 rfl))) ?_; clear kk; intro a kk
  refine opk 2 5 (v := .bool true) kk (frY rfl (k_assign rfl rfl)) ?_; clear kk; intro a kk
  refine wp_ret ?_
  exact hfin a wx _ _ kk.d (kk.g 4 rfl) (kk.g 5 rfl) (by show LN _ _ _ _; rw [show Rfc.plistN s = some L from hm]; exact ⟨A, cap, rfl, hO.base (Nat.le_of_lt zz.1)⟩) hb

def isd (c : UInt8) : Bool := decide (48 ≤ (c.toNat : Int)) && decide ((c.toNat : Int) ≤ 57)
def val (l : List UInt8) : Int := l.foldl (fun n c => n * 10 + ((c.toNat : Int) - 48)) 0
theorem isd_iff (c : UInt8) : isd c = true ↔ 48 ≤ (c.toNat : Int) ∧ (c.toNat : Int) ≤ 57 := by simp [isd]
theorem isd_no (c : UInt8) : isd c = false ↔ (c.toNat : Int) < 48 ∨ 57 < (c.toNat : Int) := by
  rw [Bool.eq_false_iff, Ne, isd_iff]; omega
theorem val_snoc (l : List UInt8) (c : UInt8) : val (l ++ [c]) = val l * 10 + ((c.toNat : Int) - 48) := by
  simp [val, List.foldl_append]
theorem val_bd (l : List UInt8) (h : ∀ c ∈ l, isd c = true) : 0 ≤ val l ∧ val l < 10 ^ l.length := by
  have go : ∀ (r : List UInt8), (∀ c ∈ r, isd c = true) → 0 ≤ val r.reverse ∧ val r.reverse < 10 ^ r.length := by
    intro r
    induction r with
    | nil => intro _; simp [val]
    | cons c r ih =>
      intro hr
      obtain ⟨i1, i2⟩ := ih (fun x hx => hr x (List.mem_cons_of_mem _ hx))
      have hc := (isd_iff c).1 (hr c (List.mem_cons_self ..))
      rw [List.reverse_cons, val_snoc, List.length_cons, Int.pow_succ]
      omega
  have := go l.reverse (fun c hc => h c (by simpa using hc))
  simpa using this
theorem take_snoc (s : ByteArray) (k : Nat) (h : k < s.size) : s.data.toList.take (k + 1) = s.data.toList.take k ++ [s[k]] := by
  rw [List.take_succ_eq_append_getElem (by simpa using h)]; rfl

theorem mem_take (s : ByteArray) (k : Nat) (h : k ≤ s.size) (p : UInt8 → Prop) (hp : ∀ i (hi : i < s.size), i < k → p s[i]) : ∀ c ∈ s.data.toList.take k, p c := by
  intro c hc
  obtain ⟨i, hi, rfl⟩ := List.mem_iff_getElem.1 hc
  have hi' : i < k := by simp at hi; omega
  have e : (s.data.toList.take k)[i] = s[i] := by rw [List.getElem_take]; rfl
  rw [e]
  exact hp i (by omega) hi'
theorem pow_le (n : Nat) (h : n ≤ 3) : (10 : Int) ^ n ≤ 1000 := by
  have : n = 0 ∨ n = 1 ∨ n = 2 ∨ n = 3 := by omega
  rcases this with rfl | rfl | rfl | rfl <;> decide

set_option maxHeartbeats 400000 in
theorem digits_yes (s : ByteArray) (w : World) (hs : s.size ≤ 4) (hd : ∀ i (h : i < s.size), isd s[i] = true) :
    Calls Tryz.prog 135 #[.string s] w fun e w' => e = .returned (.tuple #[.int .i64 (val s.data.toList), .bool true]) ∧ w = w' := by
  have HD := Lib.hid hd
  clear hd
  go_enter Tryz.func135, Tryz.ntmps135
  go_wp2
  go_loop [4, 8] (fun n i => ∃ k : Nat, k ≤ s.size ∧ i = .int .i64 k ∧ n = .int .i64 (val (s.data.toList.take k))) (fun _ i => s.size - (intOf i).toNat)
  case atStart => exact ⟨0, Nat.zero_le _, rfl, rfl⟩
  case round =>
    obtain ⟨k, hk, rfl, rfl⟩ := hrel
    by_cases hlt : k < s.size
    · have hb := val_bd (s.data.toList.take k) (mem_take s k hk _ fun i hi _ => HD.out i hi)
      have hl : (s.data.toList.take k).length ≤ 3 := by simp; omega
      have hp := pow_le _ hl
      have v1 : 0 ≤ val (s.data.toList.take k) := hb.1
      have v2 : val (s.data.toList.take k) ≤ 999 := by omega
      have hc := (isd_iff _).1 (HD.out k hlt)
      obtain ⟨c1, c2⟩ := hc
      have VS := Lib.hid (show val (s.data.toList.take (k + 1)) = val (s.data.toList.take k) * 10 + ((s[k].toNat : Int) - 48) by rw [take_snoc s k hlt, val_snoc])
      clear hb hl hp
      go_wp2
      go_round
      case rel => exact ⟨k + 1, by omega, by go_num, by rw [VS.out]⟩
      case measure => simp [intOf]; omega
    · go_wp2
      go_ret2
      exact ⟨ret_of (by rw [List.take_of_length_le (by simp; omega)]), rfl⟩

set_option maxHeartbeats 400000 in
theorem digits_no (s : ByteArray) (w : World) (hs : s.size ≤ 4) (j : Nat) (hj : j < s.size) (hd : ∀ i (h : i < s.size), i < j → isd s[i] = true) (hn : isd s[j] = false) :
    Calls Tryz.prog 135 #[.string s] w fun e w' => e = .returned (.tuple #[.int .i64 0, .bool false]) ∧ w = w' := by
  have HD := Lib.hid hd
  have HN := Lib.hid hn
  clear hd hn
  go_enter Tryz.func135, Tryz.ntmps135
  go_wp2
  go_loop [4, 8] (fun n i => ∃ k : Nat, k ≤ j ∧ i = .int .i64 k ∧ n = .int .i64 (val (s.data.toList.take k))) (fun _ i => s.size - (intOf i).toNat)
  case atStart => exact ⟨0, Nat.zero_le _, rfl, rfl⟩
  case round =>
    obtain ⟨k, hk, rfl, rfl⟩ := hrel
    have hlt : k < s.size := by omega
    by_cases hkj : k < j
    · have hb := val_bd (s.data.toList.take k) (mem_take s k (by omega) _ fun i hi h => HD.out i hi (by omega))
      have hl : (s.data.toList.take k).length ≤ 3 := by simp; omega
      have hp := pow_le _ hl
      have v1 : 0 ≤ val (s.data.toList.take k) := hb.1
      have v2 : val (s.data.toList.take k) ≤ 999 := by omega
      have hc := (isd_iff _).1 (HD.out k hlt hkj)
      obtain ⟨c1, c2⟩ := hc
      have VS := Lib.hid (show val (s.data.toList.take (k + 1)) = val (s.data.toList.take k) * 10 + ((s[k].toNat : Int) - 48) by rw [take_snoc s k hlt, val_snoc])
      clear hb hl hp
      go_wp2
      go_round
      case rel => exact ⟨k + 1, by omega, by go_num, by rw [VS.out]⟩
      case measure => simp [intOf]; omega
    · obtain rfl : k = j := by omega
      have hc := (isd_no _).1 HN.out
      by_cases h48 : (s[k].toNat : Int) < 48
      · clear hc
        go_wp2
        go_ret2
        exact ⟨rfl, rfl⟩
      · have h57 : 57 < (s[k].toNat : Int) := by omega
        clear hc
        go_wp2
        go_ret2
        exact ⟨rfl, rfl⟩

def ds (s : ByteArray) : Bool := s.data.toList.all isd
def dv (s : ByteArray) : Int := if ds s = true then val s.data.toList else 0
theorem ds_at {s : ByteArray} (h : ds s = true) (i : Nat) (hi : i < s.size) : isd s[i] = true := by
  have := List.all_eq_true.1 h s[i] (by
    have e : s[i] = s.data.toList[i]'(by simpa using hi) := rfl
    rw [e]; exact List.getElem_mem _)
  exact this
theorem ds_of {s : ByteArray} (h : ∀ i (hi : i < s.size), isd s[i] = true) : ds s = true := by
  refine List.all_eq_true.2 fun c hc => ?_
  obtain ⟨i, hi, rfl⟩ := List.mem_iff_getElem.1 hc
  exact h i (by simpa using hi)
theorem least (p : Nat → Prop) : ∀ n, p n → ∃ j, j ≤ n ∧ p j ∧ ∀ i, i < j → ¬ p i := by
  intro n
  induction n using Nat.strongRecOn with
  | ind n ih =>
    intro hp
    by_cases h : ∃ i, i < n ∧ p i
    · obtain ⟨i, hi, hpi⟩ := h
      obtain ⟨j, hj, a, b⟩ := ih i hi hpi
      exact ⟨j, by omega, a, b⟩
    · exact ⟨n, Nat.le_refl _, hp, fun i hi hpi => h ⟨i, hi, hpi⟩⟩
theorem digits_any (s : ByteArray) (w : World) (hs : s.size ≤ 4) : Calls Tryz.prog 135 #[.string s] w fun e w' => e = .returned (.tuple #[.int .i64 (dv s), .bool (ds s)]) ∧ w = w' := by
  by_cases h : ds s = true
  · rw [show dv s = val s.data.toList by simp [dv, h], h]
    exact digits_yes s w hs fun i hi => ds_at h i hi
  · have h0 : ds s = false := by simpa using h
    rw [show dv s = 0 by simp [dv, h], h0]
    have hex : ∃ i, ∃ hi : i < s.size, isd s[i] = false := by
      by_cases g : ∃ i, ∃ hi : i < s.size, isd s[i] = false
      · exact g
      · exact absurd (ds_of fun i hi => by
          cases e : isd s[i]
          · exact absurd ⟨i, hi, e⟩ g
          · rfl) h
    obtain ⟨n, hn⟩ := hex
    obtain ⟨j, _, ⟨hj, e⟩, hb⟩ := least (fun i => ∃ hi : i < s.size, isd s[i] = false) n hn
    refine digits_no s w hs j hj (fun i hi hij => ?_) e
    cases e' : isd s[i]
    · exact absurd ⟨hi, e'⟩ (hb i hij)
    · rfl
theorem dv_bd (s : ByteArray) (n : Nat) (hs : s.size ≤ n) : 0 ≤ dv s ∧ dv s < 10 ^ n := by
  have hp : (0 : Int) < 10 ^ n := Int.pow_pos (by decide)
  unfold dv
  split
  · rename_i h
    have b := val_bd s.data.toList (fun c hc => List.all_eq_true.1 h c hc)
    have e : s.data.toList.length = s.size := by simp
    rw [e] at b
    have hm : (10 : Int) ^ s.size ≤ 10 ^ n := by
      have := Nat.pow_le_pow_right (n := 10) (by decide) hs
      exact_mod_cast this
    omega
  · omega

theorem piece_size (s : ByteArray) (a b : Nat) (h : b ≤ s.size) : (s.extract a b).size = b - a := by simp; omega

theorem parse_dash4 (s : ByteArray) (w : World) (h : s.size = 10) (h4 : 4 < s.size) (d4 : s[4].toNat ≠ 45) : Calls Tryz.prog 83 #[.string s] w fun e w' => e = .returned (.tuple #[.int .i64 0, .bool false]) ∧ w = w' := by
  have h' : ((s.size : Int) != 10) = false := by simp; omega
  have d' : ((s[4].toNat : Int) != 45) = true := by simp; omega
  clear h d4
  go_enter Tryz.func83, Tryz.ntmps83
  go_wp2
  go_ret2
  exact ⟨rfl, rfl⟩
theorem parse_dash7 (s : ByteArray) (w : World) (h : s.size = 10) (h4 : 4 < s.size) (h7 : 7 < s.size) (d4 : s[4].toNat = 45) (d7 : s[7].toNat ≠ 45) : Calls Tryz.prog 83 #[.string s] w fun e w' => e = .returned (.tuple #[.int .i64 0, .bool false]) ∧ w = w' := by
  have h' : ((s.size : Int) != 10) = false := by simp; omega
  have d' : ((s[4].toNat : Int) != 45) = false := by simp; omega
  have e' : ((s[7].toNat : Int) != 45) = true := by simp; omega
  clear h d4 d7
  go_enter Tryz.func83, Tryz.ntmps83
  go_wp2
  go_ret2
  exact ⟨rfl, rfl⟩

set_option maxHeartbeats 400000 in
theorem parse_ten (s : ByteArray) (w : World) (n : Int) (b : Bool) (h : s.size = 10) (h4 : 4 < s.size) (h7 : 7 < s.size) (d4 : s[4].toNat = 45) (d7 : s[7].toNat = 45)
    (hno : (ds (s.extract 0 4) && ds (s.extract 5 7) && ds (s.extract 8 s.size)) = false → n = 0 ∧ b = false)
    (hyes : (ds (s.extract 0 4) && ds (s.extract 5 7) && ds (s.extract 8 s.size)) = true → Calls Tryz.prog 74 #[.int .i64 (dv (s.extract 0 4)), .int .i64 (dv (s.extract 5 7)), .int .i64 (dv (s.extract 8 s.size))] w fun e w' => e = .returned (.tuple #[.int .i64 n, .bool b]) ∧ w = w') :
    Calls Tryz.prog 83 #[.string s] w fun e w' => e = .returned (.tuple #[.int .i64 n, .bool b]) ∧ w = w' := by
  have h' : ((s.size : Int) != 10) = false := by simp; omega
  have d' : ((s[4].toNat : Int) != 45) = false := by simp; omega
  have e' : ((s[7].toNat : Int) != 45) = false := by simp; omega
  have z1 := piece_size s 0 4 (by omega)
  have z2 := piece_size s 5 7 (by omega)
  have z3 := piece_size s 8 s.size (by omega)
  have Z1 := Lib.hid z1
  have Z2 := Lib.hid z2
  have Z3 := Lib.hid z3
  have H := Lib.hid h
  have HY := Lib.hid hyes
  have HN := Lib.hid hno
  clear d4 d7 z1 z2 z3 hno hyes
  have s4 : 4 ≤ s.size := by omega
  have s7 : 7 ≤ s.size := by omega
  have s8 : 8 ≤ s.size := by omega
  have sl : ∀ wx, (Instr.slice 9 (.string s) (some (.int .i64 5)) (some (.int .i64 7)) none).run Tryz.prog wx = .ok (.string (s.extract 5 7)) wx := fun wx => run_slice_string wx 9 s .i64 .i64 5 7 Tryz.underlying9 (by decide) (by decide) (by omega)
  clear h s7
  by_cases hall : (ds (s.extract 0 4) && ds (s.extract 5 7) && ds (s.extract 8 s.size)) = true
  · have hy := Lib.hid (HY.out hall)
    have P1 := Lib.hid (show ds (s.extract 0 4) = true by simp at hall; exact hall.1.1)
    have P2 := Lib.hid (show ds (s.extract 5 7) = true by simp at hall; exact hall.1.2)
    have P3 := Lib.hid (show ds (s.extract 8 s.size) = true by simp at hall; exact hall.2)
    clear hall HY HN
    go_enter Tryz.func83, Tryz.ntmps83
    go_wp2_with fail
    refine (digits_any _ _ (by rw [Z1.out]; decide)).mono ?_
    rintro e w' ⟨rfl, rfl⟩
    rw [P1.out]
    go_wp2_with fail
    refine (digits_any _ _ (by rw [Z2.out]; decide)).mono ?_
    rintro e w' ⟨rfl, rfl⟩
    rw [P2.out]
    go_wp2_with fail
    refine (digits_any _ _ (by rw [Z3.out, H.out]; decide)).mono ?_
    rintro e w' ⟨rfl, rfl⟩
    rw [P3.out]
    go_wp2_with fail
    refine hy.out.mono ?_
    rintro e w' ⟨rfl, rfl⟩
    go_wp2
    go_ret2
    exact ⟨rfl, rfl⟩
  · obtain ⟨rfl, rfl⟩ := HN.out (by simpa using hall)
    have hc : ds (s.extract 0 4) = false ∨ (ds (s.extract 0 4) = true ∧ ds (s.extract 5 7) = false) ∨ (ds (s.extract 0 4) = true ∧ ds (s.extract 5 7) = true ∧ ds (s.extract 8 s.size) = false) := by
      cases e1 : ds (s.extract 0 4) <;> cases e2 : ds (s.extract 5 7) <;> cases e3 : ds (s.extract 8 s.size) <;> simp_all
    clear hall HY HN
    rcases hc with p1 | ⟨p1, p2⟩ | ⟨p1, p2, p3⟩
    all_goals
      have P1 := Lib.hid p1
      first | have P2 := Lib.hid p2 | skip
      first | have P3 := Lib.hid p3 | skip
      clear p1
      first | clear p2 | skip
      first | clear p3 | skip
      go_enter Tryz.func83, Tryz.ntmps83
      go_wp2_with fail
      refine (digits_any _ _ (by rw [Z1.out]; decide)).mono ?_
      rintro e w' ⟨rfl, rfl⟩
      rw [P1.out]
      go_wp2_with fail
      refine (digits_any _ _ (by rw [Z2.out]; decide)).mono ?_
      rintro e w' ⟨rfl, rfl⟩
      first | rw [P2.out] | skip
      go_wp2_with fail
      refine (digits_any _ _ (by rw [Z3.out, H.out]; decide)).mono ?_
      rintro e w' ⟨rfl, rfl⟩
      first | rw [P3.out] | skip
      go_wp2
      go_ret2
      exact ⟨rfl, rfl⟩

theorem isd_dig (n : Int) : isd (dig n) = true := by
  rw [isd_iff, dig_toNat]; omega
theorem ext_list {s t : ByteArray} (h : s.data.toList = t.data.toList) : s = t := by
  cases s; cases t; simp at h; exact congrArg _ (by simpa using h)
theorem txt_0 (y m d : Int) : (txt y m d).extract 0 4 = pad4 y := ext_list (by rw [Lib.extract_data]; rfl)
theorem txt_5 (y m d : Int) : (txt y m d).extract 5 7 = pad2 m := ext_list (by rw [Lib.extract_data]; rfl)
theorem txt_8 (y m d : Int) : (txt y m d).extract 8 (txt y m d).size = pad2 d := ext_list (by rw [Lib.extract_data]; rfl)
theorem ds_pad4 (n : Int) : ds (pad4 n) = true := by
  show ([dig (n / 1000), dig (n / 100), dig (n / 10), dig n].all isd) = true
  simp [isd_dig]
theorem ds_pad2 (n : Int) : ds (pad2 n) = true := by
  show ([dig (n / 10), dig n].all isd) = true
  simp [isd_dig]
theorem dv_pad4 (n : Int) (h0 : 0 ≤ n) (h1 : n ≤ 9999) : dv (pad4 n) = n := by
  unfold dv
  rw [if_pos (ds_pad4 n)]
  show val [dig (n / 1000), dig (n / 100), dig (n / 10), dig n] = n
  simp only [val, List.foldl, dig_toNat]
  omega
theorem dv_pad2 (n : Int) (h0 : 0 ≤ n) (h1 : n ≤ 99) : dv (pad2 n) = n := by
  unfold dv
  rw [if_pos (ds_pad2 n)]
  show val [dig (n / 10), dig n] = n
  simp only [val, List.foldl, dig_toNat]
  omega
theorem parse_txt (n y m d : Int) (w : World) (hM : Months w) (h : Cal.Is n y m d) : Calls Tryz.prog 83 #[.string (txt y m d)] w fun e w' => e = .returned (.tuple #[.int .i64 n, .bool true]) ∧ w = w' := by
  obtain ⟨y1, y2, m1, m2, d1, d2, hn⟩ := h
  have dl := Cal.dim_le y m
  refine parse_ten (txt y m d) w n true rfl (show 4 < 10 by decide) (show 7 < 10 by decide) rfl rfl ?_ ?_
  · rw [txt_0, txt_5, txt_8, ds_pad4, ds_pad2, ds_pad2]; intro h; cases h
  · intro _
    rw [txt_0, txt_5, txt_8, dv_pad4 y (by omega) y2, dv_pad2 m (by omega) (by omega), dv_pad2 d (by omega) (by omega), hn]
    exact of_yes y m d w hM y1 y2 m1 m2 d1 d2

def Good (s : ByteArray) : Prop := ∃ n y m d, Cal.Is n y m d ∧ s = txt y m d

theorem ten_bytes (s : ByteArray) (h : s.size = 10) : ∃ b0 b1 b2 b3 b4 b5 b6 b7 b8 b9 : UInt8, s = ⟨#[b0, b1, b2, b3, b4, b5, b6, b7, b8, b9]⟩ := by
  obtain ⟨⟨l⟩⟩ := s
  have hl : l.length = 10 := h
  match l, hl with
  | [b0, b1, b2, b3, b4, b5, b6, b7, b8, b9], _ => exact ⟨b0, b1, b2, b3, b4, b5, b6, b7, b8, b9, rfl⟩

theorem dig_of (c : UInt8) (h : isd c = true) (n : Int) (e : n % 10 = (c.toNat : Int) - 48) : dig n = c := by
  have hc := (isd_iff c).1 h
  apply UInt8.toNat_inj.1
  have := dig_toNat n
  omega
theorem good_of (s : ByteArray) (h : s.size = 10) (h4 : 4 < s.size) (h7 : 7 < s.size) (d4 : s[4].toNat = 45) (d7 : s[7].toNat = 45)
    (hd : (ds (s.extract 0 4) && ds (s.extract 5 7) && ds (s.extract 8 s.size)) = true) : s = txt (dv (s.extract 0 4)) (dv (s.extract 5 7)) (dv (s.extract 8 s.size)) := by
  obtain ⟨b0, b1, b2, b3, b4, b5, b6, b7, b8, b9, rfl⟩ := ten_bytes s h
  have e4 : b4.toNat = 45 := d4
  have e7 : b7.toNat = 45 := d7
  have f4 : b4 = 45 := UInt8.toNat_inj.1 e4
  have f7 : b7 = 45 := UInt8.toNat_inj.1 e7
  subst f4 f7
  have p0 : (ByteArray.mk #[b0, b1, b2, b3, 45, b5, b6, 45, b8, b9]).extract 0 4 = ⟨#[b0, b1, b2, b3]⟩ := ext_list (by rw [Lib.extract_data]; rfl)
  have p1 : (ByteArray.mk #[b0, b1, b2, b3, 45, b5, b6, 45, b8, b9]).extract 5 7 = ⟨#[b5, b6]⟩ := ext_list (by rw [Lib.extract_data]; rfl)
  have p2 : (ByteArray.mk #[b0, b1, b2, b3, 45, b5, b6, 45, b8, b9]).extract 8 (ByteArray.mk #[b0, b1, b2, b3, 45, b5, b6, 45, b8, b9]).size = ⟨#[b8, b9]⟩ := ext_list (by rw [Lib.extract_data]; rfl)
  rw [p0, p1, p2] at hd ⊢
  simp only [Bool.and_eq_true] at hd
  obtain ⟨⟨q0, q1⟩, q2⟩ := hd
  have v0 : dv ⟨#[b0, b1, b2, b3]⟩ = (((0 * 10 + ((b0.toNat : Int) - 48)) * 10 + ((b1.toNat : Int) - 48)) * 10 + ((b2.toNat : Int) - 48)) * 10 + ((b3.toNat : Int) - 48) := by
    unfold dv; rw [if_pos q0]; rfl
  have v1 : dv ⟨#[b5, b6]⟩ = (0 * 10 + ((b5.toNat : Int) - 48)) * 10 + ((b6.toNat : Int) - 48) := by
    unfold dv; rw [if_pos q1]; rfl
  have v2 : dv ⟨#[b8, b9]⟩ = (0 * 10 + ((b8.toNat : Int) - 48)) * 10 + ((b9.toNat : Int) - 48) := by
    unfold dv; rw [if_pos q2]; rfl
  have a0 : ([b0, b1, b2, b3].all isd) = true := q0
  have a1 : ([b5, b6].all isd) = true := q1
  have a2 : ([b8, b9].all isd) = true := q2
  simp only [List.all_cons, List.all_nil, Bool.and_true, Bool.and_eq_true] at a0 a1 a2
  obtain ⟨i0, i1, i2, i3⟩ := a0
  obtain ⟨i5, i6⟩ := a1
  obtain ⟨i8, i9⟩ := a2
  have j0 := (isd_iff _).1 i0
  have j1 := (isd_iff _).1 i1
  have j2 := (isd_iff _).1 i2
  have j3 := (isd_iff _).1 i3
  have j5 := (isd_iff _).1 i5
  have j6 := (isd_iff _).1 i6
  have j8 := (isd_iff _).1 i8
  have j9 := (isd_iff _).1 i9
  rw [v0, v1, v2]
  unfold txt
  rw [dig_of b0 i0 _ (by omega), dig_of b1 i1 _ (by omega), dig_of b2 i2 _ (by omega), dig_of b3 i3 _ (by omega), dig_of b5 i5 _ (by omega), dig_of b6 i6 _ (by omega), dig_of b8 i8 _ (by omega), dig_of b9 i9 _ (by omega)]

theorem bad_date (s : ByteArray) (hg : ¬ Good s) (h : s.size = 10) (h4 : 4 < s.size) (h7 : 7 < s.size) (d4 : s[4].toNat = 45) (d7 : s[7].toNat = 45)
    (hd : (ds (s.extract 0 4) && ds (s.extract 5 7) && ds (s.extract 8 s.size)) = true) :
    dv (s.extract 0 4) < 1 ∨ dv (s.extract 5 7) < 1 ∨ 12 < dv (s.extract 5 7) ∨ dv (s.extract 8 s.size) < 1 ∨ Cal.dim (dv (s.extract 0 4)) (dv (s.extract 5 7)) < dv (s.extract 8 s.size) := by
  have e := good_of s h h4 h7 d4 d7 hd
  have b0 := dv_bd (s.extract 0 4) 4 (by rw [piece_size s 0 4 (by omega)]; decide)
  have p : (10 : Int) ^ 4 = 10000 := by decide
  rw [p] at b0
  generalize dv (s.extract 0 4) = y at *
  generalize dv (s.extract 5 7) = m at *
  generalize dv (s.extract 8 s.size) = d at *
  by_cases c : 1 ≤ y ∧ 1 ≤ m ∧ m ≤ 12 ∧ 1 ≤ d ∧ d ≤ Cal.dim y m
  · exact absurd ⟨_, y, m, d, Cal.is_num c.1 (by omega) c.2.1 c.2.2.1 c.2.2.2.1 c.2.2.2.2, e⟩ hg
  · omega
theorem parse_bad (s : ByteArray) (w : World) (hM : Months w) (hg : ¬ Good s) (h : s.size = 10) : Calls Tryz.prog 83 #[.string s] w fun e w' => e = .returned (.tuple #[.int .i64 0, .bool false]) ∧ w = w' := by
  have h4 : 4 < s.size := by omega
  have h7 : 7 < s.size := by omega
  by_cases d4 : s[4].toNat = 45
  · by_cases d7 : s[7].toNat = 45
    · refine parse_ten s w 0 false h h4 h7 d4 d7 (fun _ => ⟨rfl, rfl⟩) (fun hd => ?_)
      have hb := bad_date s hg h h4 h7 d4 d7 hd
      refine of_no _ _ _ w hM ?_
      by_cases c : 1 ≤ dv (s.extract 0 4) ∧ dv (s.extract 0 4) ≤ 9999
      · rw [Cal.long_of c.1 c.2]
        have := Cal.dim_cases (dv (s.extract 0 4)) (dv (s.extract 5 7))
        omega
      · have e : Cal.long (dv (s.extract 0 4)) (dv (s.extract 5 7)) = 0 := by simp [Cal.long, c]
        rw [e]; omega
    · exact parse_dash7 s w h h4 h7 d4 d7
  · exact parse_dash4 s w h h4 d4
end Go.Proofs.YtjdjekpbjnkliaaGreatDoor
namespace Go.Proofs.YtjdjekpbjnkliaaGreatDoor
open Go.RowKit Go.Shelf Go.Lib
def PlainI (w : World) (A : Option Addr) (L : List Int) : Prop := (A = none ∧ L = []) ∨ ∃ b o, A = some ⟨b, o, none⟩ ∧ b < w.heap.size ∧ ∀ j (h : j < L.length), w.cell? ⟨b, o + j, none⟩ = some (.int .i64 L[j])
def PlainN (w : World) (A : Option Addr) (L : List (Int × Int)) : Prop := (A = none ∧ L = []) ∨ ∃ b o, A = some ⟨b, o, none⟩ ∧ b < w.heap.size ∧ ∀ j (h : j < L.length), w.cell? ⟨b, o + j * 2, none⟩ = some (.int .i64 L[j].1) ∧ w.cell? ⟨b, o + j * 2 + 1, none⟩ = some (.int .i64 L[j].2)
theorem addr_lit (g o k : Nat) : (⟨g, o, none⟩ : Addr).add k = ⟨g, o + k, none⟩ := by simp [Addr.add]
theorem PlainI.below {w w' : World} {A : Option Addr} {L : List Int} (h : PlainI w A L) (b : Below w.heap.size w w') : PlainI w' A L := by
  rcases h with h | ⟨g, o, rfl, h1, h2⟩
  · exact .inl h
  · exact .inr ⟨g, o, rfl, Nat.lt_of_lt_of_le h1 b.size, fun j hj => (b.cell (p := ⟨g, o + j, none⟩) h1).trans (h2 j hj)⟩
theorem PlainN.below {w w' : World} {A : Option Addr} {L : List (Int × Int)} (h : PlainN w A L) (b : Below w.heap.size w w') : PlainN w' A L := by
  rcases h with h | ⟨g, o, rfl, h1, h2⟩
  · exact .inl h
  · exact .inr ⟨g, o, rfl, Nat.lt_of_lt_of_le h1 b.size, fun j hj => ⟨(b.cell (p := ⟨g, o + j * 2, none⟩) h1).trans (h2 j hj).1, (b.cell (p := ⟨g, o + j * 2 + 1, none⟩) h1).trans (h2 j hj).2⟩⟩
theorem PlainI.ints {w : World} {A : Option Addr} {L : List Int} (h : PlainI w A L) : IntsIn w A L := fun k hk => by
  rcases h with ⟨-, rfl⟩ | ⟨g, o, rfl, h1, h2⟩
  · exact absurd hk (Nat.not_lt_zero k)
  · exact ⟨_, rfl, h1, by rw [addr_lit]; exact h2 k hk⟩
theorem PlainN.nths {w : World} {A : Option Addr} {L : List (Int × Int)} (h : PlainN w A L) : NthsIn w A L := fun k hk => by
  rcases h with ⟨-, rfl⟩ | ⟨g, o, rfl, h1, h2⟩
  · exact absurd hk (Nat.not_lt_zero k)
  · exact ⟨_, rfl, h1, by rw [addr_lit]; exact (h2 k hk).1, by rw [addr_lit, addr_lit]; exact (h2 k hk).2⟩
theorem OwnI.plain {w : World} {base c : Nat} {A : Option Addr} {L : List Int} (h : OwnI w base (.slice A L.length c) L) : PlainI w A L := by
  rcases h.2 with ⟨e, hn⟩ | ⟨g, cap, cur, e, hb, hg, h1, h2, h3, h4⟩
  · obtain ⟨rfl, -, -⟩ := Value.slice.inj e
    exact .inl ⟨rfl, List.eq_nil_of_length_eq_zero hn⟩
  · obtain ⟨rfl, -, -⟩ := Value.slice.inj e
    obtain ⟨A', cap', e', -, -, hi⟩ := h.ints
    obtain ⟨rfl, -, -⟩ := Value.slice.inj e'
    refine .inr ⟨g, 0, rfl, (Array.getElem?_eq_some_iff.1 hg).1, fun j hj => ?_⟩
    obtain ⟨ad, e, -, hc⟩ := hi j hj
    obtain rfl := Option.some.inj e
    rw [addr_lit] at hc
    exact hc
theorem OwnN.plain {w : World} {base c : Nat} {A : Option Addr} {L : List (Int × Int)} (h : OwnN w base (.slice A L.length c) L) : PlainN w A L := by
  rcases h.2 with ⟨e, hn⟩ | ⟨g, cap, cur, e, hb, hg, h1, h2, h3, h4⟩
  · obtain ⟨rfl, -, -⟩ := Value.slice.inj e
    exact .inl ⟨rfl, List.eq_nil_of_length_eq_zero hn⟩
  · obtain ⟨rfl, -, -⟩ := Value.slice.inj e
    obtain ⟨A', cap', e', -, -, hi⟩ := h.nths
    obtain ⟨rfl, -, -⟩ := Value.slice.inj e'
    refine .inr ⟨g, 0, rfl, (Array.getElem?_eq_some_iff.1 hg).1, fun j hj => ?_⟩
    obtain ⟨ad, e, -, hc, hd⟩ := hi j hj
    obtain rfl := Option.some.inj e
    rw [addr_lit] at hc
    rw [addr_lit, addr_lit] at hd
    exact ⟨hc, hd⟩
theorem below_drewN' {w : World} (n : Nat) : Below w.heap.size w (w.drewN n) := below_drewN (Below.refl _ _) n
theorem eqI_any (A B : Option Addr) (c d : Nat) (L K : List Int) (w : World) (hA : PlainI w A L) (hB : PlainI w B K) (lL : L.length ≤ maxLen) (lK : K.length ≤ maxLen) :
    Calls Tryz.prog 25 #[.slice A L.length c, .slice B K.length d] w fun e w' => ∃ v, e = .returned v ∧ v = .bool (L == K) ∧ Below w.heap.size w w' := by
  unfold maxLen at lL lK
  by_cases h0 : L.length = 0
  · obtain rfl : L = [] := List.eq_nil_of_length_eq_zero h0
    refine (Tryz.slices_Equal_int_empty A B c K.length d w (by omega)).mono ?_
    rintro e w' ⟨rfl, rfl⟩
    refine ⟨_, rfl, ?_, Below.refl _ _⟩
    cases K <;> simp
  · by_cases hn : L.length = K.length
    · rcases hA with ⟨-, rfl⟩ | ⟨b1, o1, rfl, -, hc1⟩
      · exact absurd rfl h0
      · rcases hB with ⟨-, rfl⟩ | ⟨b2, o2, rfl, -, hc2⟩
        · exact absurd hn h0
        · refine (Tryz.slices_Equal_int b1 o1 L.length c b2 o2 K.length d L K w (Nat.le_refl _) (Nat.le_refl _) (by omega) (by omega) (fun j hj => by rw [hc1 j hj]; simp [hj]) (fun j hj => by rw [hc2 j hj]; simp [hj])).mono ?_
          rintro e w' ⟨rfl, q, rfl⟩
          refine ⟨_, rfl, ?_, below_drewN' q⟩
          rw [List.take_length, List.take_length]
    · refine (Tryz.slices_Equal_int_lens A B L.length c K.length d w hn).mono ?_
      rintro e w' ⟨rfl, rfl⟩
      refine ⟨_, rfl, ?_, Below.refl _ _⟩
      have : (L == K) = false := by
        rw [beq_eq_false_iff_ne]
        intro e
        exact hn (by rw [e])
      rw [this]
theorem neN : NeqAt Tryz.prog 50 (fun x => .agg (encN x).toArray) (fun x y => x.1 == y.1 && x.2 == y.2) := by
  refine ⟨fun x y w => ?_, GuardAt.agg _ (by kernel_rfl)⟩
  have u3 := Tryz.underlying3
  have a3 := Tryz.isAgg3
  have z3 := Tryz.sizeOf3
  have hS : Tryz.prog.underlying 50 = some (.struct (Tryz.prog.fieldsOf 50)) := by kernel_rfl
  have hp : Tryz.prog.stoodInHeld 50 = false := by kernel_rfl
  simp only [encN]
  rw [run_neq_struct, show (10000 : Nat) = 9999 + 1 from rfl, run_equalIn_agg w 9999 50 _ _ hS hp]
  simp only [Program.fieldsOf, Tryz.underlying50]
  go_simp
  by_cases h1 : x.fst = y.fst <;> by_cases h2 : x.snd = y.snd <;> simp [h1, h2]
theorem equalN_lens (A B : Option Addr) (n c m d : Nat) (w : World) (h : n ≠ m) : Calls Tryz.prog 26 #[.slice A n c, .slice B m d] w fun e w' => e = .returned (.bool false) ∧ w = w' := by
  have h' : ((n : Int) != (m : Int)) = true := by simp; omega
  go_enter Tryz.func26, Tryz.ntmps26
  go_wp2
  go_ret
  exact ⟨rfl, rfl⟩
theorem equalN_empty (A B : Option Addr) (c d : Nat) (w : World) : Calls Tryz.prog 26 #[.slice A 0 c, .slice B 0 d] w fun e w' => e = .returned (.bool true) ∧ w = w' := by
  go_enter Tryz.func26, Tryz.ntmps26
  go_wp2_with fail
  go_loop [13] (fun k => k = .int .i64 0) (fun _ => 0)
  case atStart => rfl
  case round =>
    subst hrel
    go_wp2
    go_ret
    exact ⟨rfl, rfl⟩
theorem allEq_beq : ∀ (L K : List (Int × Int)), Lib.allEq (fun x y => x.1 == y.1 && x.2 == y.2) L K = (L == K)
  | [], [] => rfl
  | [], _ :: _ => rfl
  | _ :: _, [] => rfl
  | x :: L, y :: K => by
    have := allEq_beq L K
    simp only [Lib.allEq, this]
    rfl
theorem eqN_any (A B : Option Addr) (c d : Nat) (L K : List (Int × Int)) (w : World) (hA : PlainN w A L) (hB : PlainN w B K) (lL : L.length ≤ maxLen) (lK : K.length ≤ maxLen) :
    Calls Tryz.prog 26 #[.slice A L.length c, .slice B K.length d] w fun e w' => ∃ v, e = .returned v ∧ v = .bool (L == K) ∧ Below w.heap.size w w' := by
  unfold maxLen at lL lK
  by_cases hn : L.length = K.length
  · by_cases h0 : L.length = 0
    · obtain rfl : L = [] := List.eq_nil_of_length_eq_zero h0
      obtain rfl : K = [] := List.eq_nil_of_length_eq_zero hn.symm
      refine (equalN_empty A B c d w).mono ?_
      rintro e w' ⟨rfl, rfl⟩
      exact ⟨_, rfl, rfl, Below.refl _ _⟩
    · rcases hA with ⟨-, rfl⟩ | ⟨b1, o1, rfl, -, hc1⟩
      · exact absurd rfl h0
      · rcases hB with ⟨-, rfl⟩ | ⟨b2, o2, rfl, -, hc2⟩
        · exact absurd hn h0
        · have cellN : ∀ (b o : Nat) (X : List (Int × Int)), (∀ j (h : j < X.length), w.cell? ⟨b, o + j * 2, none⟩ = some (.int .i64 X[j].1) ∧ w.cell? ⟨b, o + j * 2 + 1, none⟩ = some (.int .i64 X[j].2)) → ∀ j, j < X.length → ∀ i v, (encN X[j]!)[i]? = some v → w.cell? ⟨b, o + j * 2 + i, none⟩ = some v := by
            intro b o X hX j hj i v hv
            have ej : X[j]! = X[j] := getElem!_pos X j hj
            rw [ej] at hv
            match i with
            | 0 => obtain rfl : Value.int .i64 X[j].1 = v := by simpa [encN] using hv
                   exact (hX j hj).1
            | 1 => obtain rfl : Value.int .i64 X[j].2 = v := by simpa [encN] using hv
                   exact (hX j hj).2
            | i + 2 => simp [encN] at hv
          have hc := AnyQ.slices_Equal Tryz.equalN 2 Tryz.isAgg50 Tryz.sizeOf50 encN (fun _ => rfl) (fun x y => x.1 == y.1 && x.2 == y.2) neN b1 o1 L.length c b2 o2 K.length d L K w (Nat.le_refl _) (Nat.le_refl _) (by omega) (by omega) (cellN b1 o1 L hc1) (cellN b2 o2 K hc2)
          change Calls Tryz.prog 26 _ _ _ at hc
          rw [List.take_length, List.take_length, allEq_beq] at hc
          refine hc.mono ?_
          rintro e w' ⟨rfl, q, rfl⟩
          exact ⟨_, rfl, rfl, below_drewN' q⟩
  · refine (equalN_lens A B L.length c K.length d w hn).mono ?_
    rintro e w' ⟨rfl, rfl⟩
    refine ⟨_, rfl, ?_, Below.refl _ _⟩
    have : (L == K) = false := by
      rw [beq_eq_false_iff_ne]
      intro e
      exact hn (by rw [e])
    rw [this]
structure PlainR (w : World) (A1 A2 A3 A4 : Option Addr) (M D : List Int) (K : List (Int × Int)) (P : List Int) : Prop where
  m : PlainI w A1 M
  d : PlainI w A2 D
  k : PlainN w A3 K
  p : PlainI w A4 P
  lm : M.length ≤ maxLen
  ld : D.length ≤ maxLen
  lk : K.length ≤ maxLen
  lp : P.length ≤ maxLen
theorem PlainR.below {w w' : World} {A1 A2 A3 A4 : Option Addr} {M D : List Int} {K : List (Int × Int)} {P : List Int} (h : PlainR w A1 A2 A3 A4 M D K P) (b : Below w.heap.size w w') : PlainR w' A1 A2 A3 A4 M D K P :=
  ⟨h.m.below b, h.d.below b, h.k.below b, h.p.below b, h.lm, h.ld, h.lk, h.lp⟩
theorem PlainR.lists {w : World} {A1 A2 A3 A4 : Option Addr} {M D : List Int} {K : List (Int × Int)} {P : List Int} (h : PlainR w A1 A2 A3 A4 M D K P) : ListsIn w A1 A2 A3 A4 M D K P :=
  ⟨h.m.ints, h.d.ints, h.k.nths, h.p.ints, h.lm, h.ld, h.lk, h.lp⟩
def sameB (f iv c u : Int) (M D : List Int) (K : List (Int × Int)) (P : List Int) (f' iv' c' u' : Int) (M' D' : List Int) (K' : List (Int × Int)) (P' : List Int) : Bool :=
  f == f' && iv == iv' && c == c' && u == u' && M == M' && D == D' && K == K' && P == P'
theorem sameB_self (f iv c u : Int) (M D : List Int) (K : List (Int × Int)) (P : List Int) : sameB f iv c u M D K P f iv c u M D K P = true := by simp [sameB]
section
variable {w : World} {ρ : Operand → Value} {o : Oper} {x y : Operand} {v u : Value}
theorem c_EqualI (ho : o.op = .call ⟨.value (.func 25), #[x, y], #[25, 25]⟩) (hf : ρ (.func 25) = .func (.func 25) #[] #[]) (hx : ρ x = v) (hy : ρ y = u) : (execOp ρ o).run Tryz.prog w = .ok (.enter 25 #[v, u]) w := by
  simp only [execOp, ho]
  go_simp
theorem c_EqualN (ho : o.op = .call ⟨.value (.func 26), #[x, y], #[26, 26]⟩) (hf : ρ (.func 26) = .func (.func 26) #[] #[]) (hx : ρ x = v) (hy : ρ y = u) : (execOp ρ o).run Tryz.prog w = .ok (.enter 26 #[v, u]) w := by
  simp only [execOp, ho]
  go_simp
theorem k_boxR {cs : Array Value} (ho : o.op = .box 28 x) (hx : ρ x = .agg cs) : (execOp ρ o).run Tryz.prog w = .ok (.value (.pointer (some ⟨w.heap.size, 0, none⟩))) (w.alloc (.cells cs 28)) := by
  simp only [execOp, ho, hx]
  go_simp
theorem o_eqU {n m : Int} {q : Bool} (ho : o.op = .binOp .eql 24 x y 24) (hx : ρ x = .int .i64 n) (hy : ρ y = .int .i64 m) (hr : (n == m) = q) : (execOp ρ o).run Tryz.prog w = .ok (.value (.bool q)) w := by
  subst hr
  simp only [execOp, ho, hx, hy]
  go_simp
end
section
variable {P : Program} {ops : Array Oper} {Q : Exit → Act → World → Prop} {a : Act} {w : World}
theorem wanted_is {o : Oper} {t : Array Value} {j d : Nat} {b : Bool} (hg : o.guard = some (j, true)) (hj : (ops[j]?).bind (·.dst) = some d) (hv : t.getD d undef = .bool b) : Region.wanted o (yielded ops t) = b :=
  (wanted_at hg hj hv).trans (by cases b <;> rfl)
theorem bif_at {b : Bool} {x v u : Value} (h : x = (bif b then v else u)) (hb : b = true) : x = v := by rw [h, hb]; rfl
theorem opG (i d : Nat) (b : Bool) {v : Value} {rest : List Nat} (hd : (ops[i]?).map (·.dst) = some (some d)) (hz : d < a.tmps.size)
    (hy : ∀ o, ops[i]? = some o → Region.wanted o (yielded ops a.tmps) = b ∧ (b = true → (execOp a.eval o).run P w = .ok (.value v) w))
    (h : ∀ a' : Act, Fr d (bif b then v else undef) a a' → wpOps P ops Q rest a' w) : wpOps P ops Q (i :: rest) a w := by
  cases b
  · exact opL_not i d hd hz (fun o ho => (hy o ho).1) h
  · exact opL i d hd hz (fun o ho => ⟨(hy o ho).1, (hy o ho).2 rfl⟩) h
theorem opG_call (i d : Nat) (b : Bool) {f : FuncId} {args : Array Value} {r : Value} {rest : List Nat} (hd : (ops[i]?).map (·.dst) = some (some d)) (hz : d < a.tmps.size)
    (hy : ∀ o, ops[i]? = some o → Region.wanted o (yielded ops a.tmps) = b ∧ (b = true → (execOp a.eval o).run P w = .ok (.enter f args) w))
    (hc : Calls P f args w fun e w' => ∃ v, e = .returned v ∧ v = r ∧ Below w.heap.size w w')
    (h : ∀ (w' : World) (a' : Act), Below w.heap.size w w' → Fr d (bif b then r else undef) a a' → wpOps P ops Q rest a' w') : wpOps P ops Q (i :: rest) a w := by
  cases b
  · exact opL_not i d hd hz (fun o ho => (hy o ho).1) (h w · (Below.refl _ _))
  · refine opL_call i d hd hz (fun o ho => ⟨(hy o ho).1, (hy o ho).2 rfl⟩) hc ?_
    rintro _ w' a' ⟨rfl, hb⟩ hF
    exact h w' a' hb hF
theorem k_pick_and {ρ : Operand → Value} {o : Oper} {c x : Operand} {p t : Bool} (ho : o.op = .pick c x (.const (.bool false))) (hc : ρ c = .bool p) (hx : ρ x = (bif p then .bool t else undef)) (hf : ρ (.const (.bool false)) = .bool false) : (execOp ρ o).run P w = .ok (.value (.bool (p && t))) w := by
  cases p
  · exact k_pick_no ho hc hf
  · exact k_pick_yes ho hc hx
end
end Go.Proofs.YtjdjekpbjnkliaaGreatDoor
