/-
  The law's own list: numbers, commas between.
-/
import Derived.Test.YtjdjekpbjnkliaaGreatDoorRf2
import Derived.Test.YtjdjekpbjnkliaaGreatDoorRb6
import Derived.Test.YtjdjekpbjnkliaaGreatDoorRb3
namespace Go.Proofs.YtjdjekpbjnkliaaGreatDoor
open Go.RowKit
theorem NumO.some {s : List UInt8} {v : Value} {y : Int} (h : NumO s v) (e : Rfc.pnum s = some y) : v = .tuple #[.int .i64 y, .bool true] := by
  obtain ⟨x, b, rfl, p1, p2⟩ := h
  cases b with
  | false => have := p2 rfl; rw [e] at this; cases this
  | true => have := p1 rfl; rw [e] at this; rw [Option.some.inj this]
theorem NumO.none {s : List UInt8} {v : Value} (h : NumO s v) (e : Rfc.pnum s = none) : ∃ x, v = .tuple #[.int .i64 x, .bool false] := by
  obtain ⟨x, b, rfl, p1, p2⟩ := h
  cases b with
  | false => exact ⟨x, rfl⟩
  | true => have := p1 rfl; rw [e] at this; cases this
theorem c_lNumber {w : World} {ρ : Operand → Value} {o : Oper} {x : Operand} {v : Value} (ho : o.op = .call ⟨.value (.func 56), #[x], #[9]⟩) (hf : ρ (.func 56) = .func (.func 56) #[] #[]) (hx : ρ x = v) : (execOp ρ o).run Tryz.prog w = .ok (.enter 56 #[v]) w := by
  simp only [execOp, ho]
  go_simp
noncomputable def lliBody : Code := Tryz.f60.body.getD .skip
noncomputable def lliRound : Code := (Tryz.f60.body.bind loopC).getD .skip
structure LsL (w w1 : World) (s : List UInt8) (i : Nat) (L : List Int) (A : Option Addr) (cap : Nat) (a : Act) (wx : World) : Prop where
  d : a.defers = []
  z : a.tmps.size = 29
  s4 : a.tmps.getD 4 undef = .slice A L.length cap
  s10 : a.tmps.getD 10 undef = .slice (some ⟨w.heap.size, 0, none⟩) (Rfc.spl s 44).length (Rfc.spl s 44).length
  s11 : a.tmps.getD 11 undef = .int .i64 (Rfc.spl s 44).length
  s12 : a.tmps.getD 12 undef = .int .i64 i
  iN : i ≤ (Rfc.spl s 44).length
  m : Rfc.mm Rfc.pnum ((Rfc.spl s 44).take i) = some L
  lL : L.length ≤ i
  o : OwnI wx w1.heap.size (.slice A L.length cap) L
  B : Blk wx w.heap.size 9 ((Rfc.spl s 44).map fun x => Value.string ⟨x.toArray⟩).toArray
  zz : w.heap.size < w1.heap.size ∧ w1.heap.size ≤ wx.heap.size
  b : Below w.heap.size w wx

set_option maxRecDepth 100000 in
set_option maxHeartbeats 1000000 in
theorem lli_ok (w w1 : World) (s : List UInt8) (hl : s.length ≤ 100000) (i : Nat) (L : List Int) (A : Option Addr) (cap : Nat) (a : Act) (wx : World) (Q : Exit → Act → World → Prop) (J : LsL w w1 s i L A cap a wx) (hlt : i < (Rfc.spl s 44).length) (y : Int) (hg : Rfc.pnum ((Rfc.spl s 44)[i]) = some y) :
    lliRound.wp Tryz.prog (Exit.then (fun a' w' => (∃ i L A cap, LsL w w1 s i L A cap a' w') ∧ ((Rfc.spl s 44).length - intOf (a'.tmps.getD 12 undef)).toNat < ((Rfc.spl s 44).length - intOf (a.tmps.getD 12 undef)).toNat) Q) a wx := by
  obtain ⟨hd, hs, h4, h10, h11, h12, hi, hm, lL, hO, hB, zz, hb⟩ := J
  have kk := ((((kn hs hd).p h4).p h10).p h11).p h12; clear hs hd h4 h10 h11 h12
  have hcell : wx.cell? ⟨w.heap.size, i, none⟩ = some (.string ⟨(((Rfc.spl s 44)[i])).toArray⟩) := by rw [hB.cell i]; simp [hlt]
  have hspl : (Rfc.spl s 44).length ≤ 100001 := by
    rw [spl_len]
    have := Lib.countB_le ⟨#[44]⟩ (Nat.le_refl 1) _ ⟨s.toArray⟩ (Nat.le_refl _)
    rw [ba_size] at this
    omega
  have e12 := (kk.g 12 rfl)
  rw [e12]
  clear e12
  unfold lliRound
  conv => arg 2; whnf
  refine wp_seq ?_
  refine wpr 1 ?_
  refine opk 0 13 (v := .bool true) kk (frY rfl (o_ltI rfl (kk.e 12 rfl) (kk.e 11 rfl) (decide_eq_true (by omega)))) ?_; clear kk; intro a kk
  refine wp_seq ?_
  refine wp_cond_true (kk.e 13 rfl) ?_
  refine wp_skip ?_
  refine wp_seq ?_
  refine wp_block ?_
  refine wp_seq ?_
  refine wpr 3 ?_
  refine opk 0 14 (v := .pointer (some ⟨w.heap.size, i, none⟩)) kk (frY rfl (k_atS' rfl (kk.e 10 rfl) (kk.e 12 rfl) hlt)) ?_; clear kk; intro a kk
  refine opk 1 15 (v := .string ⟨(((Rfc.spl s 44)[i])).toArray⟩) kk (frY rfl (k_loadStr rfl (kk.e 14 rfl) hcell)) ?_; clear kk; intro a kk
  refine opk 2 6 kk (frY rfl (k_assign rfl (kk.e 15 rfl))) ?_; clear kk; intro a kk
  refine wp_seq ?_
  refine wpr 7 ?_
  refine opk 0 17 kk (frY rfl (k_move rfl (kk.e 6 rfl))) ?_; clear kk; intro a kk
  have hc := lnumber_any ((Rfc.spl s 44)[i]) wx
  refine opkc 1 18 kk hc (frY rfl (c_lNumber rfl rfl (kk.e 17 rfl))) ?_; clear kk hc
  rintro v2 w2 a ⟨hN, l2⟩ F0
  obtain rfl := hN.some hg
  have kk := F0; clear F0
  replace hO := hO.below l2
  replace hB := hB.below l2 hB.lt
  replace hb := hb.trans (l2.mono hb.size)
  have z2 : w1.heap.size ≤ w2.heap.size := Nat.le_trans zz.2 l2.size
  refine opk 2 16 kk (frY rfl (k_move rfl (kk.e 18 rfl))) ?_; clear kk; intro a kk
  refine opk 3 19 (v := .int .i64 y) kk (frY rfl (k_extract rfl (kk.e 16 rfl) rfl)) ?_; clear kk; intro a kk
  refine opk 4 20 (v := .bool true) kk (frY rfl (k_extract rfl (kk.e 16 rfl) rfl)) ?_; clear kk; intro a kk
  refine opk 5 7 kk (frY rfl (k_assign rfl (kk.e 19 rfl))) ?_; clear kk; intro a kk
  refine opk 6 8 kk (frY rfl (k_assign rfl (kk.e 20 rfl))) ?_; clear kk; intro a kk
  refine wp_seq ?_
  refine wp_seq ?_
  refine wpr 2 ?_
  refine opk 0 21 kk (frY rfl (k_move rfl (kk.e 8 rfl))) ?_; clear kk; intro a kk
  refine opk 1 22 (v := .bool false) kk (frY rfl (o_not rfl (kk.e 21 rfl) rfl)) ?_; clear kk; intro a kk
  refine wp_cond_false (kk.e 22 rfl) ?_
  refine wp_skip ?_
  refine wpr 5 ?_
  refine opk 0 23 kk (frY rfl (k_move rfl (kk.e 4 rfl))) ?_; clear kk; intro a kk
  refine opk 1 24 kk (frY rfl (k_move rfl (kk.e 7 rfl))) ?_; clear kk; intro a kk
  refine opk 2 25 (v := .slice (some ⟨w2.heap.size, 0, none⟩) 1 1) (w' := (w2.alloc (.cells #[.int .i64 y] 3))) kk (frY rfl (k_slice1 rfl (kk.e 24 rfl))) ?_; clear kk; intro a kk
  obtain ⟨w3, hw3⟩ : ∃ wn, wn = w2.alloc (.cells #[.int .i64 y] 3) := ⟨_, rfl⟩
  rw [← hw3]
  have q3 : Blk w3 w2.heap.size 3 #[.int .i64 y] := by rw [hw3]; exact Blk.alloc _ _ _
  have l3 : Below w2.heap.size w2 w3 := by rw [hw3]; exact (Below.refl _ _).alloc (Nat.le_refl _) _
  clear hw3
  replace hO := hO.below l3
  replace hB := hB.below l3 hB.lt
  replace hb := hb.trans (l3.mono hb.size)
  have z3 : w1.heap.size ≤ w3.heap.size := Nat.le_trans z2 l3.size
  obtain ⟨v', w4, hr, hO4, b4, z4⟩ := append_int_b (c := 1) hO (q3.cell 0) (by omega) z3
  obtain ⟨A', cap', rfl, -, -, -⟩ := hO4.ints
  refine opk 3 26 (v := .slice A' (L ++ [y]).length cap') kk (frY rfl (k_append rfl rfl (kk.e 23 rfl) (kk.e 25 rfl) hr)) ?_; clear kk; intro a kk
  have hB4 := hB.below b4 zz.1
  have hb4 := hb.trans (b4.mono (Nat.le_of_lt zz.1))
  replace kk := kk.keep [26, 8, 7, 16, 6, 12, 11, 10] rfl
  refine opk 4 4 kk (frY rfl (k_assign rfl (kk.e 26 rfl))) ?_; clear kk; intro a kk
  refine wpr 2 ?_
  refine opk 0 27 (v := .int .i64 (i + 1 : Nat)) kk (frY rfl (o_addI rfl (kk.e 12 rfl) rfl (wrap_small (n := (i : Int) + 1) (by omega) (by omega)))) ?_; clear kk; intro a kk
  replace kk := kk.keep [27, 4, 8, 7, 16, 6, 11, 10] rfl
  refine opk 1 12 kk (frY rfl (k_move rfl (kk.e 27 rfl))) ?_; clear kk; intro a kk
  refine ⟨⟨i + 1, L ++ [y], A', cap', kk.d, kk.z, (kk.g 4 rfl), (kk.g 10 rfl), (kk.g 11 rfl), (kk.g 12 rfl), hlt, ?_, by simp; omega, hO4, hB4, ⟨zz.1, by omega⟩, hb4⟩, ?_⟩
  ·
    rw [List.take_succ_eq_append_getElem hlt]
    exact Rfc.mm_snoc Rfc.pnum _ _ L y hm hg
  ·
    rw [(kk.g 12 rfl)]
    simp only [intOf]
    omega

set_option maxRecDepth 100000 in
set_option maxHeartbeats 1000000 in
theorem lli_bad (w w1 : World) (s : List UInt8) (hl : s.length ≤ 100000) (i : Nat) (L : List Int) (A : Option Addr) (cap : Nat) (a : Act) (wx : World) (Q : Exit → Act → World → Prop) (J : LsL w w1 s i L A cap a wx) (hlt : i < (Rfc.spl s 44).length) (hg : Rfc.pnum ((Rfc.spl s 44)[i]) = none) (hfin : ∀ (a' : Act) (w' : World), a'.defers = [] → a'.tmps.getD 2 undef = .slice none 0 0 → a'.tmps.getD 3 undef = .bool false → Rfc.plistI s = none → Below w.heap.size w w' → Q .ret a' w') :
    lliRound.wp Tryz.prog (Exit.then (fun a' w' => (∃ i L A cap, LsL w w1 s i L A cap a' w') ∧ ((Rfc.spl s 44).length - intOf (a'.tmps.getD 12 undef)).toNat < ((Rfc.spl s 44).length - intOf (a.tmps.getD 12 undef)).toNat) Q) a wx := by
  obtain ⟨hd, hs, h4, h10, h11, h12, hi, hm, lL, hO, hB, zz, hb⟩ := J
  have kk := ((((kn hs hd).p h4).p h10).p h11).p h12; clear hs hd h4 h10 h11 h12
  have hcell : wx.cell? ⟨w.heap.size, i, none⟩ = some (.string ⟨(((Rfc.spl s 44)[i])).toArray⟩) := by rw [hB.cell i]; simp [hlt]
  have hspl : (Rfc.spl s 44).length ≤ 100001 := by
    rw [spl_len]
    have := Lib.countB_le ⟨#[44]⟩ (Nat.le_refl 1) _ ⟨s.toArray⟩ (Nat.le_refl _)
    rw [ba_size] at this
    omega
  have e12 := (kk.g 12 rfl)
  rw [e12]
  clear e12
  unfold lliRound
  conv => arg 2; whnf
  refine wp_seq ?_
  refine wpr 1 ?_
  refine opk 0 13 (v := .bool true) kk (frY rfl (o_ltI rfl (kk.e 12 rfl) (kk.e 11 rfl) (decide_eq_true (by omega)))) ?_; clear kk; intro a kk
  refine wp_seq ?_
  refine wp_cond_true (kk.e 13 rfl) ?_
  refine wp_skip ?_
  refine wp_seq ?_
  refine wp_block ?_
  refine wp_seq ?_
  refine wpr 3 ?_
  refine opk 0 14 (v := .pointer (some ⟨w.heap.size, i, none⟩)) kk (frY rfl (k_atS' rfl (kk.e 10 rfl) (kk.e 12 rfl) hlt)) ?_; clear kk; intro a kk
  refine opk 1 15 (v := .string ⟨(((Rfc.spl s 44)[i])).toArray⟩) kk (frY rfl (k_loadStr rfl (kk.e 14 rfl) hcell)) ?_; clear kk; intro a kk
  refine opk 2 6 kk (frY rfl (k_assign rfl (kk.e 15 rfl))) ?_; clear kk; intro a kk
  refine wp_seq ?_
  refine wpr 7 ?_
  refine opk 0 17 kk (frY rfl (k_move rfl (kk.e 6 rfl))) ?_; clear kk; intro a kk
  have hc := lnumber_any ((Rfc.spl s 44)[i]) wx
  refine opkc 1 18 kk hc (frY rfl (c_lNumber rfl rfl (kk.e 17 rfl))) ?_; clear kk hc
  rintro v2 w2 a ⟨hN, l2⟩ F0
  obtain ⟨xx, rfl⟩ := hN.none hg
  have kk := F0; clear F0
  replace hO := hO.below l2
  replace hB := hB.below l2 hB.lt
  replace hb := hb.trans (l2.mono hb.size)
  have z2 : w1.heap.size ≤ w2.heap.size := Nat.le_trans zz.2 l2.size
  refine opk 2 16 kk (frY rfl (k_move rfl (kk.e 18 rfl))) ?_; clear kk; intro a kk
  refine opk 3 19 (v := .int .i64 xx) kk (frY rfl (k_extract rfl (kk.e 16 rfl) rfl)) ?_; clear kk; intro a kk
  refine opk 4 20 (v := .bool false) kk (frY rfl (k_extract rfl (kk.e 16 rfl) rfl)) ?_; clear kk; intro a kk
  refine opk 5 7 kk (frY rfl (k_assign rfl (kk.e 19 rfl))) ?_; clear kk; intro a kk
  refine opk 6 8 kk (frY rfl (k_assign rfl (kk.e 20 rfl))) ?_; clear kk; intro a kk
  refine wp_seq ?_
  refine wp_seq ?_
  refine wpr 2 ?_
  refine opk 0 21 kk (frY rfl (k_move rfl (kk.e 8 rfl))) ?_; clear kk; intro a kk
  refine opk 1 22 (v := .bool true) kk (frY rfl (o_not rfl (kk.e 21 rfl) rfl)) ?_; clear kk; intro a kk
  refine wp_cond_true (kk.e 22 rfl) ?_
  refine wp_seq ?_
  refine wpr 2 ?_
  refine opk 0 2 (v := .slice none 0 0) kk (frY rfl (k_assign rfl rfl)) ?_; clear kk; intro a kk
  refine opk 1 3 (v := .bool false) kk (frY rfl (k_assign rfl rfl)) ?_; clear kk; intro a kk
  refine wp_ret ?_
  exact hfin a _ kk.d (kk.g 2 rfl) (kk.g 3 rfl) (Rfc.mm_fail Rfc.pnum _ i hlt hg) hb

set_option maxRecDepth 100000 in
set_option maxHeartbeats 1000000 in
theorem llist_any (s : List UInt8) (w : World) (hT : Tabs w) (hl : s.length ≤ 100000) :
    Calls Tryz.prog 60 #[.string ⟨(s).toArray⟩] w fun e w' => ∃ v, e = .returned v ∧ LI w' w.heap.size (Rfc.plistI s) v ∧ Below w.heap.size w w' := by
  refine calls_of_wp Tryz.func60 (show Tryz.f60.body = some lliBody from rfl) ?_
  generalize hAA : (Act.mk (#[.string ⟨(s).toArray⟩] ++ Array.replicate (Tryz.f60.ntmps - (#[.string ⟨(s).toArray⟩] : Array Value).size) undef) []) = a
  have hs : a.tmps.size = 29 := by rw [← hAA]; simp [Tryz.ntmps60]
  have hd : a.defers = [] := by rw [← hAA]
  have h0 : a.tmps.getD 0 undef = .string ⟨(s).toArray⟩ := by rw [← hAA]; simp
  clear hAA
  have kk := (kn hs hd).p h0; clear hs hd h0
  have hfin : ∀ (a' : Act) (w' : World) (x y : Value), a'.defers = [] → a'.tmps.getD 2 undef = x → a'.tmps.getD 3 undef = y → LI w' w.heap.size (Rfc.plistI s) (.tuple #[x, y]) → Below w.heap.size w w' → (bodyPost Tryz.prog Tryz.f60 fun e w' => ∃ v, e = .returned v ∧ LI w' w.heap.size (Rfc.plistI s) v ∧ Below w.heap.size w w') .ret a' w' := by
    intro a' w' x y k1 k2 k3 k4 k5
    exact ⟨k1, _, results2 rfl _ _ _, _, rfl, by rw [k2, k3]; exact k4, k5⟩
  generalize (bodyPost Tryz.prog Tryz.f60 fun e w' => ∃ v, e = .returned v ∧ LI w' w.heap.size (Rfc.plistI s) v ∧ Below w.heap.size w w') = Q at hfin
  unfold lliBody
  conv => arg 2; whnf
  refine wp_seq ?_
  refine wpr 2 ?_
  refine opk 0 2 (v := .slice none 0 0) kk (frY rfl (k_assign rfl rfl)) ?_; clear kk; intro a kk
  refine opk 1 3 (v := .bool false) kk (frY rfl (k_assign rfl rfl)) ?_; clear kk; intro a kk
  refine wp_seq ?_
  refine wpr 1 ?_
  refine opk 0 4 (v := .slice none 0 0) kk (frY rfl (k_assign rfl rfl)) ?_; clear kk; intro a kk
  refine wp_seq ?_
  refine wp_seq ?_
  refine wpr 4 ?_
  refine opk 0 9 kk (frY rfl (k_move rfl (kk.e 0 rfl))) ?_; clear kk; intro a kk
  have hc := split_any s 44 w hT hl
  refine opkc 1 10 kk hc (frY rfl (c_Split rfl rfl (kk.e 9 rfl) rfl)) ?_; clear kk hc
  rintro _ w1 a ⟨⟨rfl, q1⟩, l1⟩ F0
  have kk := F0; clear F0
  refine opk 2 11 (v := .int .i64 (Rfc.spl s 44).length) kk (frY rfl (k_lenStr rfl (kk.e 10 rfl))) ?_; clear kk; intro a kk
  refine opk 3 12 (v := .int .i64 0) kk (frY rfl (k_move rfl rfl)) ?_; clear kk; intro a kk
  refine wp_block ?_
  refine wp_loop (fun a wx => ∃ i L A cap, LsL w w1 s i L A cap a wx) (fun a _ => ((Rfc.spl s 44).length - intOf (a.tmps.getD 12 undef)).toNat) ⟨0, [], none, 0, ⟨kk.d, kk.z, (kk.g 4 rfl), (kk.g 10 rfl), (kk.g 11 rfl), (kk.g 12 rfl), Nat.zero_le _, rfl, Nat.le_refl _, OwnI.nil _ _, q1, ⟨q1.lt, Nat.le_refl _⟩, l1⟩⟩ ?_
  clear kk q1 l1 a
  rintro a wx ⟨i, L, A, cap, J⟩
  by_cases hlt : i < (Rfc.spl s 44).length
  · cases hg : Rfc.pnum ((Rfc.spl s 44)[i]) with
    | none => exact lli_bad w w1 s hl i L A cap a wx _ J hlt hg (fun a' w' k1 k2 k3 k4 k5 => hfin a' w' _ _ k1 k2 k3 (by show LI _ _ _ _; rw [k4]; rfl) k5)
    | some y => exact lli_ok w w1 s hl i L A cap a wx _ J hlt y hg
  obtain ⟨hd, hs, h4, h10, h11, h12, hi, hm, lL, hO, hB, zz, hb⟩ := J
  have kk := ((((kn hs hd).p h4).p h10).p h11).p h12; clear hs hd h4 h10 h11 h12
  obtain rfl : i = (Rfc.spl s 44).length := by omega
  rw [List.take_length] at hm
  clear hB
  refine wp_seq ?_
  refine wpr 1 ?_
  refine opk 0 13 (v := .bool false) kk (frY rfl (o_ltI rfl (kk.e 12 rfl) (kk.e 11 rfl) (decide_eq_false (by omega)))) ?_; clear kk; intro a kk
  refine wp_seq ?_
  refine wp_cond_false (kk.e 13 rfl) ?_
  refine wp_exit ?_
  change Code.wp _ _ _ _ _
  refine wp_seq ?_
  refine wpr 3 ?_
  refine opk 0 28 kk (frY rfl (k_move rfl (kk.e 4 rfl))) ?_; clear kk; intro a kk
  refine opk 1 2 kk (frY rfl (k_assign rfl (kk.e 28 rfl))) ?_; clear kk; intro a kk
  refine opk 2 3 (v := .bool true) kk (frY rfl (k_assign rfl rfl)) ?_; clear kk; intro a kk
  refine wp_ret ?_
  exact hfin a wx _ _ kk.d (kk.g 2 rfl) (kk.g 3 rfl) (by show LI _ _ _ _; rw [show Rfc.plistI s = some L from hm]; exact ⟨A, cap, rfl, hO.base (Nat.le_of_lt zz.1)⟩) hb

def StrsIn (w : World) (A : Option Addr) (L : List (List UInt8)) : Prop := ∀ k (h : k < L.length), ∃ ad : Addr, A = some ad ∧ w.cell? (ad.add k) = some (.string ⟨L[k].toArray⟩)
theorem StrsIn.below {w w' : World} {A : Option Addr} {L : List (List UInt8)} (h : StrsIn w A L) (b : Below w.heap.size w w') : StrsIn w' A L := fun k hk => by
  obtain ⟨ad, rfl, hc⟩ := h k hk
  exact ⟨ad, rfl, cell_stays hc b⟩
theorem OwnS.strs {w : World} {base c : Nat} {A : Option Addr} {L : List (List UInt8)} (h : OwnS w base (.slice A L.length c) L) : StrsIn w A L := fun k hk => by
  obtain ⟨g, rfl, -, -, hc⟩ := h.some (by rintro rfl; cases hk)
  refine ⟨_, rfl, ?_⟩
  rw [addr_lit, Nat.zero_add]
  exact hc k hk
def IxO (L : List (List UInt8)) (s : List UInt8) (v : Value) : Prop := ∃ n : Int, v = .int .i64 n ∧ ((n = -1 ∧ s ∉ L) ∨ ∃ k, ∃ h : k < L.length, n = k ∧ L[k] = s)
theorem o_geI {w : World} {ρ : Operand → Value} {o : Oper} {x y : Operand} {n m : Int} {q : Bool} (ho : o.op = .binOp .geq 3 x y 3) (hx : ρ x = .int .i64 n) (hy : ρ y = .int .i64 m) (hr : (decide (m ≤ n)) = q) : (execOp ρ o).run Tryz.prog w = .ok (.value (.bool q)) w := by
  subst hr
  simp only [execOp, ho, hx, hy]
  go_simp
theorem c_Ix {w : World} {ρ : Operand → Value} {o : Oper} {x y : Operand} {v u : Value} (ho : o.op = .call ⟨.value (.func 55), #[x, y], #[42, 9]⟩) (hf : ρ (.func 55) = .func (.func 55) #[] #[]) (hx : ρ x = v) (hy : ρ y = u) : (execOp ρ o).run Tryz.prog w = .ok (.enter 55 #[v, u]) w := by
  simp only [execOp, ho]
  go_simp
theorem c_CoS {w : World} {ρ : Operand → Value} {o : Oper} {x y : Operand} {v u : Value} (ho : o.op = .call ⟨.value (.func 22), #[x, y], #[42, 9]⟩) (hf : ρ (.func 22) = .func (.func 22) #[] #[]) (hx : ρ x = v) (hy : ρ y = u) : (execOp ρ o).run Tryz.prog w = .ok (.enter 22 #[v, u]) w := by
  simp only [execOp, ho]
  go_simp
structure LpX (A : Option Addr) (c : Nat) (L : List (List UInt8)) (s : List UInt8) (i : Nat) (a : Act) : Prop where
  d : a.defers = []
  z : a.tmps.size = 19
  s0 : a.tmps.getD 0 undef = .slice A L.length c
  s1 : a.tmps.getD 1 undef = .string ⟨(s).toArray⟩
  s7 : a.tmps.getD 7 undef = .int .i64 L.length
  s8 : a.tmps.getD 8 undef = .int .i64 i
  iN : i ≤ L.length
  no : ∀ j (h : j < L.length), j < i → L[j] ≠ s
noncomputable def lixBody : Code := Tryz.f55.body.getD .skip
noncomputable def lixRound : Code := (Tryz.f55.body.bind loopC).getD .skip

set_option maxRecDepth 100000 in
set_option maxHeartbeats 1000000 in
theorem lix_hit (A : Option Addr) (c : Nat) (L : List (List UInt8)) (s : List UInt8) (w : World) (hL : StrsIn w A L) (i : Nat) (a : Act) (Q : Exit → Act → World → Prop) (hfin : ∀ (a' : Act) (v : Value), a'.defers = [] → a'.tmps.getD 4 undef = v → IxO L s v → Q .ret a' w) (J : LpX A c L s i a) (hlt : i < L.length) (hq : L[i] = s) :
    lixRound.wp Tryz.prog (Exit.then (fun a' w' => (w = w' ∧ ∃ i, LpX A c L s i a') ∧ (L.length - intOf (a'.tmps.getD 8 undef)).toNat < (L.length - intOf (a.tmps.getD 8 undef)).toNat) Q) a w := by
  obtain ⟨hd, hs, h0, h1, h7, h8, hi, hno⟩ := J
  have kk := ((((kn hs hd).p h0).p h1).p h7).p h8; clear hs hd h0 h1 h7 h8
  obtain ⟨ad, hA, hc⟩ := hL i hlt
  subst hA
  have he : ((⟨s.toArray⟩ : ByteArray).toList == (⟨(L[i]).toArray⟩ : ByteArray).toList) = true := by
    rw [list_of_ba, list_of_ba]
    rw [hq]; simp
  have e8 := (kk.g 8 rfl)
  rw [e8]
  clear e8
  unfold lixRound
  conv => arg 2; whnf
  refine wp_seq ?_
  refine wpr 1 ?_
  refine opk 0 9 (v := .bool true) kk (frY rfl (o_ltI rfl (kk.e 8 rfl) (kk.e 7 rfl) (decide_eq_true (by omega)))) ?_; clear kk; intro a kk
  refine wp_seq ?_
  refine wp_cond_true (kk.e 9 rfl) ?_
  refine wp_skip ?_
  refine wp_seq ?_
  refine wp_block ?_
  refine wp_seq ?_
  refine wpr 2 ?_
  refine opk 0 10 kk (frY rfl (k_move rfl (kk.e 8 rfl))) ?_; clear kk; intro a kk
  refine opk 1 5 kk (frY rfl (k_assign rfl (kk.e 10 rfl))) ?_; clear kk; intro a kk
  refine wp_seq ?_
  refine wpr 6 ?_
  refine opk 0 11 kk (frY rfl (k_move rfl (kk.e 1 rfl))) ?_; clear kk; intro a kk
  refine opk 1 12 kk (frY rfl (k_move rfl (kk.e 0 rfl))) ?_; clear kk; intro a kk
  refine opk 2 13 kk (frY rfl (k_move rfl (kk.e 5 rfl))) ?_; clear kk; intro a kk
  refine opk 3 14 (v := .pointer (some (ad.add i))) kk (frY rfl (k_atSA rfl (kk.e 12 rfl) (kk.e 13 rfl) hlt)) ?_; clear kk; intro a kk
  refine opk 4 15 (v := .string ⟨(L[i]).toArray⟩) kk (frY rfl (k_loadStr rfl (kk.e 14 rfl) hc)) ?_; clear kk; intro a kk
  refine opk 5 16 (v := .bool true) kk (frY rfl (o_eqStr rfl (kk.e 11 rfl) (kk.e 15 rfl) he)) ?_; clear kk; intro a kk
  refine wp_cond_true (kk.e 16 rfl) ?_
  refine wp_seq ?_
  refine wpr 2 ?_
  refine opk 0 17 kk (frY rfl (k_move rfl (kk.e 5 rfl))) ?_; clear kk; intro a kk
  refine opk 1 4 kk (frY rfl (k_assign rfl (kk.e 17 rfl))) ?_; clear kk; intro a kk
  refine wp_ret ?_
  exact hfin a _ kk.d (kk.g 4 rfl) ⟨_, rfl, .inr ⟨i, hlt, rfl, hq⟩⟩

set_option maxRecDepth 100000 in
set_option maxHeartbeats 1000000 in
theorem lix_next (A : Option Addr) (c : Nat) (L : List (List UInt8)) (s : List UInt8) (w : World) (hL : StrsIn w A L) (hl : L.length ≤ 1000000) (i : Nat) (a : Act) (Q : Exit → Act → World → Prop) (J : LpX A c L s i a) (hlt : i < L.length) (hq : L[i] ≠ s) :
    lixRound.wp Tryz.prog (Exit.then (fun a' w' => (w = w' ∧ ∃ i, LpX A c L s i a') ∧ (L.length - intOf (a'.tmps.getD 8 undef)).toNat < (L.length - intOf (a.tmps.getD 8 undef)).toNat) Q) a w := by
  obtain ⟨hd, hs, h0, h1, h7, h8, hi, hno⟩ := J
  have kk := ((((kn hs hd).p h0).p h1).p h7).p h8; clear hs hd h0 h1 h7 h8
  obtain ⟨ad, hA, hc⟩ := hL i hlt
  subst hA
  have he : ((⟨s.toArray⟩ : ByteArray).toList == (⟨(L[i]).toArray⟩ : ByteArray).toList) = false := by
    rw [list_of_ba, list_of_ba]
    simpa using fun e => hq e.symm
  have e8 := (kk.g 8 rfl)
  rw [e8]
  clear e8
  unfold lixRound
  conv => arg 2; whnf
  refine wp_seq ?_
  refine wpr 1 ?_
  refine opk 0 9 (v := .bool true) kk (frY rfl (o_ltI rfl (kk.e 8 rfl) (kk.e 7 rfl) (decide_eq_true (by omega)))) ?_; clear kk; intro a kk
  refine wp_seq ?_
  refine wp_cond_true (kk.e 9 rfl) ?_
  refine wp_skip ?_
  refine wp_seq ?_
  refine wp_block ?_
  refine wp_seq ?_
  refine wpr 2 ?_
  refine opk 0 10 kk (frY rfl (k_move rfl (kk.e 8 rfl))) ?_; clear kk; intro a kk
  refine opk 1 5 kk (frY rfl (k_assign rfl (kk.e 10 rfl))) ?_; clear kk; intro a kk
  refine wp_seq ?_
  refine wpr 6 ?_
  refine opk 0 11 kk (frY rfl (k_move rfl (kk.e 1 rfl))) ?_; clear kk; intro a kk
  refine opk 1 12 kk (frY rfl (k_move rfl (kk.e 0 rfl))) ?_; clear kk; intro a kk
  refine opk 2 13 kk (frY rfl (k_move rfl (kk.e 5 rfl))) ?_; clear kk; intro a kk
  refine opk 3 14 (v := .pointer (some (ad.add i))) kk (frY rfl (k_atSA rfl (kk.e 12 rfl) (kk.e 13 rfl) hlt)) ?_; clear kk; intro a kk
  refine opk 4 15 (v := .string ⟨(L[i]).toArray⟩) kk (frY rfl (k_loadStr rfl (kk.e 14 rfl) hc)) ?_; clear kk; intro a kk
  refine opk 5 16 (v := .bool false) kk (frY rfl (o_eqStr rfl (kk.e 11 rfl) (kk.e 15 rfl) he)) ?_; clear kk; intro a kk
  refine wp_cond_false (kk.e 16 rfl) ?_
  refine wp_skip ?_
  refine wpr 2 ?_
  refine opk 0 18 (v := .int .i64 (i + 1 : Nat)) kk (frY rfl (o_addI rfl (kk.e 8 rfl) rfl (wrap_small (n := (i : Int) + 1) (by omega) (by omega)))) ?_; clear kk; intro a kk
  replace kk := kk.keep [18, 5, 7, 1, 0] rfl
  refine opk 1 8 kk (frY rfl (k_move rfl (kk.e 18 rfl))) ?_; clear kk; intro a kk
  refine ⟨⟨rfl, i + 1, kk.d, kk.z, (kk.g 0 rfl), (kk.g 1 rfl), (kk.g 7 rfl), (kk.g 8 rfl), hlt, fun j hj hji => ?_⟩, ?_⟩
  · by_cases e : j = i
    · subst e; exact hq
    · exact hno j hj (by omega)
  ·
    rw [(kk.g 8 rfl)]
    simp only [intOf]
    omega

set_option maxRecDepth 100000 in
set_option maxHeartbeats 1000000 in
theorem lindex_any (A : Option Addr) (c : Nat) (L : List (List UInt8)) (s : List UInt8) (w : World) (hL : StrsIn w A L) (hl : L.length ≤ 1000000) :
    Calls Tryz.prog 55 #[.slice A L.length c, .string ⟨(s).toArray⟩] w fun e w' => ∃ v, e = .returned v ∧ IxO L s v ∧ w = w' := by
  refine calls_of_wp Tryz.func55 (show Tryz.f55.body = some lixBody from rfl) ?_
  generalize hAA : (Act.mk (#[.slice A L.length c, .string ⟨(s).toArray⟩] ++ Array.replicate (Tryz.f55.ntmps - (#[.slice A L.length c, .string ⟨(s).toArray⟩] : Array Value).size) undef) []) = a
  have hs : a.tmps.size = 19 := by rw [← hAA]; simp [Tryz.ntmps55]
  have hd : a.defers = [] := by rw [← hAA]
  have h0 : a.tmps.getD 0 undef = .slice A L.length c := by rw [← hAA]; simp
  have h1 : a.tmps.getD 1 undef = .string ⟨(s).toArray⟩ := by rw [← hAA]; simp
  clear hAA
  have kk := ((kn hs hd).p h0).p h1; clear hs hd h0 h1
  have hfin : ∀ (a' : Act) (v : Value), a'.defers = [] → a'.tmps.getD 4 undef = v → IxO L s v → (bodyPost Tryz.prog Tryz.f55 fun e w' => ∃ v, e = .returned v ∧ IxO L s v ∧ w = w') .ret a' w := by
    intro a' v k1 k2 k3
    exact ⟨k1, _, results_tmp rfl _ _ _, _, rfl, by rw [k2]; exact k3, rfl⟩
  generalize (bodyPost Tryz.prog Tryz.f55 fun e w' => ∃ v, e = .returned v ∧ IxO L s v ∧ w = w') = Q at hfin
  unfold lixBody
  conv => arg 2; whnf
  refine wp_seq ?_
  refine wpr 1 ?_
  refine opk 0 4 (v := .int .i64 0) kk (frY rfl (k_assign rfl rfl)) ?_; clear kk; intro a kk
  refine wp_seq ?_
  refine wp_seq ?_
  refine wpr 3 ?_
  refine opk 0 6 kk (frY rfl (k_move rfl (kk.e 0 rfl))) ?_; clear kk; intro a kk
  refine opk 1 7 (v := .int .i64 L.length) kk (frY rfl (k_lenSS rfl (kk.e 6 rfl))) ?_; clear kk; intro a kk
  refine opk 2 8 (v := .int .i64 0) kk (frY rfl (k_move rfl rfl)) ?_; clear kk; intro a kk
  refine wp_block ?_
  refine wp_loop (fun a wx => w = wx ∧ ∃ i, LpX A c L s i a) (fun a _ => (L.length - intOf (a.tmps.getD 8 undef)).toNat) ⟨rfl, 0, ⟨kk.d, kk.z, (kk.g 0 rfl), (kk.g 1 rfl), (kk.g 7 rfl), (kk.g 8 rfl), Nat.zero_le _, fun j _ h => absurd h (Nat.not_lt_zero j)⟩⟩ ?_
  clear kk a
  rintro a wx ⟨rfl, i, J⟩
  by_cases hlt : i < L.length
  · by_cases hq : L[i] = s
    · exact lix_hit A c L s _ hL i a _ hfin J hlt hq
    · exact lix_next A c L s _ hL hl i a _ J hlt hq
  obtain ⟨hd, hs, h0, h1, h7, h8, hi, hno⟩ := J
  have kk := ((((kn hs hd).p h0).p h1).p h7).p h8; clear hs hd h0 h1 h7 h8
  obtain rfl : i = L.length := by omega
  refine wp_seq ?_
  refine wpr 1 ?_
  refine opk 0 9 (v := .bool false) kk (frY rfl (o_ltI rfl (kk.e 8 rfl) (kk.e 7 rfl) (decide_eq_false (by omega)))) ?_; clear kk; intro a kk
  refine wp_seq ?_
  refine wp_cond_false (kk.e 9 rfl) ?_
  refine wp_exit ?_
  change Code.wp _ _ _ _ _
  refine wp_seq ?_
  refine wpr 1 ?_
  refine opk 0 4 (v := .int .i64 (-1)) kk (frY rfl (k_assign rfl rfl)) ?_; clear kk; intro a kk
  refine wp_ret ?_
  exact hfin a _ kk.d (kk.g 4 rfl) ⟨_, rfl, .inl ⟨rfl, fun hm => by obtain ⟨k, hk, e⟩ := List.getElem_of_mem hm; exact hno k hk hk e⟩⟩


noncomputable def lcoBody : Code := Tryz.f22.body.getD .skip
set_option maxRecDepth 100000 in
set_option maxHeartbeats 1000000 in
theorem lcontains_any (A : Option Addr) (c : Nat) (L : List (List UInt8)) (s : List UInt8) (w : World) (hL : StrsIn w A L) (hl : L.length ≤ 1000000) :
    Calls Tryz.prog 22 #[.slice A L.length c, .string ⟨(s).toArray⟩] w fun e w' => ∃ v, e = .returned v ∧ v = .bool (decide (s ∈ L)) ∧ w = w' := by
  refine calls_of_wp Tryz.func22 (show Tryz.f22.body = some lcoBody from rfl) ?_
  generalize hAA : (Act.mk (#[.slice A L.length c, .string ⟨(s).toArray⟩] ++ Array.replicate (Tryz.f22.ntmps - (#[.slice A L.length c, .string ⟨(s).toArray⟩] : Array Value).size) undef) []) = a
  have hs : a.tmps.size = 9 := by rw [← hAA]; simp [Tryz.ntmps22]
  have hd : a.defers = [] := by rw [← hAA]
  have h0 : a.tmps.getD 0 undef = .slice A L.length c := by rw [← hAA]; simp
  have h1 : a.tmps.getD 1 undef = .string ⟨(s).toArray⟩ := by rw [← hAA]; simp
  clear hAA
  have kk := ((kn hs hd).p h0).p h1; clear hs hd h0 h1
  have hfin : ∀ (a' : Act) (v : Value), a'.defers = [] → a'.tmps.getD 4 undef = v → v = .bool (decide (s ∈ L)) → (bodyPost Tryz.prog Tryz.f22 fun e w' => ∃ v, e = .returned v ∧ v = .bool (decide (s ∈ L)) ∧ w = w') .ret a' w := by
    intro a' v k1 k2 k3
    exact ⟨k1, _, results_tmp rfl _ _ _, _, rfl, by rw [k2]; exact k3, rfl⟩
  generalize (bodyPost Tryz.prog Tryz.f22 fun e w' => ∃ v, e = .returned v ∧ v = .bool (decide (s ∈ L)) ∧ w = w') = Q at hfin
  unfold lcoBody
  conv => arg 2; whnf
  refine wp_seq ?_
  refine wpr 1 ?_
  refine opk 0 4 (v := .bool false) kk (frY rfl (k_assign rfl rfl)) ?_; clear kk; intro a kk
  refine wp_seq ?_
  refine wpr 5 ?_
  refine opk 0 5 kk (frY rfl (k_move rfl (kk.e 0 rfl))) ?_; clear kk; intro a kk
  refine opk 1 6 kk (frY rfl (k_move rfl (kk.e 1 rfl))) ?_; clear kk; intro a kk
  have hc := lindex_any A c L s w hL hl
  refine opkc 2 7 kk hc (frY rfl (c_Ix rfl rfl (kk.e 5 rfl) (kk.e 6 rfl))) ?_; clear kk hc
  rintro v7 w' a ⟨hv, hww⟩ F0
  subst hww
  obtain ⟨n, rfl, hn⟩ := hv
  have hge : decide ((0 : Int) ≤ n) = decide (s ∈ L) := by
    rcases hn with ⟨rfl, hn⟩ | ⟨k, hk, rfl, hn⟩
    ·
      rw [decide_eq_false (by omega), decide_eq_false hn]
    ·
      rw [decide_eq_true (by omega), decide_eq_true (by rw [← hn]; exact List.getElem_mem hk)]
  have kk := F0; clear F0
  refine opk 3 8 (v := .bool (decide (s ∈ L))) kk (frY rfl (o_geI rfl (kk.e 7 rfl) rfl hge)) ?_; clear kk; intro a kk
  replace kk := kk.keep [8, 1, 0] rfl
  refine opk 4 4 kk (frY rfl (k_assign rfl (kk.e 8 rfl))) ?_; clear kk; intro a kk
  refine wp_ret ?_
  exact hfin a _ kk.d (kk.g 4 rfl) rfl
end Go.Proofs.YtjdjekpbjnkliaaGreatDoor
