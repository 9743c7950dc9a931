/-
  The law's Make: the rounds of its loops over numbers.
-/
import Derived.Test.YtocpmljkmdpfkaaGreatDoorMk
import Derived.Test.YtocpmljkmdpfkaaGreatDoorFew
import Derived.Test.YtocpmljkmdpfkaaGreatDoorKmk
namespace Go.Proofs.YtocpmljkmdpfkaaGreatDoor
open Go.RowKit
/-- the loops' bodies of a text, in order -/
def loopsOf : Code → List Code
  | .loop c => c :: loopsOf c
  | .seq x y => loopsOf x ++ loopsOf y
  | .cond _ x y => loopsOf x ++ loopsOf y
  | .block _ c => loopsOf c
  | .scope c => loopsOf c
  | _ => []

structure LpI2 (ws : World) (p1 p2 p3 : Value) (A0 : Option Addr) (c0 : Nat) (l : List Int) (i : Nat) (A : Option Addr) (cap : Nat) (a : Act) (w : World) : Prop where
  d : a.defers = []
  z : a.tmps.size = 164
  s1 : a.tmps.getD 1 undef = p1
  s2 : a.tmps.getD 2 undef = p2
  s3 : a.tmps.getD 3 undef = p3
  s6 : a.tmps.getD 6 undef = .slice A (l.take i).length cap
  sl : a.tmps.getD 78 undef = .slice A0 l.length c0
  ln : a.tmps.getD 79 undef = .int .i64 l.length
  ix : a.tmps.getD 80 undef = .int .i64 i
  iN : i ≤ l.length
  o : OwnI w ws.heap.size (.slice A (l.take i).length cap) (l.take i)
  b : Below ws.heap.size ws w
noncomputable def mkRound2 : Code := ((Tryz.f9.body.map loopsOf).getD []).getD 1 .skip

set_option maxRecDepth 100000 in
set_option maxHeartbeats 1000000 in
theorem mk_round2 (ws : World) (p1 p2 p3 : Value) (A0 : Option Addr) (c0 : Nat) (l : List Int) (hsrc : NumsIn .i8 ws A0 l) (hbd : ∀ x ∈ l, -128 ≤ x ∧ x ≤ 127) (hl : l.length ≤ 1000) (i : Nat) (A : Option Addr) (cap : Nat) (a : Act) (w : World) (Q : Exit → Act → World → Prop)
    (J : LpI2 ws p1 p2 p3 A0 c0 l i A cap a w) (hend : i = l.length → ∀ a' : Act, a'.defers = [] → a'.tmps.size = 164 → a'.tmps.getD 1 undef = p1 → a'.tmps.getD 2 undef = p2 → a'.tmps.getD 3 undef = p3 → a'.tmps.getD 6 undef = .slice A (l.take i).length cap → Q (.exit 3) a' w) :
    mkRound2.wp Tryz.prog (Exit.then (fun a' w' => (∃ i A cap, LpI2 ws p1 p2 p3 A0 c0 l i A cap a' w') ∧ (l.length - intOf (a'.tmps.getD 80 undef)).toNat < (l.length - intOf (a.tmps.getD 80 undef)).toNat) Q) a w := by
  have hd := J.d; have hs := J.z; have h1 := J.s1; have h2 := J.s2; have h3 := J.s3; have h6 := J.s6; have h78 := J.sl; have h79 := J.ln; have h80 := J.ix
  have hiN := J.iN; have hO := J.o; have hb := J.b
  have k10 : (l.length - intOf (a.tmps.getD 80 undef)).toNat = (l.length - (i : Int)).toNat := by rw [h80]; rfl
  rw [k10]
  clear k10 J
  unfold mkRound2
  conv => arg 2; whnf
  by_cases hlt : i < l.length
  · clear hend
    obtain ⟨ad, rfl, -, hc⟩ := (hsrc.below hb) i hlt
    have hx := hbd l[i] (List.getElem_mem hlt)
    refine wp_seq ?_
    refine wp_region (show wpOps _ _ _ [0] _ _ from ?_)
    refine opL 0 81 (v := .bool true) (w' := w) (by kernel_rfl) (frZ hs) ?_ ?_
    · exact frY rfl (o_ltI rfl (ev_tmp h80) (ev_tmp h79) (decide_eq_true (by omega)))
    refine frN7 hs hd h1 h2 h3 h6 h78 h79 h80 ?_; clear hs hd h1 h2 h3 h6 h78 h79 h80; intro a hs hd h1 h2 h3 h6 h78 h79 h80 h81
    refine wp_seq ?_
    refine wp_cond_true (ev_tmp h81) ?_
    clear h81
    refine wp_skip ?_
    refine wp_seq ?_
    refine wp_block ?_
    refine wp_seq ?_
    refine wp_region (show wpOps _ _ _ [0, 1, 2] _ _ from ?_)
    refine opL 0 82 (v := .pointer (some (ad.add i))) (w' := w) (by kernel_rfl) (frZ hs) ?_ ?_
    · exact frY rfl (k_atC rfl (ev_tmp h78) (ev_tmp h80) hlt)
    revert hs hd h1 h2 h3 h6 h78 h79 h80; refine frM7 ?_; intro a hs hd h1 h2 h3 h6 h78 h79 h80 h82
    refine opL 1 83 (v := .int .i8 l[i]) (w' := w) (by kernel_rfl) (frZ hs) ?_ ?_
    · exact frY rfl (k_loadC rfl (ev_tmp h82) hc)
    clear h82; revert hs hd h1 h2 h3 h6 h78 h79 h80; refine frM7 ?_; intro a hs hd h1 h2 h3 h6 h78 h79 h80 h83
    refine opL 2 8 (v := .int .i8 l[i]) (w' := w) (by kernel_rfl) (frZ hs) ?_ ?_
    · exact frY rfl (k_assign rfl (ev_tmp h83))
    clear h83; revert hs hd h1 h2 h3 h6 h78 h79 h80; refine frM7 ?_; intro a hs hd h1 h2 h3 h6 h78 h79 h80 h8
    refine wp_region (show wpOps _ _ _ [0, 1, 2, 3, 4, 5] _ _ from ?_)
    refine opL 0 84 (v := .slice A (l.take i).length cap) (w' := w) (by kernel_rfl) (frZ hs) ?_ ?_
    · exact frY rfl (k_move rfl (ev_tmp h6))
    revert hs hd h1 h2 h3 h6 h78 h79 h80 h8; refine frM8 ?_; intro a hs hd h1 h2 h3 h6 h78 h79 h80 h8 h84
    refine opL 1 85 (v := .int .i8 l[i]) (w' := w) (by kernel_rfl) (frZ hs) ?_ ?_
    · exact frY rfl (k_move rfl (ev_tmp h8))
    revert hs hd h1 h2 h3 h6 h78 h79 h80 h8 h84; refine frM9 ?_; intro a hs hd h1 h2 h3 h6 h78 h79 h80 h8 h84 h85
    refine opL 2 86 (v := .int .i64 l[i]) (w' := w) (by kernel_rfl) (frZ hs) ?_ ?_
    · exact frY rfl (o_convCI rfl (ev_tmp h85) (wrap_small (by omega) (by omega)))
    clear h85; revert hs hd h1 h2 h3 h6 h78 h79 h80 h8 h84; refine frM9 ?_; intro a hs hd h1 h2 h3 h6 h78 h79 h80 h8 h84 h86
    refine opL 3 87 (v := .slice (some ⟨w.heap.size, 0, none⟩) 1 1) (w' := (w.alloc (.cells #[.int .i64 l[i]] 3))) (by kernel_rfl) (frZ hs) ?_ ?_
    · exact frY rfl (k_slice1 rfl (ev_tmp h86))
    clear h86; revert hs hd h1 h2 h3 h6 h78 h79 h80 h8 h84; refine frM9 ?_; intro a hs hd h1 h2 h3 h6 h78 h79 h80 h8 h84 h87
    obtain ⟨w1, hw1⟩ : ∃ w1, w1 = w.alloc (.cells #[.int .i64 l[i]] 3) := ⟨_, rfl⟩
    rw [← hw1]
    have q1 : Blk w1 w.heap.size 3 #[.int .i64 l[i]] := by rw [hw1]; exact Blk.alloc _ _ _
    have l1 : Below w.heap.size w w1 := by rw [hw1]; exact (Below.refl _ _).alloc (Nat.le_refl _) _
    have hO1 := hO.below l1
    have hl1 : ws.heap.size ≤ w1.heap.size := Nat.le_trans hb.size l1.size
    clear hw1
    obtain ⟨v', w2, hr, hO2, hE2⟩ := append_int (c := 1) hO1 (q1.cell 0) (by simp; omega) hl1
    have eN : l.take i ++ [l[i]] = l.take (i + 1) := (List.take_succ_eq_append_getElem hlt).symm
    rw [eN] at hO2
    obtain ⟨A', cap', rfl, -, -, -⟩ := hO2.ints
    refine opL 4 88 (v := .slice A' (l.take (i + 1)).length cap') (w' := w2) (by kernel_rfl) (frZ hs) ?_ ?_
    · exact frY rfl (k_append rfl rfl (ev_tmp h84) (ev_tmp h87) hr)
    refine frN8 hs hd h1 h2 h3 h6 h78 h79 h80 h8 ?_; clear hs hd h1 h2 h3 h6 h78 h79 h80 h8 h84 h87; intro a hs hd h1 h2 h3 h6 h78 h79 h80 h8 h88
    refine opL 5 6 (v := .slice A' (l.take (i + 1)).length cap') (w' := w2) (by kernel_rfl) (frZ hs) ?_ ?_
    · exact frY rfl (k_assign rfl (ev_tmp h88))
    clear h6 h88; revert hs hd h1 h2 h3 h78 h79 h80 h8; refine frM7 ?_; intro a hs hd h1 h2 h3 h78 h79 h80 h8 h6
    refine wp_region (show wpOps _ _ _ [0, 1] _ _ from ?_)
    refine opL 0 89 (v := .int .i64 (i + 1 : Nat)) (w' := w2) (by kernel_rfl) (frZ hs) ?_ ?_
    · exact frY rfl (o_addI rfl (ev_tmp h80) rfl (wrap_small (n := (i : Int) + 1) (by omega) (by omega)))
    revert hs hd h1 h2 h3 h78 h79 h80 h8 h6; refine frM8 ?_; intro a hs hd h1 h2 h3 h78 h79 h80 h8 h6 h89
    refine opL 1 80 (v := .int .i64 (i + 1 : Nat)) (w' := w2) (by kernel_rfl) (frZ hs) ?_ ?_
    · exact frY rfl (k_move rfl (ev_tmp h89))
    clear h80 h89; revert hs hd h1 h2 h3 h78 h79 h8 h6; refine frM7 ?_; intro a hs hd h1 h2 h3 h78 h79 h8 h6 h80
    have lx := (l1.mono hb.size).trans ((hE2 ws.heap.size ws.heap.size (Nat.le_refl _)).below (Nat.le_refl _))
    refine ⟨⟨i + 1, A', cap', ⟨hd, hs, h1, h2, h3, h6, h78, h79, h80, by omega, hO2, hb.trans lx⟩⟩, ?_⟩
    rw [h80]
    show (l.length - ((i + 1 : Nat) : Int)).toNat < (l.length - (i : Int)).toNat
    omega
  · obtain rfl : i = l.length := by omega
    refine wp_seq ?_
    refine wp_region (show wpOps _ _ _ [0] _ _ from ?_)
    refine opL 0 81 (v := .bool false) (w' := w) (by kernel_rfl) (frZ hs) ?_ ?_
    · exact frY rfl (o_ltI rfl (ev_tmp h80) (ev_tmp h79) (decide_eq_false (by omega)))
    refine frN7 hs hd h1 h2 h3 h6 h78 h79 h80 ?_; clear hs hd h1 h2 h3 h6 h78 h79 h80; intro a hs hd h1 h2 h3 h6 h78 h79 h80 h81
    refine wp_seq ?_
    refine wp_cond_false (ev_tmp h81) ?_
    clear h81
    refine wp_exit ?_
    exact hend rfl a hd hs h1 h2 h3 h6

structure LpI4 (ws : World) (p1 p2 p3 : Value) (A0 : Option Addr) (c0 : Nat) (l : List Int) (i : Nat) (A : Option Addr) (cap : Nat) (a : Act) (w : World) : Prop where
  d : a.defers = []
  z : a.tmps.size = 164
  s1 : a.tmps.getD 1 undef = p1
  s2 : a.tmps.getD 2 undef = p2
  s3 : a.tmps.getD 3 undef = p3
  s6 : a.tmps.getD 6 undef = .slice A (l.take i).length cap
  sl : a.tmps.getD 148 undef = .slice A0 l.length c0
  ln : a.tmps.getD 149 undef = .int .i64 l.length
  ix : a.tmps.getD 150 undef = .int .i64 i
  iN : i ≤ l.length
  o : OwnI w ws.heap.size (.slice A (l.take i).length cap) (l.take i)
  b : Below ws.heap.size ws w
noncomputable def mkRound4 : Code := ((Tryz.f9.body.map loopsOf).getD []).getD 3 .skip

set_option maxRecDepth 100000 in
set_option maxHeartbeats 1000000 in
theorem mk_round4 (ws : World) (p1 p2 p3 : Value) (A0 : Option Addr) (c0 : Nat) (l : List Int) (hsrc : NumsIn .i16 ws A0 l) (hbd : ∀ x ∈ l, -32768 ≤ x ∧ x ≤ 32767) (hl : l.length ≤ 1000) (i : Nat) (A : Option Addr) (cap : Nat) (a : Act) (w : World) (Q : Exit → Act → World → Prop)
    (J : LpI4 ws p1 p2 p3 A0 c0 l i A cap a w) (hend : i = l.length → ∀ a' : Act, a'.defers = [] → a'.tmps.size = 164 → a'.tmps.getD 1 undef = p1 → a'.tmps.getD 2 undef = p2 → a'.tmps.getD 3 undef = p3 → a'.tmps.getD 6 undef = .slice A (l.take i).length cap → Q (.exit 7) a' w) :
    mkRound4.wp Tryz.prog (Exit.then (fun a' w' => (∃ i A cap, LpI4 ws p1 p2 p3 A0 c0 l i A cap a' w') ∧ (l.length - intOf (a'.tmps.getD 150 undef)).toNat < (l.length - intOf (a.tmps.getD 150 undef)).toNat) Q) a w := by
  have hd := J.d; have hs := J.z; have h1 := J.s1; have h2 := J.s2; have h3 := J.s3; have h6 := J.s6; have h148 := J.sl; have h149 := J.ln; have h150 := J.ix
  have hiN := J.iN; have hO := J.o; have hb := J.b
  have k10 : (l.length - intOf (a.tmps.getD 150 undef)).toNat = (l.length - (i : Int)).toNat := by rw [h150]; rfl
  rw [k10]
  clear k10 J
  unfold mkRound4
  conv => arg 2; whnf
  by_cases hlt : i < l.length
  · clear hend
    obtain ⟨ad, rfl, -, hc⟩ := (hsrc.below hb) i hlt
    have hx := hbd l[i] (List.getElem_mem hlt)
    refine wp_seq ?_
    refine wp_region (show wpOps _ _ _ [0] _ _ from ?_)
    refine opL 0 151 (v := .bool true) (w' := w) (by kernel_rfl) (frZ hs) ?_ ?_
    · exact frY rfl (o_ltI rfl (ev_tmp h150) (ev_tmp h149) (decide_eq_true (by omega)))
    refine frN7 hs hd h1 h2 h3 h6 h148 h149 h150 ?_; clear hs hd h1 h2 h3 h6 h148 h149 h150; intro a hs hd h1 h2 h3 h6 h148 h149 h150 h151
    refine wp_seq ?_
    refine wp_cond_true (ev_tmp h151) ?_
    clear h151
    refine wp_skip ?_
    refine wp_seq ?_
    refine wp_block ?_
    refine wp_seq ?_
    refine wp_region (show wpOps _ _ _ [0, 1, 2] _ _ from ?_)
    refine opL 0 152 (v := .pointer (some (ad.add i))) (w' := w) (by kernel_rfl) (frZ hs) ?_ ?_
    · exact frY rfl (k_atS rfl (ev_tmp h148) (ev_tmp h150) hlt)
    revert hs hd h1 h2 h3 h6 h148 h149 h150; refine frM7 ?_; intro a hs hd h1 h2 h3 h6 h148 h149 h150 h152
    refine opL 1 153 (v := .int .i16 l[i]) (w' := w) (by kernel_rfl) (frZ hs) ?_ ?_
    · exact frY rfl (k_loadS rfl (ev_tmp h152) hc)
    clear h152; revert hs hd h1 h2 h3 h6 h148 h149 h150; refine frM7 ?_; intro a hs hd h1 h2 h3 h6 h148 h149 h150 h153
    refine opL 2 14 (v := .int .i16 l[i]) (w' := w) (by kernel_rfl) (frZ hs) ?_ ?_
    · exact frY rfl (k_assign rfl (ev_tmp h153))
    clear h153; revert hs hd h1 h2 h3 h6 h148 h149 h150; refine frM7 ?_; intro a hs hd h1 h2 h3 h6 h148 h149 h150 h14
    refine wp_region (show wpOps _ _ _ [0, 1, 2, 3, 4, 5] _ _ from ?_)
    refine opL 0 154 (v := .slice A (l.take i).length cap) (w' := w) (by kernel_rfl) (frZ hs) ?_ ?_
    · exact frY rfl (k_move rfl (ev_tmp h6))
    revert hs hd h1 h2 h3 h6 h148 h149 h150 h14; refine frM8 ?_; intro a hs hd h1 h2 h3 h6 h148 h149 h150 h14 h154
    refine opL 1 155 (v := .int .i16 l[i]) (w' := w) (by kernel_rfl) (frZ hs) ?_ ?_
    · exact frY rfl (k_move rfl (ev_tmp h14))
    revert hs hd h1 h2 h3 h6 h148 h149 h150 h14 h154; refine frM9 ?_; intro a hs hd h1 h2 h3 h6 h148 h149 h150 h14 h154 h155
    refine opL 2 156 (v := .int .i64 l[i]) (w' := w) (by kernel_rfl) (frZ hs) ?_ ?_
    · exact frY rfl (o_convSI rfl (ev_tmp h155) (wrap_small (by omega) (by omega)))
    clear h155; revert hs hd h1 h2 h3 h6 h148 h149 h150 h14 h154; refine frM9 ?_; intro a hs hd h1 h2 h3 h6 h148 h149 h150 h14 h154 h156
    refine opL 3 157 (v := .slice (some ⟨w.heap.size, 0, none⟩) 1 1) (w' := (w.alloc (.cells #[.int .i64 l[i]] 3))) (by kernel_rfl) (frZ hs) ?_ ?_
    · exact frY rfl (k_slice1 rfl (ev_tmp h156))
    clear h156; revert hs hd h1 h2 h3 h6 h148 h149 h150 h14 h154; refine frM9 ?_; intro a hs hd h1 h2 h3 h6 h148 h149 h150 h14 h154 h157
    obtain ⟨w1, hw1⟩ : ∃ w1, w1 = w.alloc (.cells #[.int .i64 l[i]] 3) := ⟨_, rfl⟩
    rw [← hw1]
    have q1 : Blk w1 w.heap.size 3 #[.int .i64 l[i]] := by rw [hw1]; exact Blk.alloc _ _ _
    have l1 : Below w.heap.size w w1 := by rw [hw1]; exact (Below.refl _ _).alloc (Nat.le_refl _) _
    have hO1 := hO.below l1
    have hl1 : ws.heap.size ≤ w1.heap.size := Nat.le_trans hb.size l1.size
    clear hw1
    obtain ⟨v', w2, hr, hO2, hE2⟩ := append_int (c := 1) hO1 (q1.cell 0) (by simp; omega) hl1
    have eN : l.take i ++ [l[i]] = l.take (i + 1) := (List.take_succ_eq_append_getElem hlt).symm
    rw [eN] at hO2
    obtain ⟨A', cap', rfl, -, -, -⟩ := hO2.ints
    refine opL 4 158 (v := .slice A' (l.take (i + 1)).length cap') (w' := w2) (by kernel_rfl) (frZ hs) ?_ ?_
    · exact frY rfl (k_append rfl rfl (ev_tmp h154) (ev_tmp h157) hr)
    refine frN8 hs hd h1 h2 h3 h6 h148 h149 h150 h14 ?_; clear hs hd h1 h2 h3 h6 h148 h149 h150 h14 h154 h157; intro a hs hd h1 h2 h3 h6 h148 h149 h150 h14 h158
    refine opL 5 6 (v := .slice A' (l.take (i + 1)).length cap') (w' := w2) (by kernel_rfl) (frZ hs) ?_ ?_
    · exact frY rfl (k_assign rfl (ev_tmp h158))
    clear h6 h158; revert hs hd h1 h2 h3 h148 h149 h150 h14; refine frM7 ?_; intro a hs hd h1 h2 h3 h148 h149 h150 h14 h6
    refine wp_region (show wpOps _ _ _ [0, 1] _ _ from ?_)
    refine opL 0 159 (v := .int .i64 (i + 1 : Nat)) (w' := w2) (by kernel_rfl) (frZ hs) ?_ ?_
    · exact frY rfl (o_addI rfl (ev_tmp h150) rfl (wrap_small (n := (i : Int) + 1) (by omega) (by omega)))
    revert hs hd h1 h2 h3 h148 h149 h150 h14 h6; refine frM8 ?_; intro a hs hd h1 h2 h3 h148 h149 h150 h14 h6 h159
    refine opL 1 150 (v := .int .i64 (i + 1 : Nat)) (w' := w2) (by kernel_rfl) (frZ hs) ?_ ?_
    · exact frY rfl (k_move rfl (ev_tmp h159))
    clear h150 h159; revert hs hd h1 h2 h3 h148 h149 h14 h6; refine frM7 ?_; intro a hs hd h1 h2 h3 h148 h149 h14 h6 h150
    have lx := (l1.mono hb.size).trans ((hE2 ws.heap.size ws.heap.size (Nat.le_refl _)).below (Nat.le_refl _))
    refine ⟨⟨i + 1, A', cap', ⟨hd, hs, h1, h2, h3, h6, h148, h149, h150, by omega, hO2, hb.trans lx⟩⟩, ?_⟩
    rw [h150]
    show (l.length - ((i + 1 : Nat) : Int)).toNat < (l.length - (i : Int)).toNat
    omega
  · obtain rfl : i = l.length := by omega
    refine wp_seq ?_
    refine wp_region (show wpOps _ _ _ [0] _ _ from ?_)
    refine opL 0 151 (v := .bool false) (w' := w) (by kernel_rfl) (frZ hs) ?_ ?_
    · exact frY rfl (o_ltI rfl (ev_tmp h150) (ev_tmp h149) (decide_eq_false (by omega)))
    refine frN7 hs hd h1 h2 h3 h6 h148 h149 h150 ?_; clear hs hd h1 h2 h3 h6 h148 h149 h150; intro a hs hd h1 h2 h3 h6 h148 h149 h150 h151
    refine wp_seq ?_
    refine wp_cond_false (ev_tmp h151) ?_
    clear h151
    refine wp_exit ?_
    exact hend rfl a hd hs h1 h2 h3 h6

structure LpI1 (w0 ws : World) (b3 : Nat) (p1 p2 x0 x1 x2 x3 : Value) (A0 : Option Addr) (c0 : Nat) (l : List Int) (i : Nat) (A : Option Addr) (cap : Nat) (a : Act) (w : World) : Prop where
  d : a.defers = []
  z : a.tmps.size = 164
  s1 : a.tmps.getD 1 undef = p1
  s2 : a.tmps.getD 2 undef = p2
  s3 : a.tmps.getD 3 undef = .pointer (some ⟨b3, 0, none⟩)
  sl : a.tmps.getD 54 undef = .slice A0 l.length c0
  ln : a.tmps.getD 55 undef = .int .i64 l.length
  ix : a.tmps.getD 56 undef = .int .i64 i
  iN : i ≤ l.length
  B3 : Blk w b3 36 #[x0, x1, x2, x3, .slice A (Mk.monOut (l.take i)).length cap, .slice none 0 0, .slice none 0 0, .slice none 0 0]
  o : OwnI w ws.heap.size (.slice A (Mk.monOut (l.take i)).length cap) (Mk.monOut (l.take i))
  e : Exc ws.heap.size b3 ws w
noncomputable def mkRound1 : Code := ((Tryz.f9.body.map loopsOf).getD []).getD 0 .skip

set_option maxRecDepth 100000 in
set_option maxHeartbeats 1000000 in
theorem mk_round1 (w0 ws : World) (b3 : Nat) (p1 p2 x0 x1 x2 x3 : Value) (A0 : Option Addr) (c0 : Nat) (l : List Int) (hsrc : NumsIn .u8 w0 A0 l) (hws : Below w0.heap.size w0 ws) (hb0 : w0.heap.size ≤ b3) (hb3 : b3 < ws.heap.size) (hbd : ∀ x ∈ l, 0 ≤ x ∧ x ≤ 255) (hl : l.length ≤ 1000) (i : Nat) (A : Option Addr) (cap : Nat) (a : Act) (w : World) (Q : Exit → Act → World → Prop)
    (J : LpI1 w0 ws b3 p1 p2 x0 x1 x2 x3 A0 c0 l i A cap a w) (hend : i = l.length → ∀ a' : Act, a'.defers = [] → a'.tmps.size = 164 → a'.tmps.getD 1 undef = p1 → a'.tmps.getD 2 undef = p2 → a'.tmps.getD 3 undef = .pointer (some ⟨b3, 0, none⟩) → Q (.exit 1) a' w) :
    mkRound1.wp Tryz.prog (Exit.then (fun a' w' => (∃ i A cap, LpI1 w0 ws b3 p1 p2 x0 x1 x2 x3 A0 c0 l i A cap a' w') ∧ (l.length - intOf (a'.tmps.getD 56 undef)).toNat < (l.length - intOf (a.tmps.getD 56 undef)).toNat) Q) a w := by
  have hd := J.d; have hs := J.z; have h1 := J.s1; have h2 := J.s2; have h3 := J.s3; have h54 := J.sl; have h55 := J.ln; have h56 := J.ix
  have hiN := J.iN; have hO := J.o; have hE := J.e; have hB := J.B3
  have hb : Below w0.heap.size w0 w := hws.trans ((hE.mono hws.size).below hb0)
  have hlen := Mk.monOut_len hiN
  have k10 : (l.length - intOf (a.tmps.getD 56 undef)).toNat = (l.length - (i : Int)).toNat := by rw [h56]; rfl
  rw [k10]
  clear k10 J
  unfold mkRound1
  conv => arg 2; whnf
  by_cases hlt : i < l.length
  · clear hend
    obtain ⟨ad, rfl, -, hc⟩ := (hsrc.below hb) i hlt
    have hx := hbd l[i] (List.getElem_mem hlt)
    have et : l[i].tmod 12 = l[i] % 12 := Int.tmod_eq_emod_of_nonneg hx.1
    refine wp_seq ?_
    refine wp_region (show wpOps _ _ _ [0] _ _ from ?_)
    refine opL 0 57 (v := .bool true) (w' := w) (by kernel_rfl) (frZ hs) ?_ ?_
    · exact frY rfl (o_ltI rfl (ev_tmp h56) (ev_tmp h55) (decide_eq_true (by omega)))
    refine frN6 hs hd h1 h2 h3 h54 h55 h56 ?_; clear hs hd h1 h2 h3 h54 h55 h56; intro a hs hd h1 h2 h3 h54 h55 h56 h57
    refine wp_seq ?_
    refine wp_cond_true (ev_tmp h57) ?_
    clear h57
    refine wp_skip ?_
    refine wp_seq ?_
    refine wp_block ?_
    refine wp_seq ?_
    refine wp_region (show wpOps _ _ _ [0, 1, 2] _ _ from ?_)
    refine opL 0 58 (v := .pointer (some (ad.add i))) (w' := w) (by kernel_rfl) (frZ hs) ?_ ?_
    · exact frY rfl (k_atB rfl (ev_tmp h54) (ev_tmp h56) hlt)
    revert hs hd h1 h2 h3 h54 h55 h56; refine frM6 ?_; intro a hs hd h1 h2 h3 h54 h55 h56 h58
    refine opL 1 59 (v := .int .u8 l[i]) (w' := w) (by kernel_rfl) (frZ hs) ?_ ?_
    · exact frY rfl (k_loadB rfl (ev_tmp h58) hc)
    clear h58; revert hs hd h1 h2 h3 h54 h55 h56; refine frM6 ?_; intro a hs hd h1 h2 h3 h54 h55 h56 h59
    refine opL 2 5 (v := .int .u8 l[i]) (w' := w) (by kernel_rfl) (frZ hs) ?_ ?_
    · exact frY rfl (k_assign rfl (ev_tmp h59))
    clear h59; revert hs hd h1 h2 h3 h54 h55 h56; refine frM6 ?_; intro a hs hd h1 h2 h3 h54 h55 h56 h5
    refine wp_region (show wpOps _ _ _ [0, 1, 2, 3, 4, 5, 6, 7, 8, 9] _ _ from ?_)
    refine opL 0 60 (v := .pointer (some ⟨b3, 4, none⟩)) (w' := w) (by kernel_rfl) (frZ hs) ?_ ?_
    · exact frY rfl (k_field4 rfl (ev_tmp h3))
    revert hs hd h1 h2 h3 h54 h55 h56 h5; refine frM7 ?_; intro a hs hd h1 h2 h3 h54 h55 h56 h5 h60
    refine opL 1 61 (v := .slice A (Mk.monOut (l.take i)).length cap) (w' := w) (by kernel_rfl) (frZ hs) ?_ ?_
    · exact frY rfl (k_loadL rfl (ev_tmp h60) (hB.cell 4))
    clear h60; revert hs hd h1 h2 h3 h54 h55 h56 h5; refine frM7 ?_; intro a hs hd h1 h2 h3 h54 h55 h56 h5 h61
    refine opL 2 62 (v := .int .u8 l[i]) (w' := w) (by kernel_rfl) (frZ hs) ?_ ?_
    · exact frY rfl (k_move rfl (ev_tmp h5))
    revert hs hd h1 h2 h3 h54 h55 h56 h5 h61; refine frM8 ?_; intro a hs hd h1 h2 h3 h54 h55 h56 h5 h61 h62
    refine opL 3 63 (v := .int .u8 (l[i].tmod 12)) (w' := w) (by kernel_rfl) (frZ hs) ?_ ?_
    · exact frY rfl (o_remB rfl (ev_tmp h62) rfl (by decide) rfl)
    clear h62; revert hs hd h1 h2 h3 h54 h55 h56 h5 h61; refine frM8 ?_; intro a hs hd h1 h2 h3 h54 h55 h56 h5 h61 h63
    refine opL 4 64 (v := .int .i64 (l[i].tmod 12)) (w' := w) (by kernel_rfl) (frZ hs) ?_ ?_
    · exact frY rfl (o_convBI rfl (ev_tmp h63) (wrap_small (by omega) (by omega)))
    clear h63; revert hs hd h1 h2 h3 h54 h55 h56 h5 h61; refine frM8 ?_; intro a hs hd h1 h2 h3 h54 h55 h56 h5 h61 h64
    refine opL 5 65 (v := .int .i64 (1 + l[i].tmod 12)) (w' := w) (by kernel_rfl) (frZ hs) ?_ ?_
    · exact frY rfl (o_addI rfl rfl (ev_tmp h64) (wrap_small (by omega) (by omega)))
    clear h64; revert hs hd h1 h2 h3 h54 h55 h56 h5 h61; refine frM8 ?_; intro a hs hd h1 h2 h3 h54 h55 h56 h5 h61 h65
    refine opL 6 66 (v := .slice (some ⟨w.heap.size, 0, none⟩) 1 1) (w' := (w.alloc (.cells #[.int .i64 (1 + l[i].tmod 12)] 3))) (by kernel_rfl) (frZ hs) ?_ ?_
    · exact frY rfl (k_slice1 rfl (ev_tmp h65))
    clear h65; revert hs hd h1 h2 h3 h54 h55 h56 h5 h61; refine frM8 ?_; intro a hs hd h1 h2 h3 h54 h55 h56 h5 h61 h66
    obtain ⟨w1, hw1⟩ : ∃ w1, w1 = w.alloc (.cells #[.int .i64 (1 + l[i].tmod 12)] 3) := ⟨_, rfl⟩
    rw [← hw1]
    have q1 : Blk w1 w.heap.size 3 #[.int .i64 (1 + l[i].tmod 12)] := by rw [hw1]; exact Blk.alloc _ _ _
    have l1 : Below w.heap.size w w1 := by rw [hw1]; exact (Below.refl _ _).alloc (Nat.le_refl _) _
    have hO1 := hO.below l1
    have hB1 := hB.below l1 hB.lt
    have hl1 : ws.heap.size ≤ w1.heap.size := Nat.le_trans hE.size l1.size
    clear hw1
    obtain ⟨v', w2, hr, hO2, hE2⟩ := append_int (c := 1) hO1 (q1.cell 0) (by omega) hl1
    have eN : Mk.monOut (l.take i) ++ [1 + l[i].tmod 12] = Mk.monOut (l.take (i + 1)) := (Mk.monOut_take hlt).symm
    rw [eN] at hO2
    obtain ⟨A', cap', rfl, -, -, -⟩ := hO2.ints
    have hB2 := hB1.exc (hE2 ws.heap.size ws.heap.size (Nat.le_refl _)) hb3 (by omega)
    refine opL 7 67 (v := .slice A' (Mk.monOut (l.take (i + 1))).length cap') (w' := w2) (by kernel_rfl) (frZ hs) ?_ ?_
    · exact frY rfl (k_append rfl rfl (ev_tmp h61) (ev_tmp h66) hr)
    refine frN7 hs hd h1 h2 h3 h54 h55 h56 h5 ?_; clear hs hd h1 h2 h3 h54 h55 h56 h5 h61 h66; intro a hs hd h1 h2 h3 h54 h55 h56 h5 h67
    refine opL 8 68 (v := .pointer (some ⟨b3, 4, none⟩)) (w' := w2) (by kernel_rfl) (frZ hs) ?_ ?_
    · exact frY rfl (k_field4 rfl (ev_tmp h3))
    revert hs hd h1 h2 h3 h54 h55 h56 h5 h67; refine frM8 ?_; intro a hs hd h1 h2 h3 h54 h55 h56 h5 h67 h68
    refine opL_store 9 (w' := (w2.setCell ⟨b3, 4, none⟩ (.slice A' (Mk.monOut (l.take (i + 1))).length cap'))) (by kernel_rfl) ?_ ?_
    · exact frY rfl (k_storeL rfl (ev_tmp h68) (ev_tmp h67) hB2 (by simp))
    clear h67
    clear h68
    obtain ⟨w3, hw3⟩ : ∃ w3, w3 = w2.setCell ⟨b3, 4, none⟩ (.slice A' (Mk.monOut (l.take (i + 1))).length cap') := ⟨_, rfl⟩
    rw [← hw3]
    have hB3 : Blk w3 b3 36 #[x0, x1, x2, x3, .slice A' (Mk.monOut (l.take (i + 1))).length cap', .slice none 0 0, .slice none 0 0, .slice none 0 0] := by rw [hw3]; exact hB2.set 4 _
    have hE3 : ∀ B, Exc B b3 w2 w3 := by rw [hw3]; exact exc_set w2 b3 4 _
    clear hw3
    refine wp_region (show wpOps _ _ _ [0, 1] _ _ from ?_)
    refine opL 0 69 (v := .int .i64 (i + 1 : Nat)) (w' := w3) (by kernel_rfl) (frZ hs) ?_ ?_
    · exact frY rfl (o_addI rfl (ev_tmp h56) rfl (wrap_small (n := (i : Int) + 1) (by omega) (by omega)))
    refine frN7 hs hd h1 h2 h3 h54 h55 h56 h5 ?_; clear hs hd h1 h2 h3 h54 h55 h56 h5; intro a hs hd h1 h2 h3 h54 h55 h56 h5 h69
    refine opL 1 56 (v := .int .i64 (i + 1 : Nat)) (w' := w3) (by kernel_rfl) (frZ hs) ?_ ?_
    · exact frY rfl (k_move rfl (ev_tmp h69))
    clear h56 h69; revert hs hd h1 h2 h3 h54 h55 h5; refine frM6 ?_; intro a hs hd h1 h2 h3 h54 h55 h5 h56
    refine ⟨⟨i + 1, A', cap', ⟨hd, hs, h1, h2, h3, h54, h55, h56, by omega, hB3, hO2.exc (hE3 w2.heap.size) (fun g hg => ⟨(hO2.lt g hg).2, by have := (hO2.lt g hg).1; omega⟩), (hE.trans (Exc.of (l1.mono hE.size))).trans ((hE2 ws.heap.size b3 (Nat.le_refl _)).trans (hE3 ws.heap.size))⟩⟩, ?_⟩
    rw [h56]
    show (l.length - ((i + 1 : Nat) : Int)).toNat < (l.length - (i : Int)).toNat
    omega
  · obtain rfl : i = l.length := by omega
    refine wp_seq ?_
    refine wp_region (show wpOps _ _ _ [0] _ _ from ?_)
    refine opL 0 57 (v := .bool false) (w' := w) (by kernel_rfl) (frZ hs) ?_ ?_
    · exact frY rfl (o_ltI rfl (ev_tmp h56) (ev_tmp h55) (decide_eq_false (by omega)))
    refine frN6 hs hd h1 h2 h3 h54 h55 h56 ?_; clear hs hd h1 h2 h3 h54 h55 h56; intro a hs hd h1 h2 h3 h54 h55 h56 h57
    refine wp_seq ?_
    refine wp_cond_false (ev_tmp h57) ?_
    clear h57
    refine wp_exit ?_
    exact hend rfl a hd hs h1 h2 h3
end Go.Proofs.YtocpmljkmdpfkaaGreatDoor
