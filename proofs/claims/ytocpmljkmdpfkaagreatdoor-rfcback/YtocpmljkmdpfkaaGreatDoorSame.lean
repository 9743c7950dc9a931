/-
  rule.Same answers whether the fields are the same.
-/
import Derived.Test.YtocpmljkmdpfkaaGreatDoorEql
namespace Go.Proofs.YtocpmljkmdpfkaaGreatDoor
open Go.RowKit
noncomputable def sameBody : Code := Tryz.f13.body.getD .skip
set_option maxRecDepth 100000 in
set_option maxHeartbeats 1000000 in
theorem same_any (f iv c u f' iv' c' u' : Int) (A1 A2 A3 A4 B1 B2 B3 B4 : Option Addr) (c1 c2 c3 c4 d1 d2 d3 d4 : Nat) (M D M' D' : List Int) (K K' : List (Int × Int)) (P P' : List Int) (w : World) (hA : PlainR w A1 A2 A3 A4 M D K P) (hB : PlainR w B1 B2 B3 B4 M' D' K' P') :
    Calls Tryz.prog 13 #[.agg #[.int .i64 f, .int .i64 iv, .int .i64 c, .int .i64 u, .slice A1 M.length c1, .slice A2 D.length c2, .slice A3 K.length c3, .slice A4 P.length c4], .agg #[.int .i64 f', .int .i64 iv', .int .i64 c', .int .i64 u', .slice B1 M'.length d1, .slice B2 D'.length d2, .slice B3 K'.length d3, .slice B4 P'.length d4]] w fun e w' => ∃ v, e = .returned v ∧ v = .bool (sameB f iv c u M D K P f' iv' c' u' M' D' K' P') ∧ Below w.heap.size w w' := by
  refine calls_of_wp Tryz.func13 (show Tryz.f13.body = some sameBody from rfl) ?_
  generalize hAA : (Act.mk (#[.agg #[.int .i64 f, .int .i64 iv, .int .i64 c, .int .i64 u, .slice A1 M.length c1, .slice A2 D.length c2, .slice A3 K.length c3, .slice A4 P.length c4], .agg #[.int .i64 f', .int .i64 iv', .int .i64 c', .int .i64 u', .slice B1 M'.length d1, .slice B2 D'.length d2, .slice B3 K'.length d3, .slice B4 P'.length d4]] ++ Array.replicate (Tryz.f13.ntmps - (#[.agg #[.int .i64 f, .int .i64 iv, .int .i64 c, .int .i64 u, .slice A1 M.length c1, .slice A2 D.length c2, .slice A3 K.length c3, .slice A4 P.length c4], .agg #[.int .i64 f', .int .i64 iv', .int .i64 c', .int .i64 u', .slice B1 M'.length d1, .slice B2 D'.length d2, .slice B3 K'.length d3, .slice B4 P'.length d4]] : Array Value).size) undef) []) = a
  have hs : a.tmps.size = 59 := by rw [← hAA]; simp [Tryz.ntmps13]
  have hd : a.defers = [] := by rw [← hAA]
  have h0 : a.tmps.getD 0 undef = .agg #[.int .i64 f, .int .i64 iv, .int .i64 c, .int .i64 u, .slice A1 M.length c1, .slice A2 D.length c2, .slice A3 K.length c3, .slice A4 P.length c4] := by rw [← hAA]; simp
  have h1 : a.tmps.getD 1 undef = .agg #[.int .i64 f', .int .i64 iv', .int .i64 c', .int .i64 u', .slice B1 M'.length d1, .slice B2 D'.length d2, .slice B3 K'.length d3, .slice B4 P'.length d4] := by rw [← hAA]; simp
  clear hAA
  have hfin : ∀ (a' : Act) (w' : World), a'.defers = [] → a'.tmps.getD 4 undef = .bool (sameB f iv c u M D K P f' iv' c' u' M' D' K' P') → Below w.heap.size w w' → (bodyPost Tryz.prog Tryz.f13 fun e w' => ∃ v, e = .returned v ∧ v = .bool (sameB f iv c u M D K P f' iv' c' u' M' D' K' P') ∧ Below w.heap.size w w') .ret a' w' := by
    intro a' w' k1 k2 k3
    exact ⟨k1, _, results_tmp rfl _ _ _, _, rfl, k2, k3⟩
  generalize (bodyPost Tryz.prog Tryz.f13 fun e w' => ∃ v, e = .returned v ∧ v = .bool (sameB f iv c u M D K P f' iv' c' u' M' D' K' P') ∧ Below w.heap.size w w') = Q at hfin
  unfold sameBody
  conv => arg 2; whnf
  refine wp_seq ?_
  refine wp_region (show wpOps _ _ _ [0, 1, 2] _ _ from ?_)
  refine opL 0 2 (v := .pointer (some ⟨w.heap.size, 0, none⟩)) (w' := (w.alloc (.cells #[.int .i64 f, .int .i64 iv, .int .i64 c, .int .i64 u, .slice A1 M.length c1, .slice A2 D.length c2, .slice A3 K.length c3, .slice A4 P.length c4] 36))) (by kernel_rfl) (frZ hs) ?_ ?_
  · exact frY rfl (k_boxR rfl (ev_tmp h0))
  refine frN1 hs hd h1 ?_; clear hs hd h1 h0; intro a hs hd h1 h2
  obtain ⟨w1, hw1⟩ : ∃ wn, wn = w.alloc (.cells #[.int .i64 f, .int .i64 iv, .int .i64 c, .int .i64 u, .slice A1 M.length c1, .slice A2 D.length c2, .slice A3 K.length c3, .slice A4 P.length c4] 36) := ⟨_, rfl⟩
  rw [← hw1]
  have q1 : Blk w1 w.heap.size 36 #[.int .i64 f, .int .i64 iv, .int .i64 c, .int .i64 u, .slice A1 M.length c1, .slice A2 D.length c2, .slice A3 K.length c3, .slice A4 P.length c4] := by rw [hw1]; exact Blk.alloc _ _ _
  have l1 : Below w.heap.size w w1 := by rw [hw1]; exact (Below.refl _ _).alloc (Nat.le_refl _) _
  clear hw1
  refine opL 1 3 (v := .pointer (some ⟨w1.heap.size, 0, none⟩)) (w' := (w1.alloc (.cells #[.int .i64 f', .int .i64 iv', .int .i64 c', .int .i64 u', .slice B1 M'.length d1, .slice B2 D'.length d2, .slice B3 K'.length d3, .slice B4 P'.length d4] 36))) (by kernel_rfl) (frZ hs) ?_ ?_
  · exact frY rfl (k_boxR rfl (ev_tmp h1))
  refine frN1 hs hd h2 ?_; clear hs hd h2 h1; intro a hs hd h2 h3
  obtain ⟨w2, hw2⟩ : ∃ wn, wn = w1.alloc (.cells #[.int .i64 f', .int .i64 iv', .int .i64 c', .int .i64 u', .slice B1 M'.length d1, .slice B2 D'.length d2, .slice B3 K'.length d3, .slice B4 P'.length d4] 36) := ⟨_, rfl⟩
  rw [← hw2]
  have q2 : Blk w2 w1.heap.size 36 #[.int .i64 f', .int .i64 iv', .int .i64 c', .int .i64 u', .slice B1 M'.length d1, .slice B2 D'.length d2, .slice B3 K'.length d3, .slice B4 P'.length d4] := by rw [hw2]; exact Blk.alloc _ _ _
  have l2 : Below w1.heap.size w1 w2 := by rw [hw2]; exact (Below.refl _ _).alloc (Nat.le_refl _) _
  clear hw2
  have Bp := q1.below l2 q1.lt
  have Bq := q2
  have lz := l1.trans (l2.mono l1.size)
  replace hA := (hA.below l1).below l2
  replace hB := (hB.below l1).below l2
  clear q1 q2 l1 l2
  refine opL 2 4 (v := .bool false) (w' := w2) (by kernel_rfl) (frZ hs) ?_ ?_
  · exact frY rfl (k_assign rfl rfl)
  refine frN2 hs hd h2 h3 ?_; clear hs hd h2 h3; intro a hs hd h2 h3 h4
  refine wp_seq ?_
  refine wp_region (show wpOps _ _ _ [0, 1, 2, 3, 4, 5, 6, 7, 8, 9, 10, 11, 12, 13, 14, 15, 16, 17, 18, 19, 20, 21, 22, 23, 24, 25, 26, 27, 28, 29, 30, 31, 32, 33, 34, 35, 36, 37, 38, 39, 40, 41, 42, 43, 44, 45, 46, 47, 48, 49, 50, 51, 52, 53, 54] _ _ from ?_)
  refine opL 0 5 (v := .pointer (some ⟨w.heap.size, 0, none⟩)) (w' := w2) (by kernel_rfl) (frZ hs) ?_ ?_
  · exact frY rfl (k_field0 rfl (ev_tmp h2))
  revert hs hd h2 h3 h4; refine frM3 ?_; intro a hs hd h2 h3 h4 h5
  refine opL 1 6 (v := .int .i64 f) (w' := w2) (by kernel_rfl) (frZ hs) ?_ ?_
  · exact frY rfl (k_loadF rfl (ev_tmp h5) (Bp.cell 0))
  clear h5; revert hs hd h2 h3 h4; refine frM3 ?_; intro a hs hd h2 h3 h4 h6
  refine opL 2 7 (v := .pointer (some ⟨w1.heap.size, 0, none⟩)) (w' := w2) (by kernel_rfl) (frZ hs) ?_ ?_
  · exact frY rfl (k_field0 rfl (ev_tmp h3))
  revert hs hd h2 h3 h4 h6; refine frM4 ?_; intro a hs hd h2 h3 h4 h6 h7
  refine opL 3 8 (v := .int .i64 f') (w' := w2) (by kernel_rfl) (frZ hs) ?_ ?_
  · exact frY rfl (k_loadF rfl (ev_tmp h7) (Bq.cell 0))
  clear h7; revert hs hd h2 h3 h4 h6; refine frM4 ?_; intro a hs hd h2 h3 h4 h6 h8
  refine opL 4 9 (v := .bool (f == f')) (w' := w2) (by kernel_rfl) (frZ hs) ?_ ?_
  · exact frY rfl (o_eqF rfl (ev_tmp h6) (ev_tmp h8) rfl)
  clear h6 h8; revert hs hd h2 h3 h4; refine frM3 ?_; intro a hs hd h2 h3 h4 h9
  refine opL 5 10 (v := .bool (f == f')) (w' := w2) (by kernel_rfl) (frZ hs) ?_ ?_
  · exact frY rfl (k_move rfl (ev_tmp h9))
  clear h9; revert hs hd h2 h3 h4; refine frM3 ?_; intro a hs hd h2 h3 h4 h10
  refine opG 6 11 (f == f') (v := .pointer (some ⟨w.heap.size, 1, none⟩)) (by kernel_rfl) (frZ hs) ?z19 ?z20
  case z19 => (intro o ho; obtain rfl := Option.some.inj ho; exact ⟨wanted_is rfl (by kernel_rfl) h10, fun hb => k_field1 rfl (ev_tmp h2)⟩)
  case z20 =>
  refine frN4 hs hd h2 h3 h4 h10 ?_; clear hs hd h2 h3 h4 h10; intro a hs hd h2 h3 h4 h10 h11
  refine opG 7 12 (f == f') (v := .int .i64 iv) (by kernel_rfl) (frZ hs) ?z21 ?z22
  case z21 => (intro o ho; obtain rfl := Option.some.inj ho; exact ⟨wanted_is rfl (by kernel_rfl) h10, fun hb => k_loadI rfl (ev_tmp (bif_at h11 hb)) (Bp.cell 1)⟩)
  case z22 =>
  refine frN4 hs hd h2 h3 h4 h10 ?_; clear hs hd h2 h3 h4 h10 h11; intro a hs hd h2 h3 h4 h10 h12
  refine opG 8 13 (f == f') (v := .pointer (some ⟨w1.heap.size, 1, none⟩)) (by kernel_rfl) (frZ hs) ?z23 ?z24
  case z23 => (intro o ho; obtain rfl := Option.some.inj ho; exact ⟨wanted_is rfl (by kernel_rfl) h10, fun hb => k_field1 rfl (ev_tmp h3)⟩)
  case z24 =>
  refine frN5 hs hd h2 h3 h4 h10 h12 ?_; clear hs hd h2 h3 h4 h10 h12; intro a hs hd h2 h3 h4 h10 h12 h13
  refine opG 9 14 (f == f') (v := .int .i64 iv') (by kernel_rfl) (frZ hs) ?z25 ?z26
  case z25 => (intro o ho; obtain rfl := Option.some.inj ho; exact ⟨wanted_is rfl (by kernel_rfl) h10, fun hb => k_loadI rfl (ev_tmp (bif_at h13 hb)) (Bq.cell 1)⟩)
  case z26 =>
  refine frN5 hs hd h2 h3 h4 h10 h12 ?_; clear hs hd h2 h3 h4 h10 h12 h13; intro a hs hd h2 h3 h4 h10 h12 h14
  refine opG 10 15 (f == f') (v := .bool (iv == iv')) (by kernel_rfl) (frZ hs) ?z27 ?z28
  case z27 => (intro o ho; obtain rfl := Option.some.inj ho; exact ⟨wanted_is rfl (by kernel_rfl) h10, fun hb => o_eqI rfl (ev_tmp (bif_at h12 hb)) (ev_tmp (bif_at h14 hb)) rfl⟩)
  case z28 =>
  refine frN4 hs hd h2 h3 h4 h10 ?_; clear hs hd h2 h3 h4 h10 h12 h14; intro a hs hd h2 h3 h4 h10 h15
  refine opL 11 16 (v := .bool (f == f' && iv == iv')) (w' := w2) (by kernel_rfl) (frZ hs) ?_ ?_
  · exact frY rfl (k_pick_and rfl (ev_tmp h10) (ev_tmp h15) rfl)
  clear h10 h15; revert hs hd h2 h3 h4; refine frM3 ?_; intro a hs hd h2 h3 h4 h16
  refine opL 12 17 (v := .bool (f == f' && iv == iv')) (w' := w2) (by kernel_rfl) (frZ hs) ?_ ?_
  · exact frY rfl (k_move rfl (ev_tmp h16))
  clear h16; revert hs hd h2 h3 h4; refine frM3 ?_; intro a hs hd h2 h3 h4 h17
  refine opG 13 18 (f == f' && iv == iv') (v := .pointer (some ⟨w.heap.size, 2, none⟩)) (by kernel_rfl) (frZ hs) ?z33 ?z34
  case z33 => (intro o ho; obtain rfl := Option.some.inj ho; exact ⟨wanted_is rfl (by kernel_rfl) h17, fun hb => k_field2 rfl (ev_tmp h2)⟩)
  case z34 =>
  refine frN4 hs hd h2 h3 h4 h17 ?_; clear hs hd h2 h3 h4 h17; intro a hs hd h2 h3 h4 h17 h18
  refine opG 14 19 (f == f' && iv == iv') (v := .int .i64 c) (by kernel_rfl) (frZ hs) ?z35 ?z36
  case z35 => (intro o ho; obtain rfl := Option.some.inj ho; exact ⟨wanted_is rfl (by kernel_rfl) h17, fun hb => k_loadI rfl (ev_tmp (bif_at h18 hb)) (Bp.cell 2)⟩)
  case z36 =>
  refine frN4 hs hd h2 h3 h4 h17 ?_; clear hs hd h2 h3 h4 h17 h18; intro a hs hd h2 h3 h4 h17 h19
  refine opG 15 20 (f == f' && iv == iv') (v := .pointer (some ⟨w1.heap.size, 2, none⟩)) (by kernel_rfl) (frZ hs) ?z37 ?z38
  case z37 => (intro o ho; obtain rfl := Option.some.inj ho; exact ⟨wanted_is rfl (by kernel_rfl) h17, fun hb => k_field2 rfl (ev_tmp h3)⟩)
  case z38 =>
  refine frN5 hs hd h2 h3 h4 h17 h19 ?_; clear hs hd h2 h3 h4 h17 h19; intro a hs hd h2 h3 h4 h17 h19 h20
  refine opG 16 21 (f == f' && iv == iv') (v := .int .i64 c') (by kernel_rfl) (frZ hs) ?z39 ?z40
  case z39 => (intro o ho; obtain rfl := Option.some.inj ho; exact ⟨wanted_is rfl (by kernel_rfl) h17, fun hb => k_loadI rfl (ev_tmp (bif_at h20 hb)) (Bq.cell 2)⟩)
  case z40 =>
  refine frN5 hs hd h2 h3 h4 h17 h19 ?_; clear hs hd h2 h3 h4 h17 h19 h20; intro a hs hd h2 h3 h4 h17 h19 h21
  refine opG 17 22 (f == f' && iv == iv') (v := .bool (c == c')) (by kernel_rfl) (frZ hs) ?z41 ?z42
  case z41 => (intro o ho; obtain rfl := Option.some.inj ho; exact ⟨wanted_is rfl (by kernel_rfl) h17, fun hb => o_eqI rfl (ev_tmp (bif_at h19 hb)) (ev_tmp (bif_at h21 hb)) rfl⟩)
  case z42 =>
  refine frN4 hs hd h2 h3 h4 h17 ?_; clear hs hd h2 h3 h4 h17 h19 h21; intro a hs hd h2 h3 h4 h17 h22
  refine opL 18 23 (v := .bool (f == f' && iv == iv' && c == c')) (w' := w2) (by kernel_rfl) (frZ hs) ?_ ?_
  · exact frY rfl (k_pick_and rfl (ev_tmp h17) (ev_tmp h22) rfl)
  clear h17 h22; revert hs hd h2 h3 h4; refine frM3 ?_; intro a hs hd h2 h3 h4 h23
  refine opL 19 24 (v := .bool (f == f' && iv == iv' && c == c')) (w' := w2) (by kernel_rfl) (frZ hs) ?_ ?_
  · exact frY rfl (k_move rfl (ev_tmp h23))
  clear h23; revert hs hd h2 h3 h4; refine frM3 ?_; intro a hs hd h2 h3 h4 h24
  refine opG 20 25 (f == f' && iv == iv' && c == c') (v := .pointer (some ⟨w.heap.size, 3, none⟩)) (by kernel_rfl) (frZ hs) ?z47 ?z48
  case z47 => (intro o ho; obtain rfl := Option.some.inj ho; exact ⟨wanted_is rfl (by kernel_rfl) h24, fun hb => k_field3 rfl (ev_tmp h2)⟩)
  case z48 =>
  refine frN4 hs hd h2 h3 h4 h24 ?_; clear hs hd h2 h3 h4 h24; intro a hs hd h2 h3 h4 h24 h25
  refine opG 21 26 (f == f' && iv == iv' && c == c') (v := .int .i64 u) (by kernel_rfl) (frZ hs) ?z49 ?z50
  case z49 => (intro o ho; obtain rfl := Option.some.inj ho; exact ⟨wanted_is rfl (by kernel_rfl) h24, fun hb => k_loadU rfl (ev_tmp (bif_at h25 hb)) (Bp.cell 3)⟩)
  case z50 =>
  refine frN4 hs hd h2 h3 h4 h24 ?_; clear hs hd h2 h3 h4 h24 h25; intro a hs hd h2 h3 h4 h24 h26
  refine opG 22 27 (f == f' && iv == iv' && c == c') (v := .pointer (some ⟨w1.heap.size, 3, none⟩)) (by kernel_rfl) (frZ hs) ?z51 ?z52
  case z51 => (intro o ho; obtain rfl := Option.some.inj ho; exact ⟨wanted_is rfl (by kernel_rfl) h24, fun hb => k_field3 rfl (ev_tmp h3)⟩)
  case z52 =>
  refine frN5 hs hd h2 h3 h4 h24 h26 ?_; clear hs hd h2 h3 h4 h24 h26; intro a hs hd h2 h3 h4 h24 h26 h27
  refine opG 23 28 (f == f' && iv == iv' && c == c') (v := .int .i64 u') (by kernel_rfl) (frZ hs) ?z53 ?z54
  case z53 => (intro o ho; obtain rfl := Option.some.inj ho; exact ⟨wanted_is rfl (by kernel_rfl) h24, fun hb => k_loadU rfl (ev_tmp (bif_at h27 hb)) (Bq.cell 3)⟩)
  case z54 =>
  refine frN5 hs hd h2 h3 h4 h24 h26 ?_; clear hs hd h2 h3 h4 h24 h26 h27; intro a hs hd h2 h3 h4 h24 h26 h28
  refine opG 24 29 (f == f' && iv == iv' && c == c') (v := .bool (u == u')) (by kernel_rfl) (frZ hs) ?z55 ?z56
  case z55 => (intro o ho; obtain rfl := Option.some.inj ho; exact ⟨wanted_is rfl (by kernel_rfl) h24, fun hb => o_eqU rfl (ev_tmp (bif_at h26 hb)) (ev_tmp (bif_at h28 hb)) rfl⟩)
  case z56 =>
  refine frN4 hs hd h2 h3 h4 h24 ?_; clear hs hd h2 h3 h4 h24 h26 h28; intro a hs hd h2 h3 h4 h24 h29
  refine opL 25 30 (v := .bool (f == f' && iv == iv' && c == c' && u == u')) (w' := w2) (by kernel_rfl) (frZ hs) ?_ ?_
  · exact frY rfl (k_pick_and rfl (ev_tmp h24) (ev_tmp h29) rfl)
  clear h24 h29; revert hs hd h2 h3 h4; refine frM3 ?_; intro a hs hd h2 h3 h4 h30
  refine opL 26 31 (v := .bool (f == f' && iv == iv' && c == c' && u == u')) (w' := w2) (by kernel_rfl) (frZ hs) ?_ ?_
  · exact frY rfl (k_move rfl (ev_tmp h30))
  clear h30; revert hs hd h2 h3 h4; refine frM3 ?_; intro a hs hd h2 h3 h4 h31
  refine opG 27 32 (f == f' && iv == iv' && c == c' && u == u') (v := .pointer (some ⟨w.heap.size, 4, none⟩)) (by kernel_rfl) (frZ hs) ?z61 ?z62
  case z61 => (intro o ho; obtain rfl := Option.some.inj ho; exact ⟨wanted_is rfl (by kernel_rfl) h31, fun hb => k_field4 rfl (ev_tmp h2)⟩)
  case z62 =>
  refine frN4 hs hd h2 h3 h4 h31 ?_; clear hs hd h2 h3 h4 h31; intro a hs hd h2 h3 h4 h31 h32
  refine opG 28 33 (f == f' && iv == iv' && c == c' && u == u') (v := .slice A1 M.length c1) (by kernel_rfl) (frZ hs) ?z63 ?z64
  case z63 => (intro o ho; obtain rfl := Option.some.inj ho; exact ⟨wanted_is rfl (by kernel_rfl) h31, fun hb => k_loadL rfl (ev_tmp (bif_at h32 hb)) (Bp.cell 4)⟩)
  case z64 =>
  refine frN4 hs hd h2 h3 h4 h31 ?_; clear hs hd h2 h3 h4 h31 h32; intro a hs hd h2 h3 h4 h31 h33
  refine opG 29 34 (f == f' && iv == iv' && c == c' && u == u') (v := .pointer (some ⟨w1.heap.size, 4, none⟩)) (by kernel_rfl) (frZ hs) ?z65 ?z66
  case z65 => (intro o ho; obtain rfl := Option.some.inj ho; exact ⟨wanted_is rfl (by kernel_rfl) h31, fun hb => k_field4 rfl (ev_tmp h3)⟩)
  case z66 =>
  refine frN5 hs hd h2 h3 h4 h31 h33 ?_; clear hs hd h2 h3 h4 h31 h33; intro a hs hd h2 h3 h4 h31 h33 h34
  refine opG 30 35 (f == f' && iv == iv' && c == c' && u == u') (v := .slice B1 M'.length d1) (by kernel_rfl) (frZ hs) ?z67 ?z68
  case z67 => (intro o ho; obtain rfl := Option.some.inj ho; exact ⟨wanted_is rfl (by kernel_rfl) h31, fun hb => k_loadL rfl (ev_tmp (bif_at h34 hb)) (Bq.cell 4)⟩)
  case z68 =>
  refine frN5 hs hd h2 h3 h4 h31 h33 ?_; clear hs hd h2 h3 h4 h31 h33 h34; intro a hs hd h2 h3 h4 h31 h33 h35
  have hc := eqI_any A1 B1 c1 d1 M M' w2 hA.m hB.m hA.lm hB.lm
  refine opG_call 31 36 (f == f' && iv == iv' && c == c' && u == u') (by kernel_rfl) (frZ hs) ?z69 hc ?z70
  case z69 => (intro o ho; obtain rfl := Option.some.inj ho; exact ⟨wanted_is rfl (by kernel_rfl) h31, fun hb => c_EqualI rfl rfl (ev_tmp (bif_at h33 hb)) (ev_tmp (bif_at h35 hb))⟩)
  case z70 =>
  clear hc
  intro v4 a l4 F0
  replace hs := F0.z.trans hs
  replace hd := F0.e.trans hd
  replace h2 := (F0.n 2 (by decide)).trans h2
  replace h3 := (F0.n 3 (by decide)).trans h3
  replace h4 := (F0.n 4 (by decide)).trans h4
  replace h31 := (F0.n 31 (by decide)).trans h31
  clear h33
  clear h35
  have h36 := F0.s
  clear F0
  replace Bp := Bp.below l4 Bp.lt
  replace Bq := Bq.below l4 Bq.lt
  replace hA := hA.below l4
  replace hB := hB.below l4
  replace lz := lz.trans (l4.mono lz.size)
  clear l4
  refine opL 32 37 (v := .bool (f == f' && iv == iv' && c == c' && u == u' && M == M')) (w' := v4) (by kernel_rfl) (frZ hs) ?_ ?_
  · exact frY rfl (k_pick_and rfl (ev_tmp h31) (ev_tmp h36) rfl)
  refine frN3 hs hd h2 h3 h4 ?_; clear hs hd h2 h3 h4 h31 h36; intro a hs hd h2 h3 h4 h37
  refine opL 33 38 (v := .bool (f == f' && iv == iv' && c == c' && u == u' && M == M')) (w' := v4) (by kernel_rfl) (frZ hs) ?_ ?_
  · exact frY rfl (k_move rfl (ev_tmp h37))
  clear h37; revert hs hd h2 h3 h4; refine frM3 ?_; intro a hs hd h2 h3 h4 h38
  refine opG 34 39 (f == f' && iv == iv' && c == c' && u == u' && M == M') (v := .pointer (some ⟨w.heap.size, 5, none⟩)) (by kernel_rfl) (frZ hs) ?z75 ?z76
  case z75 => (intro o ho; obtain rfl := Option.some.inj ho; exact ⟨wanted_is rfl (by kernel_rfl) h38, fun hb => k_field5 rfl (ev_tmp h2)⟩)
  case z76 =>
  refine frN4 hs hd h2 h3 h4 h38 ?_; clear hs hd h2 h3 h4 h38; intro a hs hd h2 h3 h4 h38 h39
  refine opG 35 40 (f == f' && iv == iv' && c == c' && u == u' && M == M') (v := .slice A2 D.length c2) (by kernel_rfl) (frZ hs) ?z77 ?z78
  case z77 => (intro o ho; obtain rfl := Option.some.inj ho; exact ⟨wanted_is rfl (by kernel_rfl) h38, fun hb => k_loadL rfl (ev_tmp (bif_at h39 hb)) (Bp.cell 5)⟩)
  case z78 =>
  refine frN4 hs hd h2 h3 h4 h38 ?_; clear hs hd h2 h3 h4 h38 h39; intro a hs hd h2 h3 h4 h38 h40
  refine opG 36 41 (f == f' && iv == iv' && c == c' && u == u' && M == M') (v := .pointer (some ⟨w1.heap.size, 5, none⟩)) (by kernel_rfl) (frZ hs) ?z79 ?z80
  case z79 => (intro o ho; obtain rfl := Option.some.inj ho; exact ⟨wanted_is rfl (by kernel_rfl) h38, fun hb => k_field5 rfl (ev_tmp h3)⟩)
  case z80 =>
  refine frN5 hs hd h2 h3 h4 h38 h40 ?_; clear hs hd h2 h3 h4 h38 h40; intro a hs hd h2 h3 h4 h38 h40 h41
  refine opG 37 42 (f == f' && iv == iv' && c == c' && u == u' && M == M') (v := .slice B2 D'.length d2) (by kernel_rfl) (frZ hs) ?z81 ?z82
  case z81 => (intro o ho; obtain rfl := Option.some.inj ho; exact ⟨wanted_is rfl (by kernel_rfl) h38, fun hb => k_loadL rfl (ev_tmp (bif_at h41 hb)) (Bq.cell 5)⟩)
  case z82 =>
  refine frN5 hs hd h2 h3 h4 h38 h40 ?_; clear hs hd h2 h3 h4 h38 h40 h41; intro a hs hd h2 h3 h4 h38 h40 h42
  have hc := eqI_any A2 B2 c2 d2 D D' v4 hA.d hB.d hA.ld hB.ld
  refine opG_call 38 43 (f == f' && iv == iv' && c == c' && u == u' && M == M') (by kernel_rfl) (frZ hs) ?z83 hc ?z84
  case z83 => (intro o ho; obtain rfl := Option.some.inj ho; exact ⟨wanted_is rfl (by kernel_rfl) h38, fun hb => c_EqualI rfl rfl (ev_tmp (bif_at h40 hb)) (ev_tmp (bif_at h42 hb))⟩)
  case z84 =>
  clear hc
  intro v5 a l5 F0
  replace hs := F0.z.trans hs
  replace hd := F0.e.trans hd
  replace h2 := (F0.n 2 (by decide)).trans h2
  replace h3 := (F0.n 3 (by decide)).trans h3
  replace h4 := (F0.n 4 (by decide)).trans h4
  replace h38 := (F0.n 38 (by decide)).trans h38
  clear h40
  clear h42
  have h43 := F0.s
  clear F0
  replace Bp := Bp.below l5 Bp.lt
  replace Bq := Bq.below l5 Bq.lt
  replace hA := hA.below l5
  replace hB := hB.below l5
  replace lz := lz.trans (l5.mono lz.size)
  clear l5
  refine opL 39 44 (v := .bool (f == f' && iv == iv' && c == c' && u == u' && M == M' && D == D')) (w' := v5) (by kernel_rfl) (frZ hs) ?_ ?_
  · exact frY rfl (k_pick_and rfl (ev_tmp h38) (ev_tmp h43) rfl)
  refine frN3 hs hd h2 h3 h4 ?_; clear hs hd h2 h3 h4 h38 h43; intro a hs hd h2 h3 h4 h44
  refine opL 40 45 (v := .bool (f == f' && iv == iv' && c == c' && u == u' && M == M' && D == D')) (w' := v5) (by kernel_rfl) (frZ hs) ?_ ?_
  · exact frY rfl (k_move rfl (ev_tmp h44))
  clear h44; revert hs hd h2 h3 h4; refine frM3 ?_; intro a hs hd h2 h3 h4 h45
  refine opG 41 46 (f == f' && iv == iv' && c == c' && u == u' && M == M' && D == D') (v := .pointer (some ⟨w.heap.size, 6, none⟩)) (by kernel_rfl) (frZ hs) ?z89 ?z90
  case z89 => (intro o ho; obtain rfl := Option.some.inj ho; exact ⟨wanted_is rfl (by kernel_rfl) h45, fun hb => k_field6 rfl (ev_tmp h2)⟩)
  case z90 =>
  refine frN4 hs hd h2 h3 h4 h45 ?_; clear hs hd h2 h3 h4 h45; intro a hs hd h2 h3 h4 h45 h46
  refine opG 42 47 (f == f' && iv == iv' && c == c' && u == u' && M == M' && D == D') (v := .slice A3 K.length c3) (by kernel_rfl) (frZ hs) ?z91 ?z92
  case z91 => (intro o ho; obtain rfl := Option.some.inj ho; exact ⟨wanted_is rfl (by kernel_rfl) h45, fun hb => k_loadW rfl (ev_tmp (bif_at h46 hb)) (Bp.cell 6)⟩)
  case z92 =>
  refine frN4 hs hd h2 h3 h4 h45 ?_; clear hs hd h2 h3 h4 h45 h46; intro a hs hd h2 h3 h4 h45 h47
  refine opG 43 48 (f == f' && iv == iv' && c == c' && u == u' && M == M' && D == D') (v := .pointer (some ⟨w1.heap.size, 6, none⟩)) (by kernel_rfl) (frZ hs) ?z93 ?z94
  case z93 => (intro o ho; obtain rfl := Option.some.inj ho; exact ⟨wanted_is rfl (by kernel_rfl) h45, fun hb => k_field6 rfl (ev_tmp h3)⟩)
  case z94 =>
  refine frN5 hs hd h2 h3 h4 h45 h47 ?_; clear hs hd h2 h3 h4 h45 h47; intro a hs hd h2 h3 h4 h45 h47 h48
  refine opG 44 49 (f == f' && iv == iv' && c == c' && u == u' && M == M' && D == D') (v := .slice B3 K'.length d3) (by kernel_rfl) (frZ hs) ?z95 ?z96
  case z95 => (intro o ho; obtain rfl := Option.some.inj ho; exact ⟨wanted_is rfl (by kernel_rfl) h45, fun hb => k_loadW rfl (ev_tmp (bif_at h48 hb)) (Bq.cell 6)⟩)
  case z96 =>
  refine frN5 hs hd h2 h3 h4 h45 h47 ?_; clear hs hd h2 h3 h4 h45 h47 h48; intro a hs hd h2 h3 h4 h45 h47 h49
  have hc := eqN_any A3 B3 c3 d3 K K' v5 hA.k hB.k hA.lk hB.lk
  refine opG_call 45 50 (f == f' && iv == iv' && c == c' && u == u' && M == M' && D == D') (by kernel_rfl) (frZ hs) ?z97 hc ?z98
  case z97 => (intro o ho; obtain rfl := Option.some.inj ho; exact ⟨wanted_is rfl (by kernel_rfl) h45, fun hb => c_EqualN rfl rfl (ev_tmp (bif_at h47 hb)) (ev_tmp (bif_at h49 hb))⟩)
  case z98 =>
  clear hc
  intro v6 a l6 F0
  replace hs := F0.z.trans hs
  replace hd := F0.e.trans hd
  replace h2 := (F0.n 2 (by decide)).trans h2
  replace h3 := (F0.n 3 (by decide)).trans h3
  replace h4 := (F0.n 4 (by decide)).trans h4
  replace h45 := (F0.n 45 (by decide)).trans h45
  clear h47
  clear h49
  have h50 := F0.s
  clear F0
  replace Bp := Bp.below l6 Bp.lt
  replace Bq := Bq.below l6 Bq.lt
  replace hA := hA.below l6
  replace hB := hB.below l6
  replace lz := lz.trans (l6.mono lz.size)
  clear l6
  refine opL 46 51 (v := .bool (f == f' && iv == iv' && c == c' && u == u' && M == M' && D == D' && K == K')) (w' := v6) (by kernel_rfl) (frZ hs) ?_ ?_
  · exact frY rfl (k_pick_and rfl (ev_tmp h45) (ev_tmp h50) rfl)
  refine frN3 hs hd h2 h3 h4 ?_; clear hs hd h2 h3 h4 h45 h50; intro a hs hd h2 h3 h4 h51
  refine opL 47 52 (v := .bool (f == f' && iv == iv' && c == c' && u == u' && M == M' && D == D' && K == K')) (w' := v6) (by kernel_rfl) (frZ hs) ?_ ?_
  · exact frY rfl (k_move rfl (ev_tmp h51))
  clear h51; revert hs hd h2 h3 h4; refine frM3 ?_; intro a hs hd h2 h3 h4 h52
  refine opG 48 53 (f == f' && iv == iv' && c == c' && u == u' && M == M' && D == D' && K == K') (v := .pointer (some ⟨w.heap.size, 7, none⟩)) (by kernel_rfl) (frZ hs) ?z103 ?z104
  case z103 => (intro o ho; obtain rfl := Option.some.inj ho; exact ⟨wanted_is rfl (by kernel_rfl) h52, fun hb => k_field7 rfl (ev_tmp h2)⟩)
  case z104 =>
  refine frN4 hs hd h2 h3 h4 h52 ?_; clear hs hd h2 h3 h4 h52; intro a hs hd h2 h3 h4 h52 h53
  refine opG 49 54 (f == f' && iv == iv' && c == c' && u == u' && M == M' && D == D' && K == K') (v := .slice A4 P.length c4) (by kernel_rfl) (frZ hs) ?z105 ?z106
  case z105 => (intro o ho; obtain rfl := Option.some.inj ho; exact ⟨wanted_is rfl (by kernel_rfl) h52, fun hb => k_loadL rfl (ev_tmp (bif_at h53 hb)) (Bp.cell 7)⟩)
  case z106 =>
  refine frN4 hs hd h2 h3 h4 h52 ?_; clear hs hd h2 h3 h4 h52 h53; intro a hs hd h2 h3 h4 h52 h54
  refine opG 50 55 (f == f' && iv == iv' && c == c' && u == u' && M == M' && D == D' && K == K') (v := .pointer (some ⟨w1.heap.size, 7, none⟩)) (by kernel_rfl) (frZ hs) ?z107 ?z108
  case z107 => (intro o ho; obtain rfl := Option.some.inj ho; exact ⟨wanted_is rfl (by kernel_rfl) h52, fun hb => k_field7 rfl (ev_tmp h3)⟩)
  case z108 =>
  refine frN5 hs hd h2 h3 h4 h52 h54 ?_; clear hs hd h2 h3 h4 h52 h54; intro a hs hd h2 h3 h4 h52 h54 h55
  refine opG 51 56 (f == f' && iv == iv' && c == c' && u == u' && M == M' && D == D' && K == K') (v := .slice B4 P'.length d4) (by kernel_rfl) (frZ hs) ?z109 ?z110
  case z109 => (intro o ho; obtain rfl := Option.some.inj ho; exact ⟨wanted_is rfl (by kernel_rfl) h52, fun hb => k_loadL rfl (ev_tmp (bif_at h55 hb)) (Bq.cell 7)⟩)
  case z110 =>
  refine frN5 hs hd h2 h3 h4 h52 h54 ?_; clear hs hd h2 h3 h4 h52 h54 h55; intro a hs hd h2 h3 h4 h52 h54 h56
  have hc := eqI_any A4 B4 c4 d4 P P' v6 hA.p hB.p hA.lp hB.lp
  refine opG_call 52 57 (f == f' && iv == iv' && c == c' && u == u' && M == M' && D == D' && K == K') (by kernel_rfl) (frZ hs) ?z111 hc ?z112
  case z111 => (intro o ho; obtain rfl := Option.some.inj ho; exact ⟨wanted_is rfl (by kernel_rfl) h52, fun hb => c_EqualI rfl rfl (ev_tmp (bif_at h54 hb)) (ev_tmp (bif_at h56 hb))⟩)
  case z112 =>
  clear hc
  intro v7 a l7 F0
  replace hs := F0.z.trans hs
  replace hd := F0.e.trans hd
  replace h2 := (F0.n 2 (by decide)).trans h2
  replace h3 := (F0.n 3 (by decide)).trans h3
  replace h4 := (F0.n 4 (by decide)).trans h4
  replace h52 := (F0.n 52 (by decide)).trans h52
  clear h54
  clear h56
  have h57 := F0.s
  clear F0
  replace Bp := Bp.below l7 Bp.lt
  replace Bq := Bq.below l7 Bq.lt
  replace hA := hA.below l7
  replace hB := hB.below l7
  replace lz := lz.trans (l7.mono lz.size)
  clear l7
  refine opL 53 58 (v := .bool (f == f' && iv == iv' && c == c' && u == u' && M == M' && D == D' && K == K' && P == P')) (w' := v7) (by kernel_rfl) (frZ hs) ?_ ?_
  · exact frY rfl (k_pick_and rfl (ev_tmp h52) (ev_tmp h57) rfl)
  refine frN3 hs hd h2 h3 h4 ?_; clear hs hd h2 h3 h4 h52 h57; intro a hs hd h2 h3 h4 h58
  refine opL 54 4 (v := .bool (f == f' && iv == iv' && c == c' && u == u' && M == M' && D == D' && K == K' && P == P')) (w' := v7) (by kernel_rfl) (frZ hs) ?_ ?_
  · exact frY rfl (k_assign rfl (ev_tmp h58))
  clear h4 h58; revert hs hd h2 h3; refine frM2 ?_; intro a hs hd h2 h3 h4
  refine wp_ret ?_
  exact hfin a _ hd h4 lz
end Go.Proofs.YtocpmljkmdpfkaaGreatDoor
