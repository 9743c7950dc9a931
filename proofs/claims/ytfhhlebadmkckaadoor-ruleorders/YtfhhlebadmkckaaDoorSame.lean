/-
  rule.Same answers whether the fields are the same.
-/
import Derived.Test.YtfhhlebadmkckaaDoorEql
namespace Go.Proofs.YtfhhlebadmkckaaDoor
open Go.RowKit
noncomputable def sameBody : Code := Tryd.f11.body.getD .skip
set_option maxRecDepth 100000 in
set_option maxHeartbeats 1000000 in
theorem same_any (f iv c u f' iv' c' u' : Int) (A1 A2 A3 A4 B1 B2 B3 B4 : Option Addr) (c1 c2 c3 c4 d1 d2 d3 d4 : Nat) (M D M' D' : List Int) (K K' : List (Int × Int)) (P P' : List Int) (w : World) (hA : PlainR w A1 A2 A3 A4 M D K P) (hB : PlainR w B1 B2 B3 B4 M' D' K' P') :
    Calls Tryd.prog 11 #[.agg #[.int .i64 f, .int .i64 iv, .int .i64 c, .int .i64 u, .slice A1 M.length c1, .slice A2 D.length c2, .slice A3 K.length c3, .slice A4 P.length c4], .agg #[.int .i64 f', .int .i64 iv', .int .i64 c', .int .i64 u', .slice B1 M'.length d1, .slice B2 D'.length d2, .slice B3 K'.length d3, .slice B4 P'.length d4]] w fun e w' => ∃ v, e = .returned v ∧ v = .bool (sameB f iv c u M D K P f' iv' c' u' M' D' K' P') ∧ Below w.heap.size w w' := by
  refine calls_of_wp Tryd.func11 (show Tryd.f11.body = some sameBody from rfl) ?_
  generalize hAA : (Act.mk (#[.agg #[.int .i64 f, .int .i64 iv, .int .i64 c, .int .i64 u, .slice A1 M.length c1, .slice A2 D.length c2, .slice A3 K.length c3, .slice A4 P.length c4], .agg #[.int .i64 f', .int .i64 iv', .int .i64 c', .int .i64 u', .slice B1 M'.length d1, .slice B2 D'.length d2, .slice B3 K'.length d3, .slice B4 P'.length d4]] ++ Array.replicate (Tryd.f11.ntmps - (#[.agg #[.int .i64 f, .int .i64 iv, .int .i64 c, .int .i64 u, .slice A1 M.length c1, .slice A2 D.length c2, .slice A3 K.length c3, .slice A4 P.length c4], .agg #[.int .i64 f', .int .i64 iv', .int .i64 c', .int .i64 u', .slice B1 M'.length d1, .slice B2 D'.length d2, .slice B3 K'.length d3, .slice B4 P'.length d4]] : Array Value).size) undef) []) = a
  have hs : a.tmps.size = 59 := by rw [← hAA]; simp [Tryd.ntmps11]
  have hd : a.defers = [] := by rw [← hAA]
  have h0 : a.tmps.getD 0 undef = .agg #[.int .i64 f, .int .i64 iv, .int .i64 c, .int .i64 u, .slice A1 M.length c1, .slice A2 D.length c2, .slice A3 K.length c3, .slice A4 P.length c4] := by rw [← hAA]; simp
  have h1 : a.tmps.getD 1 undef = .agg #[.int .i64 f', .int .i64 iv', .int .i64 c', .int .i64 u', .slice B1 M'.length d1, .slice B2 D'.length d2, .slice B3 K'.length d3, .slice B4 P'.length d4] := by rw [← hAA]; simp
  clear hAA
  have hfin : ∀ (a' : Act) (w' : World), a'.defers = [] → a'.tmps.getD 4 undef = .bool (sameB f iv c u M D K P f' iv' c' u' M' D' K' P') → Below w.heap.size w w' → (bodyPost Tryd.prog Tryd.f11 fun e w' => ∃ v, e = .returned v ∧ v = .bool (sameB f iv c u M D K P f' iv' c' u' M' D' K' P') ∧ Below w.heap.size w w') .ret a' w' := by
    intro a' w' k1 k2 k3
    exact ⟨k1, _, results_tmp rfl _ _ _, _, rfl, k2, k3⟩
  generalize (bodyPost Tryd.prog Tryd.f11 fun e w' => ∃ v, e = .returned v ∧ v = .bool (sameB f iv c u M D K P f' iv' c' u' M' D' K' P') ∧ Below w.heap.size w w') = Q at hfin
  unfold sameBody
  conv => arg 2; whnf
  refine wp_seq ?_
  refine wp_region (show wpOps _ _ _ [0, 1, 2] _ _ from ?_)
  refine opL 0 2 (v := .pointer (some ⟨w.heap.size, 0, none⟩)) (w' := (w.alloc (.cells #[.int .i64 f, .int .i64 iv, .int .i64 c, .int .i64 u, .slice A1 M.length c1, .slice A2 D.length c2, .slice A3 K.length c3, .slice A4 P.length c4] 39))) (by kernel_rfl) (by rw [hs]; decide) ?z1 ?z2
  case z1 => (intro o ho; obtain rfl := Option.some.inj ho; exact ⟨rfl, k_boxR rfl (ev_tmp h0)⟩)
  case z2 =>
  intro a F0
  replace hs := F0.z.trans hs
  replace hd := F0.e.trans hd
  clear h0
  replace h1 := (F0.n 1 (by decide)).trans h1
  have h2 := F0.s
  clear F0
  obtain ⟨w1, hw1⟩ : ∃ wn, wn = w.alloc (.cells #[.int .i64 f, .int .i64 iv, .int .i64 c, .int .i64 u, .slice A1 M.length c1, .slice A2 D.length c2, .slice A3 K.length c3, .slice A4 P.length c4] 39) := ⟨_, rfl⟩
  rw [← hw1]
  have q1 : Blk w1 w.heap.size 39 #[.int .i64 f, .int .i64 iv, .int .i64 c, .int .i64 u, .slice A1 M.length c1, .slice A2 D.length c2, .slice A3 K.length c3, .slice A4 P.length c4] := by rw [hw1]; exact Blk.alloc _ _ _
  have l1 : Below w.heap.size w w1 := by rw [hw1]; exact (Below.refl _ _).alloc (Nat.le_refl _) _
  clear hw1
  refine opL 1 3 (v := .pointer (some ⟨w1.heap.size, 0, none⟩)) (w' := (w1.alloc (.cells #[.int .i64 f', .int .i64 iv', .int .i64 c', .int .i64 u', .slice B1 M'.length d1, .slice B2 D'.length d2, .slice B3 K'.length d3, .slice B4 P'.length d4] 39))) (by kernel_rfl) (by rw [hs]; decide) ?z3 ?z4
  case z3 => (intro o ho; obtain rfl := Option.some.inj ho; exact ⟨rfl, k_boxR rfl (ev_tmp h1)⟩)
  case z4 =>
  intro a F0
  replace hs := F0.z.trans hs
  replace hd := F0.e.trans hd
  clear h1
  replace h2 := (F0.n 2 (by decide)).trans h2
  have h3 := F0.s
  clear F0
  obtain ⟨w2, hw2⟩ : ∃ wn, wn = w1.alloc (.cells #[.int .i64 f', .int .i64 iv', .int .i64 c', .int .i64 u', .slice B1 M'.length d1, .slice B2 D'.length d2, .slice B3 K'.length d3, .slice B4 P'.length d4] 39) := ⟨_, rfl⟩
  rw [← hw2]
  have q2 : Blk w2 w1.heap.size 39 #[.int .i64 f', .int .i64 iv', .int .i64 c', .int .i64 u', .slice B1 M'.length d1, .slice B2 D'.length d2, .slice B3 K'.length d3, .slice B4 P'.length d4] := by rw [hw2]; exact Blk.alloc _ _ _
  have l2 : Below w1.heap.size w1 w2 := by rw [hw2]; exact (Below.refl _ _).alloc (Nat.le_refl _) _
  clear hw2
  have Bp := q1.below l2 q1.lt
  have Bq := q2
  have lz := l1.trans (l2.mono l1.size)
  replace hA := (hA.below l1).below l2
  replace hB := (hB.below l1).below l2
  clear q1 q2 l1 l2
  refine opL 2 4 (v := .bool false) (w' := w2) (by kernel_rfl) (by rw [hs]; decide) ?z5 ?z6
  case z5 => (intro o ho; obtain rfl := Option.some.inj ho; exact ⟨rfl, k_assign rfl rfl⟩)
  case z6 =>
  intro a F0
  replace hs := F0.z.trans hs
  replace hd := F0.e.trans hd
  replace h2 := (F0.n 2 (by decide)).trans h2
  replace h3 := (F0.n 3 (by decide)).trans h3
  have h4 := F0.s
  clear F0
  refine wp_seq ?_
  refine wp_region (show wpOps _ _ _ [0, 1, 2, 3, 4, 5, 6, 7, 8, 9, 10, 11, 12, 13, 14, 15, 16, 17, 18, 19, 20, 21, 22, 23, 24, 25, 26, 27, 28, 29, 30, 31, 32, 33, 34, 35, 36, 37, 38, 39, 40, 41, 42, 43, 44, 45, 46, 47, 48, 49, 50, 51, 52, 53, 54] _ _ from ?_)
  refine opL 0 5 (v := .pointer (some ⟨w.heap.size, 0, none⟩)) (w' := w2) (by kernel_rfl) (by rw [hs]; decide) ?z7 ?z8
  case z7 => (intro o ho; obtain rfl := Option.some.inj ho; exact ⟨rfl, k_field0 rfl (ev_tmp h2)⟩)
  case z8 =>
  intro a F0
  replace hs := F0.z.trans hs
  replace hd := F0.e.trans hd
  replace h2 := (F0.n 2 (by decide)).trans h2
  replace h3 := (F0.n 3 (by decide)).trans h3
  replace h4 := (F0.n 4 (by decide)).trans h4
  have h5 := F0.s
  clear F0
  refine opL 1 6 (v := .int .i64 f) (w' := w2) (by kernel_rfl) (by rw [hs]; decide) ?z9 ?z10
  case z9 => (intro o ho; obtain rfl := Option.some.inj ho; exact ⟨rfl, k_loadF rfl (ev_tmp h5) (Bp.cell 0)⟩)
  case z10 =>
  intro a F0
  replace hs := F0.z.trans hs
  replace hd := F0.e.trans hd
  replace h2 := (F0.n 2 (by decide)).trans h2
  replace h3 := (F0.n 3 (by decide)).trans h3
  replace h4 := (F0.n 4 (by decide)).trans h4
  clear h5
  have h6 := F0.s
  clear F0
  refine opL 2 7 (v := .pointer (some ⟨w1.heap.size, 0, none⟩)) (w' := w2) (by kernel_rfl) (by rw [hs]; decide) ?z11 ?z12
  case z11 => (intro o ho; obtain rfl := Option.some.inj ho; exact ⟨rfl, k_field0 rfl (ev_tmp h3)⟩)
  case z12 =>
  intro a F0
  replace hs := F0.z.trans hs
  replace hd := F0.e.trans hd
  replace h2 := (F0.n 2 (by decide)).trans h2
  replace h3 := (F0.n 3 (by decide)).trans h3
  replace h4 := (F0.n 4 (by decide)).trans h4
  replace h6 := (F0.n 6 (by decide)).trans h6
  have h7 := F0.s
  clear F0
  refine opL 3 8 (v := .int .i64 f') (w' := w2) (by kernel_rfl) (by rw [hs]; decide) ?z13 ?z14
  case z13 => (intro o ho; obtain rfl := Option.some.inj ho; exact ⟨rfl, k_loadF rfl (ev_tmp h7) (Bq.cell 0)⟩)
  case z14 =>
  intro a F0
  replace hs := F0.z.trans hs
  replace hd := F0.e.trans hd
  replace h2 := (F0.n 2 (by decide)).trans h2
  replace h3 := (F0.n 3 (by decide)).trans h3
  replace h4 := (F0.n 4 (by decide)).trans h4
  replace h6 := (F0.n 6 (by decide)).trans h6
  clear h7
  have h8 := F0.s
  clear F0
  refine opL 4 9 (v := .bool (f == f')) (w' := w2) (by kernel_rfl) (by rw [hs]; decide) ?z15 ?z16
  case z15 => (intro o ho; obtain rfl := Option.some.inj ho; exact ⟨rfl, o_eqF rfl (ev_tmp h6) (ev_tmp h8) rfl⟩)
  case z16 =>
  intro a F0
  replace hs := F0.z.trans hs
  replace hd := F0.e.trans hd
  replace h2 := (F0.n 2 (by decide)).trans h2
  replace h3 := (F0.n 3 (by decide)).trans h3
  replace h4 := (F0.n 4 (by decide)).trans h4
  clear h6
  clear h8
  have h9 := F0.s
  clear F0
  refine opL 5 10 (v := .bool (f == f')) (w' := w2) (by kernel_rfl) (by rw [hs]; decide) ?z17 ?z18
  case z17 => (intro o ho; obtain rfl := Option.some.inj ho; exact ⟨rfl, k_move rfl (ev_tmp h9)⟩)
  case z18 =>
  intro a F0
  replace hs := F0.z.trans hs
  replace hd := F0.e.trans hd
  replace h2 := (F0.n 2 (by decide)).trans h2
  replace h3 := (F0.n 3 (by decide)).trans h3
  replace h4 := (F0.n 4 (by decide)).trans h4
  clear h9
  have h10 := F0.s
  clear F0
  refine opG 6 11 (f == f') (v := .pointer (some ⟨w.heap.size, 1, none⟩)) (by kernel_rfl) (by rw [hs]; decide) ?z19 ?z20
  case z19 => (intro o ho; obtain rfl := Option.some.inj ho; exact ⟨wanted_is rfl (by kernel_rfl) h10, fun hb => k_field1 rfl (ev_tmp h2)⟩)
  case z20 =>
  intro a F0
  replace hs := F0.z.trans hs
  replace hd := F0.e.trans hd
  replace h2 := (F0.n 2 (by decide)).trans h2
  replace h3 := (F0.n 3 (by decide)).trans h3
  replace h4 := (F0.n 4 (by decide)).trans h4
  replace h10 := (F0.n 10 (by decide)).trans h10
  have h11 := F0.s
  clear F0
  refine opG 7 12 (f == f') (v := .int .i64 iv) (by kernel_rfl) (by rw [hs]; decide) ?z21 ?z22
  case z21 => (intro o ho; obtain rfl := Option.some.inj ho; exact ⟨wanted_is rfl (by kernel_rfl) h10, fun hb => k_loadI rfl (ev_tmp (bif_at h11 hb)) (Bp.cell 1)⟩)
  case z22 =>
  intro a F0
  replace hs := F0.z.trans hs
  replace hd := F0.e.trans hd
  replace h2 := (F0.n 2 (by decide)).trans h2
  replace h3 := (F0.n 3 (by decide)).trans h3
  replace h4 := (F0.n 4 (by decide)).trans h4
  replace h10 := (F0.n 10 (by decide)).trans h10
  clear h11
  have h12 := F0.s
  clear F0
  refine opG 8 13 (f == f') (v := .pointer (some ⟨w1.heap.size, 1, none⟩)) (by kernel_rfl) (by rw [hs]; decide) ?z23 ?z24
  case z23 => (intro o ho; obtain rfl := Option.some.inj ho; exact ⟨wanted_is rfl (by kernel_rfl) h10, fun hb => k_field1 rfl (ev_tmp h3)⟩)
  case z24 =>
  intro a F0
  replace hs := F0.z.trans hs
  replace hd := F0.e.trans hd
  replace h2 := (F0.n 2 (by decide)).trans h2
  replace h3 := (F0.n 3 (by decide)).trans h3
  replace h4 := (F0.n 4 (by decide)).trans h4
  replace h10 := (F0.n 10 (by decide)).trans h10
  replace h12 := (F0.n 12 (by decide)).trans h12
  have h13 := F0.s
  clear F0
  refine opG 9 14 (f == f') (v := .int .i64 iv') (by kernel_rfl) (by rw [hs]; decide) ?z25 ?z26
  case z25 => (intro o ho; obtain rfl := Option.some.inj ho; exact ⟨wanted_is rfl (by kernel_rfl) h10, fun hb => k_loadI rfl (ev_tmp (bif_at h13 hb)) (Bq.cell 1)⟩)
  case z26 =>
  intro a F0
  replace hs := F0.z.trans hs
  replace hd := F0.e.trans hd
  replace h2 := (F0.n 2 (by decide)).trans h2
  replace h3 := (F0.n 3 (by decide)).trans h3
  replace h4 := (F0.n 4 (by decide)).trans h4
  replace h10 := (F0.n 10 (by decide)).trans h10
  replace h12 := (F0.n 12 (by decide)).trans h12
  clear h13
  have h14 := F0.s
  clear F0
  refine opG 10 15 (f == f') (v := .bool (iv == iv')) (by kernel_rfl) (by rw [hs]; decide) ?z27 ?z28
  case z27 => (intro o ho; obtain rfl := Option.some.inj ho; exact ⟨wanted_is rfl (by kernel_rfl) h10, fun hb => o_eqI rfl (ev_tmp (bif_at h12 hb)) (ev_tmp (bif_at h14 hb)) rfl⟩)
  case z28 =>
  intro a F0
  replace hs := F0.z.trans hs
  replace hd := F0.e.trans hd
  replace h2 := (F0.n 2 (by decide)).trans h2
  replace h3 := (F0.n 3 (by decide)).trans h3
  replace h4 := (F0.n 4 (by decide)).trans h4
  replace h10 := (F0.n 10 (by decide)).trans h10
  clear h12
  clear h14
  have h15 := F0.s
  clear F0
  refine opL 11 16 (v := .bool (f == f' && iv == iv')) (w' := w2) (by kernel_rfl) (by rw [hs]; decide) ?z29 ?z30
  case z29 => (intro o ho; obtain rfl := Option.some.inj ho; exact ⟨rfl, k_pick_and rfl (ev_tmp h10) (ev_tmp h15) rfl⟩)
  case z30 =>
  intro a F0
  replace hs := F0.z.trans hs
  replace hd := F0.e.trans hd
  replace h2 := (F0.n 2 (by decide)).trans h2
  replace h3 := (F0.n 3 (by decide)).trans h3
  replace h4 := (F0.n 4 (by decide)).trans h4
  clear h10
  clear h15
  have h16 := F0.s
  clear F0
  refine opL 12 17 (v := .bool (f == f' && iv == iv')) (w' := w2) (by kernel_rfl) (by rw [hs]; decide) ?z31 ?z32
  case z31 => (intro o ho; obtain rfl := Option.some.inj ho; exact ⟨rfl, k_move rfl (ev_tmp h16)⟩)
  case z32 =>
  intro a F0
  replace hs := F0.z.trans hs
  replace hd := F0.e.trans hd
  replace h2 := (F0.n 2 (by decide)).trans h2
  replace h3 := (F0.n 3 (by decide)).trans h3
  replace h4 := (F0.n 4 (by decide)).trans h4
  clear h16
  have h17 := F0.s
  clear F0
  refine opG 13 18 (f == f' && iv == iv') (v := .pointer (some ⟨w.heap.size, 2, none⟩)) (by kernel_rfl) (by rw [hs]; decide) ?z33 ?z34
  case z33 => (intro o ho; obtain rfl := Option.some.inj ho; exact ⟨wanted_is rfl (by kernel_rfl) h17, fun hb => k_field2 rfl (ev_tmp h2)⟩)
  case z34 =>
  intro a F0
  replace hs := F0.z.trans hs
  replace hd := F0.e.trans hd
  replace h2 := (F0.n 2 (by decide)).trans h2
  replace h3 := (F0.n 3 (by decide)).trans h3
  replace h4 := (F0.n 4 (by decide)).trans h4
  replace h17 := (F0.n 17 (by decide)).trans h17
  have h18 := F0.s
  clear F0
  refine opG 14 19 (f == f' && iv == iv') (v := .int .i64 c) (by kernel_rfl) (by rw [hs]; decide) ?z35 ?z36
  case z35 => (intro o ho; obtain rfl := Option.some.inj ho; exact ⟨wanted_is rfl (by kernel_rfl) h17, fun hb => k_loadI rfl (ev_tmp (bif_at h18 hb)) (Bp.cell 2)⟩)
  case z36 =>
  intro a F0
  replace hs := F0.z.trans hs
  replace hd := F0.e.trans hd
  replace h2 := (F0.n 2 (by decide)).trans h2
  replace h3 := (F0.n 3 (by decide)).trans h3
  replace h4 := (F0.n 4 (by decide)).trans h4
  replace h17 := (F0.n 17 (by decide)).trans h17
  clear h18
  have h19 := F0.s
  clear F0
  refine opG 15 20 (f == f' && iv == iv') (v := .pointer (some ⟨w1.heap.size, 2, none⟩)) (by kernel_rfl) (by rw [hs]; decide) ?z37 ?z38
  case z37 => (intro o ho; obtain rfl := Option.some.inj ho; exact ⟨wanted_is rfl (by kernel_rfl) h17, fun hb => k_field2 rfl (ev_tmp h3)⟩)
  case z38 =>
  intro a F0
  replace hs := F0.z.trans hs
  replace hd := F0.e.trans hd
  replace h2 := (F0.n 2 (by decide)).trans h2
  replace h3 := (F0.n 3 (by decide)).trans h3
  replace h4 := (F0.n 4 (by decide)).trans h4
  replace h17 := (F0.n 17 (by decide)).trans h17
  replace h19 := (F0.n 19 (by decide)).trans h19
  have h20 := F0.s
  clear F0
  refine opG 16 21 (f == f' && iv == iv') (v := .int .i64 c') (by kernel_rfl) (by rw [hs]; decide) ?z39 ?z40
  case z39 => (intro o ho; obtain rfl := Option.some.inj ho; exact ⟨wanted_is rfl (by kernel_rfl) h17, fun hb => k_loadI rfl (ev_tmp (bif_at h20 hb)) (Bq.cell 2)⟩)
  case z40 =>
  intro a F0
  replace hs := F0.z.trans hs
  replace hd := F0.e.trans hd
  replace h2 := (F0.n 2 (by decide)).trans h2
  replace h3 := (F0.n 3 (by decide)).trans h3
  replace h4 := (F0.n 4 (by decide)).trans h4
  replace h17 := (F0.n 17 (by decide)).trans h17
  replace h19 := (F0.n 19 (by decide)).trans h19
  clear h20
  have h21 := F0.s
  clear F0
  refine opG 17 22 (f == f' && iv == iv') (v := .bool (c == c')) (by kernel_rfl) (by rw [hs]; decide) ?z41 ?z42
  case z41 => (intro o ho; obtain rfl := Option.some.inj ho; exact ⟨wanted_is rfl (by kernel_rfl) h17, fun hb => o_eqI rfl (ev_tmp (bif_at h19 hb)) (ev_tmp (bif_at h21 hb)) rfl⟩)
  case z42 =>
  intro a F0
  replace hs := F0.z.trans hs
  replace hd := F0.e.trans hd
  replace h2 := (F0.n 2 (by decide)).trans h2
  replace h3 := (F0.n 3 (by decide)).trans h3
  replace h4 := (F0.n 4 (by decide)).trans h4
  replace h17 := (F0.n 17 (by decide)).trans h17
  clear h19
  clear h21
  have h22 := F0.s
  clear F0
  refine opL 18 23 (v := .bool (f == f' && iv == iv' && c == c')) (w' := w2) (by kernel_rfl) (by rw [hs]; decide) ?z43 ?z44
  case z43 => (intro o ho; obtain rfl := Option.some.inj ho; exact ⟨rfl, k_pick_and rfl (ev_tmp h17) (ev_tmp h22) rfl⟩)
  case z44 =>
  intro a F0
  replace hs := F0.z.trans hs
  replace hd := F0.e.trans hd
  replace h2 := (F0.n 2 (by decide)).trans h2
  replace h3 := (F0.n 3 (by decide)).trans h3
  replace h4 := (F0.n 4 (by decide)).trans h4
  clear h17
  clear h22
  have h23 := F0.s
  clear F0
  refine opL 19 24 (v := .bool (f == f' && iv == iv' && c == c')) (w' := w2) (by kernel_rfl) (by rw [hs]; decide) ?z45 ?z46
  case z45 => (intro o ho; obtain rfl := Option.some.inj ho; exact ⟨rfl, k_move rfl (ev_tmp h23)⟩)
  case z46 =>
  intro a F0
  replace hs := F0.z.trans hs
  replace hd := F0.e.trans hd
  replace h2 := (F0.n 2 (by decide)).trans h2
  replace h3 := (F0.n 3 (by decide)).trans h3
  replace h4 := (F0.n 4 (by decide)).trans h4
  clear h23
  have h24 := F0.s
  clear F0
  refine opG 20 25 (f == f' && iv == iv' && c == c') (v := .pointer (some ⟨w.heap.size, 3, none⟩)) (by kernel_rfl) (by rw [hs]; decide) ?z47 ?z48
  case z47 => (intro o ho; obtain rfl := Option.some.inj ho; exact ⟨wanted_is rfl (by kernel_rfl) h24, fun hb => k_field3 rfl (ev_tmp h2)⟩)
  case z48 =>
  intro a F0
  replace hs := F0.z.trans hs
  replace hd := F0.e.trans hd
  replace h2 := (F0.n 2 (by decide)).trans h2
  replace h3 := (F0.n 3 (by decide)).trans h3
  replace h4 := (F0.n 4 (by decide)).trans h4
  replace h24 := (F0.n 24 (by decide)).trans h24
  have h25 := F0.s
  clear F0
  refine opG 21 26 (f == f' && iv == iv' && c == c') (v := .int .i64 u) (by kernel_rfl) (by rw [hs]; decide) ?z49 ?z50
  case z49 => (intro o ho; obtain rfl := Option.some.inj ho; exact ⟨wanted_is rfl (by kernel_rfl) h24, fun hb => k_loadU rfl (ev_tmp (bif_at h25 hb)) (Bp.cell 3)⟩)
  case z50 =>
  intro a F0
  replace hs := F0.z.trans hs
  replace hd := F0.e.trans hd
  replace h2 := (F0.n 2 (by decide)).trans h2
  replace h3 := (F0.n 3 (by decide)).trans h3
  replace h4 := (F0.n 4 (by decide)).trans h4
  replace h24 := (F0.n 24 (by decide)).trans h24
  clear h25
  have h26 := F0.s
  clear F0
  refine opG 22 27 (f == f' && iv == iv' && c == c') (v := .pointer (some ⟨w1.heap.size, 3, none⟩)) (by kernel_rfl) (by rw [hs]; decide) ?z51 ?z52
  case z51 => (intro o ho; obtain rfl := Option.some.inj ho; exact ⟨wanted_is rfl (by kernel_rfl) h24, fun hb => k_field3 rfl (ev_tmp h3)⟩)
  case z52 =>
  intro a F0
  replace hs := F0.z.trans hs
  replace hd := F0.e.trans hd
  replace h2 := (F0.n 2 (by decide)).trans h2
  replace h3 := (F0.n 3 (by decide)).trans h3
  replace h4 := (F0.n 4 (by decide)).trans h4
  replace h24 := (F0.n 24 (by decide)).trans h24
  replace h26 := (F0.n 26 (by decide)).trans h26
  have h27 := F0.s
  clear F0
  refine opG 23 28 (f == f' && iv == iv' && c == c') (v := .int .i64 u') (by kernel_rfl) (by rw [hs]; decide) ?z53 ?z54
  case z53 => (intro o ho; obtain rfl := Option.some.inj ho; exact ⟨wanted_is rfl (by kernel_rfl) h24, fun hb => k_loadU rfl (ev_tmp (bif_at h27 hb)) (Bq.cell 3)⟩)
  case z54 =>
  intro a F0
  replace hs := F0.z.trans hs
  replace hd := F0.e.trans hd
  replace h2 := (F0.n 2 (by decide)).trans h2
  replace h3 := (F0.n 3 (by decide)).trans h3
  replace h4 := (F0.n 4 (by decide)).trans h4
  replace h24 := (F0.n 24 (by decide)).trans h24
  replace h26 := (F0.n 26 (by decide)).trans h26
  clear h27
  have h28 := F0.s
  clear F0
  refine opG 24 29 (f == f' && iv == iv' && c == c') (v := .bool (u == u')) (by kernel_rfl) (by rw [hs]; decide) ?z55 ?z56
  case z55 => (intro o ho; obtain rfl := Option.some.inj ho; exact ⟨wanted_is rfl (by kernel_rfl) h24, fun hb => o_eqU rfl (ev_tmp (bif_at h26 hb)) (ev_tmp (bif_at h28 hb)) rfl⟩)
  case z56 =>
  intro a F0
  replace hs := F0.z.trans hs
  replace hd := F0.e.trans hd
  replace h2 := (F0.n 2 (by decide)).trans h2
  replace h3 := (F0.n 3 (by decide)).trans h3
  replace h4 := (F0.n 4 (by decide)).trans h4
  replace h24 := (F0.n 24 (by decide)).trans h24
  clear h26
  clear h28
  have h29 := F0.s
  clear F0
  refine opL 25 30 (v := .bool (f == f' && iv == iv' && c == c' && u == u')) (w' := w2) (by kernel_rfl) (by rw [hs]; decide) ?z57 ?z58
  case z57 => (intro o ho; obtain rfl := Option.some.inj ho; exact ⟨rfl, k_pick_and rfl (ev_tmp h24) (ev_tmp h29) rfl⟩)
  case z58 =>
  intro a F0
  replace hs := F0.z.trans hs
  replace hd := F0.e.trans hd
  replace h2 := (F0.n 2 (by decide)).trans h2
  replace h3 := (F0.n 3 (by decide)).trans h3
  replace h4 := (F0.n 4 (by decide)).trans h4
  clear h24
  clear h29
  have h30 := F0.s
  clear F0
  refine opL 26 31 (v := .bool (f == f' && iv == iv' && c == c' && u == u')) (w' := w2) (by kernel_rfl) (by rw [hs]; decide) ?z59 ?z60
  case z59 => (intro o ho; obtain rfl := Option.some.inj ho; exact ⟨rfl, k_move rfl (ev_tmp h30)⟩)
  case z60 =>
  intro a F0
  replace hs := F0.z.trans hs
  replace hd := F0.e.trans hd
  replace h2 := (F0.n 2 (by decide)).trans h2
  replace h3 := (F0.n 3 (by decide)).trans h3
  replace h4 := (F0.n 4 (by decide)).trans h4
  clear h30
  have h31 := F0.s
  clear F0
  refine opG 27 32 (f == f' && iv == iv' && c == c' && u == u') (v := .pointer (some ⟨w.heap.size, 4, none⟩)) (by kernel_rfl) (by rw [hs]; decide) ?z61 ?z62
  case z61 => (intro o ho; obtain rfl := Option.some.inj ho; exact ⟨wanted_is rfl (by kernel_rfl) h31, fun hb => k_field4 rfl (ev_tmp h2)⟩)
  case z62 =>
  intro a F0
  replace hs := F0.z.trans hs
  replace hd := F0.e.trans hd
  replace h2 := (F0.n 2 (by decide)).trans h2
  replace h3 := (F0.n 3 (by decide)).trans h3
  replace h4 := (F0.n 4 (by decide)).trans h4
  replace h31 := (F0.n 31 (by decide)).trans h31
  have h32 := F0.s
  clear F0
  refine opG 28 33 (f == f' && iv == iv' && c == c' && u == u') (v := .slice A1 M.length c1) (by kernel_rfl) (by rw [hs]; decide) ?z63 ?z64
  case z63 => (intro o ho; obtain rfl := Option.some.inj ho; exact ⟨wanted_is rfl (by kernel_rfl) h31, fun hb => k_loadL rfl (ev_tmp (bif_at h32 hb)) (Bp.cell 4)⟩)
  case z64 =>
  intro a F0
  replace hs := F0.z.trans hs
  replace hd := F0.e.trans hd
  replace h2 := (F0.n 2 (by decide)).trans h2
  replace h3 := (F0.n 3 (by decide)).trans h3
  replace h4 := (F0.n 4 (by decide)).trans h4
  replace h31 := (F0.n 31 (by decide)).trans h31
  clear h32
  have h33 := F0.s
  clear F0
  refine opG 29 34 (f == f' && iv == iv' && c == c' && u == u') (v := .pointer (some ⟨w1.heap.size, 4, none⟩)) (by kernel_rfl) (by rw [hs]; decide) ?z65 ?z66
  case z65 => (intro o ho; obtain rfl := Option.some.inj ho; exact ⟨wanted_is rfl (by kernel_rfl) h31, fun hb => k_field4 rfl (ev_tmp h3)⟩)
  case z66 =>
  intro a F0
  replace hs := F0.z.trans hs
  replace hd := F0.e.trans hd
  replace h2 := (F0.n 2 (by decide)).trans h2
  replace h3 := (F0.n 3 (by decide)).trans h3
  replace h4 := (F0.n 4 (by decide)).trans h4
  replace h31 := (F0.n 31 (by decide)).trans h31
  replace h33 := (F0.n 33 (by decide)).trans h33
  have h34 := F0.s
  clear F0
  refine opG 30 35 (f == f' && iv == iv' && c == c' && u == u') (v := .slice B1 M'.length d1) (by kernel_rfl) (by rw [hs]; decide) ?z67 ?z68
  case z67 => (intro o ho; obtain rfl := Option.some.inj ho; exact ⟨wanted_is rfl (by kernel_rfl) h31, fun hb => k_loadL rfl (ev_tmp (bif_at h34 hb)) (Bq.cell 4)⟩)
  case z68 =>
  intro a F0
  replace hs := F0.z.trans hs
  replace hd := F0.e.trans hd
  replace h2 := (F0.n 2 (by decide)).trans h2
  replace h3 := (F0.n 3 (by decide)).trans h3
  replace h4 := (F0.n 4 (by decide)).trans h4
  replace h31 := (F0.n 31 (by decide)).trans h31
  replace h33 := (F0.n 33 (by decide)).trans h33
  clear h34
  have h35 := F0.s
  clear F0
  have hc := eqI_any A1 B1 c1 d1 M M' w2 hA.m hB.m hA.lm hB.lm
  refine opG_call 31 36 (f == f' && iv == iv' && c == c' && u == u') (by kernel_rfl) (by rw [hs]; decide) ?z69 hc ?z70
  case z69 => (intro o ho; obtain rfl := Option.some.inj ho; exact ⟨wanted_is rfl (by kernel_rfl) h31, fun hb => c_EqualI rfl rfl (ev_tmp (bif_at h33 hb)) (ev_tmp (bif_at h35 hb))⟩)
  case z70 =>
  clear hc
  intro v4 a l4 F0
  replace hs := F0.z.trans hs
  replace hd := F0.e.trans hd
  replace h2 := (F0.n 2 (by decide)).trans h2
  replace h3 := (F0.n 3 (by decide)).trans h3
  replace h4 := (F0.n 4 (by decide)).trans h4
  replace h31 := (F0.n 31 (by decide)).trans h31
  clear h33
  clear h35
  have h36 := F0.s
  clear F0
  replace Bp := Bp.below l4 Bp.lt
  replace Bq := Bq.below l4 Bq.lt
  replace hA := hA.below l4
  replace hB := hB.below l4
  replace lz := lz.trans (l4.mono lz.size)
  clear l4
  refine opL 32 37 (v := .bool (f == f' && iv == iv' && c == c' && u == u' && M == M')) (w' := v4) (by kernel_rfl) (by rw [hs]; decide) ?z71 ?z72
  case z71 => (intro o ho; obtain rfl := Option.some.inj ho; exact ⟨rfl, k_pick_and rfl (ev_tmp h31) (ev_tmp h36) rfl⟩)
  case z72 =>
  intro a F0
  replace hs := F0.z.trans hs
  replace hd := F0.e.trans hd
  replace h2 := (F0.n 2 (by decide)).trans h2
  replace h3 := (F0.n 3 (by decide)).trans h3
  replace h4 := (F0.n 4 (by decide)).trans h4
  clear h31
  clear h36
  have h37 := F0.s
  clear F0
  refine opL 33 38 (v := .bool (f == f' && iv == iv' && c == c' && u == u' && M == M')) (w' := v4) (by kernel_rfl) (by rw [hs]; decide) ?z73 ?z74
  case z73 => (intro o ho; obtain rfl := Option.some.inj ho; exact ⟨rfl, k_move rfl (ev_tmp h37)⟩)
  case z74 =>
  intro a F0
  replace hs := F0.z.trans hs
  replace hd := F0.e.trans hd
  replace h2 := (F0.n 2 (by decide)).trans h2
  replace h3 := (F0.n 3 (by decide)).trans h3
  replace h4 := (F0.n 4 (by decide)).trans h4
  clear h37
  have h38 := F0.s
  clear F0
  refine opG 34 39 (f == f' && iv == iv' && c == c' && u == u' && M == M') (v := .pointer (some ⟨w.heap.size, 5, none⟩)) (by kernel_rfl) (by rw [hs]; decide) ?z75 ?z76
  case z75 => (intro o ho; obtain rfl := Option.some.inj ho; exact ⟨wanted_is rfl (by kernel_rfl) h38, fun hb => k_field5 rfl (ev_tmp h2)⟩)
  case z76 =>
  intro a F0
  replace hs := F0.z.trans hs
  replace hd := F0.e.trans hd
  replace h2 := (F0.n 2 (by decide)).trans h2
  replace h3 := (F0.n 3 (by decide)).trans h3
  replace h4 := (F0.n 4 (by decide)).trans h4
  replace h38 := (F0.n 38 (by decide)).trans h38
  have h39 := F0.s
  clear F0
  refine opG 35 40 (f == f' && iv == iv' && c == c' && u == u' && M == M') (v := .slice A2 D.length c2) (by kernel_rfl) (by rw [hs]; decide) ?z77 ?z78
  case z77 => (intro o ho; obtain rfl := Option.some.inj ho; exact ⟨wanted_is rfl (by kernel_rfl) h38, fun hb => k_loadL rfl (ev_tmp (bif_at h39 hb)) (Bp.cell 5)⟩)
  case z78 =>
  intro a F0
  replace hs := F0.z.trans hs
  replace hd := F0.e.trans hd
  replace h2 := (F0.n 2 (by decide)).trans h2
  replace h3 := (F0.n 3 (by decide)).trans h3
  replace h4 := (F0.n 4 (by decide)).trans h4
  replace h38 := (F0.n 38 (by decide)).trans h38
  clear h39
  have h40 := F0.s
  clear F0
  refine opG 36 41 (f == f' && iv == iv' && c == c' && u == u' && M == M') (v := .pointer (some ⟨w1.heap.size, 5, none⟩)) (by kernel_rfl) (by rw [hs]; decide) ?z79 ?z80
  case z79 => (intro o ho; obtain rfl := Option.some.inj ho; exact ⟨wanted_is rfl (by kernel_rfl) h38, fun hb => k_field5 rfl (ev_tmp h3)⟩)
  case z80 =>
  intro a F0
  replace hs := F0.z.trans hs
  replace hd := F0.e.trans hd
  replace h2 := (F0.n 2 (by decide)).trans h2
  replace h3 := (F0.n 3 (by decide)).trans h3
  replace h4 := (F0.n 4 (by decide)).trans h4
  replace h38 := (F0.n 38 (by decide)).trans h38
  replace h40 := (F0.n 40 (by decide)).trans h40
  have h41 := F0.s
  clear F0
  refine opG 37 42 (f == f' && iv == iv' && c == c' && u == u' && M == M') (v := .slice B2 D'.length d2) (by kernel_rfl) (by rw [hs]; decide) ?z81 ?z82
  case z81 => (intro o ho; obtain rfl := Option.some.inj ho; exact ⟨wanted_is rfl (by kernel_rfl) h38, fun hb => k_loadL rfl (ev_tmp (bif_at h41 hb)) (Bq.cell 5)⟩)
  case z82 =>
  intro a F0
  replace hs := F0.z.trans hs
  replace hd := F0.e.trans hd
  replace h2 := (F0.n 2 (by decide)).trans h2
  replace h3 := (F0.n 3 (by decide)).trans h3
  replace h4 := (F0.n 4 (by decide)).trans h4
  replace h38 := (F0.n 38 (by decide)).trans h38
  replace h40 := (F0.n 40 (by decide)).trans h40
  clear h41
  have h42 := F0.s
  clear F0
  have hc := eqI_any A2 B2 c2 d2 D D' v4 hA.d hB.d hA.ld hB.ld
  refine opG_call 38 43 (f == f' && iv == iv' && c == c' && u == u' && M == M') (by kernel_rfl) (by rw [hs]; decide) ?z83 hc ?z84
  case z83 => (intro o ho; obtain rfl := Option.some.inj ho; exact ⟨wanted_is rfl (by kernel_rfl) h38, fun hb => c_EqualI rfl rfl (ev_tmp (bif_at h40 hb)) (ev_tmp (bif_at h42 hb))⟩)
  case z84 =>
  clear hc
  intro v5 a l5 F0
  replace hs := F0.z.trans hs
  replace hd := F0.e.trans hd
  replace h2 := (F0.n 2 (by decide)).trans h2
  replace h3 := (F0.n 3 (by decide)).trans h3
  replace h4 := (F0.n 4 (by decide)).trans h4
  replace h38 := (F0.n 38 (by decide)).trans h38
  clear h40
  clear h42
  have h43 := F0.s
  clear F0
  replace Bp := Bp.below l5 Bp.lt
  replace Bq := Bq.below l5 Bq.lt
  replace hA := hA.below l5
  replace hB := hB.below l5
  replace lz := lz.trans (l5.mono lz.size)
  clear l5
  refine opL 39 44 (v := .bool (f == f' && iv == iv' && c == c' && u == u' && M == M' && D == D')) (w' := v5) (by kernel_rfl) (by rw [hs]; decide) ?z85 ?z86
  case z85 => (intro o ho; obtain rfl := Option.some.inj ho; exact ⟨rfl, k_pick_and rfl (ev_tmp h38) (ev_tmp h43) rfl⟩)
  case z86 =>
  intro a F0
  replace hs := F0.z.trans hs
  replace hd := F0.e.trans hd
  replace h2 := (F0.n 2 (by decide)).trans h2
  replace h3 := (F0.n 3 (by decide)).trans h3
  replace h4 := (F0.n 4 (by decide)).trans h4
  clear h38
  clear h43
  have h44 := F0.s
  clear F0
  refine opL 40 45 (v := .bool (f == f' && iv == iv' && c == c' && u == u' && M == M' && D == D')) (w' := v5) (by kernel_rfl) (by rw [hs]; decide) ?z87 ?z88
  case z87 => (intro o ho; obtain rfl := Option.some.inj ho; exact ⟨rfl, k_move rfl (ev_tmp h44)⟩)
  case z88 =>
  intro a F0
  replace hs := F0.z.trans hs
  replace hd := F0.e.trans hd
  replace h2 := (F0.n 2 (by decide)).trans h2
  replace h3 := (F0.n 3 (by decide)).trans h3
  replace h4 := (F0.n 4 (by decide)).trans h4
  clear h44
  have h45 := F0.s
  clear F0
  refine opG 41 46 (f == f' && iv == iv' && c == c' && u == u' && M == M' && D == D') (v := .pointer (some ⟨w.heap.size, 6, none⟩)) (by kernel_rfl) (by rw [hs]; decide) ?z89 ?z90
  case z89 => (intro o ho; obtain rfl := Option.some.inj ho; exact ⟨wanted_is rfl (by kernel_rfl) h45, fun hb => k_field6 rfl (ev_tmp h2)⟩)
  case z90 =>
  intro a F0
  replace hs := F0.z.trans hs
  replace hd := F0.e.trans hd
  replace h2 := (F0.n 2 (by decide)).trans h2
  replace h3 := (F0.n 3 (by decide)).trans h3
  replace h4 := (F0.n 4 (by decide)).trans h4
  replace h45 := (F0.n 45 (by decide)).trans h45
  have h46 := F0.s
  clear F0
  refine opG 42 47 (f == f' && iv == iv' && c == c' && u == u' && M == M' && D == D') (v := .slice A3 K.length c3) (by kernel_rfl) (by rw [hs]; decide) ?z91 ?z92
  case z91 => (intro o ho; obtain rfl := Option.some.inj ho; exact ⟨wanted_is rfl (by kernel_rfl) h45, fun hb => k_loadW rfl (ev_tmp (bif_at h46 hb)) (Bp.cell 6)⟩)
  case z92 =>
  intro a F0
  replace hs := F0.z.trans hs
  replace hd := F0.e.trans hd
  replace h2 := (F0.n 2 (by decide)).trans h2
  replace h3 := (F0.n 3 (by decide)).trans h3
  replace h4 := (F0.n 4 (by decide)).trans h4
  replace h45 := (F0.n 45 (by decide)).trans h45
  clear h46
  have h47 := F0.s
  clear F0
  refine opG 43 48 (f == f' && iv == iv' && c == c' && u == u' && M == M' && D == D') (v := .pointer (some ⟨w1.heap.size, 6, none⟩)) (by kernel_rfl) (by rw [hs]; decide) ?z93 ?z94
  case z93 => (intro o ho; obtain rfl := Option.some.inj ho; exact ⟨wanted_is rfl (by kernel_rfl) h45, fun hb => k_field6 rfl (ev_tmp h3)⟩)
  case z94 =>
  intro a F0
  replace hs := F0.z.trans hs
  replace hd := F0.e.trans hd
  replace h2 := (F0.n 2 (by decide)).trans h2
  replace h3 := (F0.n 3 (by decide)).trans h3
  replace h4 := (F0.n 4 (by decide)).trans h4
  replace h45 := (F0.n 45 (by decide)).trans h45
  replace h47 := (F0.n 47 (by decide)).trans h47
  have h48 := F0.s
  clear F0
  refine opG 44 49 (f == f' && iv == iv' && c == c' && u == u' && M == M' && D == D') (v := .slice B3 K'.length d3) (by kernel_rfl) (by rw [hs]; decide) ?z95 ?z96
  case z95 => (intro o ho; obtain rfl := Option.some.inj ho; exact ⟨wanted_is rfl (by kernel_rfl) h45, fun hb => k_loadW rfl (ev_tmp (bif_at h48 hb)) (Bq.cell 6)⟩)
  case z96 =>
  intro a F0
  replace hs := F0.z.trans hs
  replace hd := F0.e.trans hd
  replace h2 := (F0.n 2 (by decide)).trans h2
  replace h3 := (F0.n 3 (by decide)).trans h3
  replace h4 := (F0.n 4 (by decide)).trans h4
  replace h45 := (F0.n 45 (by decide)).trans h45
  replace h47 := (F0.n 47 (by decide)).trans h47
  clear h48
  have h49 := F0.s
  clear F0
  have hc := eqN_any A3 B3 c3 d3 K K' v5 hA.k hB.k hA.lk hB.lk
  refine opG_call 45 50 (f == f' && iv == iv' && c == c' && u == u' && M == M' && D == D') (by kernel_rfl) (by rw [hs]; decide) ?z97 hc ?z98
  case z97 => (intro o ho; obtain rfl := Option.some.inj ho; exact ⟨wanted_is rfl (by kernel_rfl) h45, fun hb => c_EqualN rfl rfl (ev_tmp (bif_at h47 hb)) (ev_tmp (bif_at h49 hb))⟩)
  case z98 =>
  clear hc
  intro v6 a l6 F0
  replace hs := F0.z.trans hs
  replace hd := F0.e.trans hd
  replace h2 := (F0.n 2 (by decide)).trans h2
  replace h3 := (F0.n 3 (by decide)).trans h3
  replace h4 := (F0.n 4 (by decide)).trans h4
  replace h45 := (F0.n 45 (by decide)).trans h45
  clear h47
  clear h49
  have h50 := F0.s
  clear F0
  replace Bp := Bp.below l6 Bp.lt
  replace Bq := Bq.below l6 Bq.lt
  replace hA := hA.below l6
  replace hB := hB.below l6
  replace lz := lz.trans (l6.mono lz.size)
  clear l6
  refine opL 46 51 (v := .bool (f == f' && iv == iv' && c == c' && u == u' && M == M' && D == D' && K == K')) (w' := v6) (by kernel_rfl) (by rw [hs]; decide) ?z99 ?z100
  case z99 => (intro o ho; obtain rfl := Option.some.inj ho; exact ⟨rfl, k_pick_and rfl (ev_tmp h45) (ev_tmp h50) rfl⟩)
  case z100 =>
  intro a F0
  replace hs := F0.z.trans hs
  replace hd := F0.e.trans hd
  replace h2 := (F0.n 2 (by decide)).trans h2
  replace h3 := (F0.n 3 (by decide)).trans h3
  replace h4 := (F0.n 4 (by decide)).trans h4
  clear h45
  clear h50
  have h51 := F0.s
  clear F0
  refine opL 47 52 (v := .bool (f == f' && iv == iv' && c == c' && u == u' && M == M' && D == D' && K == K')) (w' := v6) (by kernel_rfl) (by rw [hs]; decide) ?z101 ?z102
  case z101 => (intro o ho; obtain rfl := Option.some.inj ho; exact ⟨rfl, k_move rfl (ev_tmp h51)⟩)
  case z102 =>
  intro a F0
  replace hs := F0.z.trans hs
  replace hd := F0.e.trans hd
  replace h2 := (F0.n 2 (by decide)).trans h2
  replace h3 := (F0.n 3 (by decide)).trans h3
  replace h4 := (F0.n 4 (by decide)).trans h4
  clear h51
  have h52 := F0.s
  clear F0
  refine opG 48 53 (f == f' && iv == iv' && c == c' && u == u' && M == M' && D == D' && K == K') (v := .pointer (some ⟨w.heap.size, 7, none⟩)) (by kernel_rfl) (by rw [hs]; decide) ?z103 ?z104
  case z103 => (intro o ho; obtain rfl := Option.some.inj ho; exact ⟨wanted_is rfl (by kernel_rfl) h52, fun hb => k_field7 rfl (ev_tmp h2)⟩)
  case z104 =>
  intro a F0
  replace hs := F0.z.trans hs
  replace hd := F0.e.trans hd
  replace h2 := (F0.n 2 (by decide)).trans h2
  replace h3 := (F0.n 3 (by decide)).trans h3
  replace h4 := (F0.n 4 (by decide)).trans h4
  replace h52 := (F0.n 52 (by decide)).trans h52
  have h53 := F0.s
  clear F0
  refine opG 49 54 (f == f' && iv == iv' && c == c' && u == u' && M == M' && D == D' && K == K') (v := .slice A4 P.length c4) (by kernel_rfl) (by rw [hs]; decide) ?z105 ?z106
  case z105 => (intro o ho; obtain rfl := Option.some.inj ho; exact ⟨wanted_is rfl (by kernel_rfl) h52, fun hb => k_loadL rfl (ev_tmp (bif_at h53 hb)) (Bp.cell 7)⟩)
  case z106 =>
  intro a F0
  replace hs := F0.z.trans hs
  replace hd := F0.e.trans hd
  replace h2 := (F0.n 2 (by decide)).trans h2
  replace h3 := (F0.n 3 (by decide)).trans h3
  replace h4 := (F0.n 4 (by decide)).trans h4
  replace h52 := (F0.n 52 (by decide)).trans h52
  clear h53
  have h54 := F0.s
  clear F0
  refine opG 50 55 (f == f' && iv == iv' && c == c' && u == u' && M == M' && D == D' && K == K') (v := .pointer (some ⟨w1.heap.size, 7, none⟩)) (by kernel_rfl) (by rw [hs]; decide) ?z107 ?z108
  case z107 => (intro o ho; obtain rfl := Option.some.inj ho; exact ⟨wanted_is rfl (by kernel_rfl) h52, fun hb => k_field7 rfl (ev_tmp h3)⟩)
  case z108 =>
  intro a F0
  replace hs := F0.z.trans hs
  replace hd := F0.e.trans hd
  replace h2 := (F0.n 2 (by decide)).trans h2
  replace h3 := (F0.n 3 (by decide)).trans h3
  replace h4 := (F0.n 4 (by decide)).trans h4
  replace h52 := (F0.n 52 (by decide)).trans h52
  replace h54 := (F0.n 54 (by decide)).trans h54
  have h55 := F0.s
  clear F0
  refine opG 51 56 (f == f' && iv == iv' && c == c' && u == u' && M == M' && D == D' && K == K') (v := .slice B4 P'.length d4) (by kernel_rfl) (by rw [hs]; decide) ?z109 ?z110
  case z109 => (intro o ho; obtain rfl := Option.some.inj ho; exact ⟨wanted_is rfl (by kernel_rfl) h52, fun hb => k_loadL rfl (ev_tmp (bif_at h55 hb)) (Bq.cell 7)⟩)
  case z110 =>
  intro a F0
  replace hs := F0.z.trans hs
  replace hd := F0.e.trans hd
  replace h2 := (F0.n 2 (by decide)).trans h2
  replace h3 := (F0.n 3 (by decide)).trans h3
  replace h4 := (F0.n 4 (by decide)).trans h4
  replace h52 := (F0.n 52 (by decide)).trans h52
  replace h54 := (F0.n 54 (by decide)).trans h54
  clear h55
  have h56 := F0.s
  clear F0
  have hc := eqI_any A4 B4 c4 d4 P P' v6 hA.p hB.p hA.lp hB.lp
  refine opG_call 52 57 (f == f' && iv == iv' && c == c' && u == u' && M == M' && D == D' && K == K') (by kernel_rfl) (by rw [hs]; decide) ?z111 hc ?z112
  case z111 => (intro o ho; obtain rfl := Option.some.inj ho; exact ⟨wanted_is rfl (by kernel_rfl) h52, fun hb => c_EqualI rfl rfl (ev_tmp (bif_at h54 hb)) (ev_tmp (bif_at h56 hb))⟩)
  case z112 =>
  clear hc
  intro v7 a l7 F0
  replace hs := F0.z.trans hs
  replace hd := F0.e.trans hd
  replace h2 := (F0.n 2 (by decide)).trans h2
  replace h3 := (F0.n 3 (by decide)).trans h3
  replace h4 := (F0.n 4 (by decide)).trans h4
  replace h52 := (F0.n 52 (by decide)).trans h52
  clear h54
  clear h56
  have h57 := F0.s
  clear F0
  replace Bp := Bp.below l7 Bp.lt
  replace Bq := Bq.below l7 Bq.lt
  replace hA := hA.below l7
  replace hB := hB.below l7
  replace lz := lz.trans (l7.mono lz.size)
  clear l7
  refine opL 53 58 (v := .bool (f == f' && iv == iv' && c == c' && u == u' && M == M' && D == D' && K == K' && P == P')) (w' := v7) (by kernel_rfl) (by rw [hs]; decide) ?z113 ?z114
  case z113 => (intro o ho; obtain rfl := Option.some.inj ho; exact ⟨rfl, k_pick_and rfl (ev_tmp h52) (ev_tmp h57) rfl⟩)
  case z114 =>
  intro a F0
  replace hs := F0.z.trans hs
  replace hd := F0.e.trans hd
  replace h2 := (F0.n 2 (by decide)).trans h2
  replace h3 := (F0.n 3 (by decide)).trans h3
  replace h4 := (F0.n 4 (by decide)).trans h4
  clear h52
  clear h57
  have h58 := F0.s
  clear F0
  refine opL 54 4 (v := .bool (f == f' && iv == iv' && c == c' && u == u' && M == M' && D == D' && K == K' && P == P')) (w' := v7) (by kernel_rfl) (by rw [hs]; decide) ?z115 ?z116
  case z115 => (intro o ho; obtain rfl := Option.some.inj ho; exact ⟨rfl, k_assign rfl (ev_tmp h58)⟩)
  case z116 =>
  intro a F0
  replace hs := F0.z.trans hs
  replace hd := F0.e.trans hd
  replace h2 := (F0.n 2 (by decide)).trans h2
  replace h3 := (F0.n 3 (by decide)).trans h3
  clear h4
  clear h58
  have h4 := F0.s
  clear F0
  refine wp_ret ?_
  exact hfin a _ hd h4 lz
end Go.Proofs.YtfhhlebadmkckaaDoor
