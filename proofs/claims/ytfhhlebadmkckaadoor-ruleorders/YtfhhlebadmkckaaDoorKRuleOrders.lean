/-
  The law RuleOrders: its walk, out of the contracts.
-/
import Derived.Test.YtfhhlebadmkckaaDoorOrd2
namespace Go.Proofs.YtfhhlebadmkckaaDoor
open Go.RowKit
noncomputable def ord13 : Array Oper := (Tryd.f3.body.bind (regOf 13)).getD #[]
set_option maxRecDepth 100000 in
set_option maxHeartbeats 1000000 in
theorem regOrd13 (a : Act) (w : World) (Q : Exit → Act → World → Prop) (b5 b6 b7 bp bq : Nat) (q11 q12 : Value) (f iv c u f' iv' c' u' : Int) (A1 A2 A3 A4 B1 B2 B3 B4 : Option Addr) (c1 c2 c3 c4 d1 d2 d3 d4 : Nat) (M D M' D' : List Int) (K K' : List (Int × Int)) (P P' : List Int) (df : List _) (hd : a.defers = df) (hs : a.tmps.size = 148) (h5 : a.tmps.getD 5 undef = .pointer (some ⟨b5, 0, none⟩)) (h6 : a.tmps.getD 6 undef = .pointer (some ⟨b6, 0, none⟩)) (h7 : a.tmps.getD 7 undef = .pointer (some ⟨b7, 0, none⟩)) (h11 : a.tmps.getD 11 undef = q11) (h12 : a.tmps.getD 12 undef = q12) (h13 : a.tmps.getD 13 undef = .pointer (some ⟨bp, 0, none⟩)) (h14 : a.tmps.getD 14 undef = .pointer (some ⟨bq, 0, none⟩))
    (Bp : Blk w bp 39 #[.int .i64 f, .int .i64 iv, .int .i64 c, .int .i64 u, .slice A1 M.length c1, .slice A2 D.length c2, .slice A3 K.length c3, .slice A4 P.length c4]) (Bq : Blk w bq 39 #[.int .i64 f', .int .i64 iv', .int .i64 c', .int .i64 u', .slice B1 M'.length d1, .slice B2 D'.length d2, .slice B3 K'.length d3, .slice B4 P'.length d4]) (hA : PlainR w A1 A2 A3 A4 M D K P) (hB : PlainR w B1 B2 B3 B4 M' D' K' P')
    (hR : ∀ (a' : Act) (w' : World), a'.tmps.size = 148 → a'.defers = df → a'.tmps.getD 5 undef = .pointer (some ⟨b5, 0, none⟩) → a'.tmps.getD 6 undef = .pointer (some ⟨b6, 0, none⟩) → a'.tmps.getD 7 undef = .pointer (some ⟨b7, 0, none⟩) → a'.tmps.getD 11 undef = q11 → a'.tmps.getD 12 undef = q12 → a'.tmps.getD 13 undef = .pointer (some ⟨bp, 0, none⟩) → a'.tmps.getD 14 undef = .pointer (some ⟨bq, 0, none⟩) → a'.tmps.getD 15 undef = .bool (sameB f iv c u M D K P f' iv' c' u' M' D' K' P') → Below w.heap.size w w' → Q .normal a' w') :
    (Code.region 13 ord13 false).wp Tryd.prog Q a w := by
  conv => arg 2; arg 2; whnf
  have lz := Below.refl w.heap.size w
  obtain ⟨w0, hw0⟩ : ∃ w0, w0 = w := ⟨_, rfl⟩
  rw [← hw0] at hR lz
  replace lz : Below w0.heap.size w0 w := by rw [hw0]; exact Below.refl _ _
  clear hw0
  refine wp_region (show wpOps _ _ _ [0, 1, 2, 3, 4, 5, 6, 7, 8, 9, 10, 11, 12, 13, 14, 15, 16, 17, 18, 19, 20, 21, 22, 23, 24, 25, 26, 27, 28, 29, 30, 31, 32, 33, 34, 35, 36, 37, 38, 39, 40, 41, 42, 43, 44, 45, 46, 47, 48, 49, 50, 51, 52, 53, 54] _ _ from ?_)
  refine opL 0 69 (v := .pointer (some ⟨bp, 0, none⟩)) (w' := w) (by kernel_rfl) (by rw [hs]; decide) ?z389 ?z390
  case z389 => (intro o ho; obtain rfl := Option.some.inj ho; exact ⟨rfl, k_field0 rfl (ev_tmp h13)⟩)
  case z390 =>
  intro a F0
  replace hs := F0.z.trans hs
  replace hd := F0.e.trans hd
  replace h5 := (F0.n 5 (by decide)).trans h5
  replace h6 := (F0.n 6 (by decide)).trans h6
  replace h7 := (F0.n 7 (by decide)).trans h7
  replace h11 := (F0.n 11 (by decide)).trans h11
  replace h12 := (F0.n 12 (by decide)).trans h12
  replace h13 := (F0.n 13 (by decide)).trans h13
  replace h14 := (F0.n 14 (by decide)).trans h14
  have h69 := F0.s
  clear F0
  refine opL 1 70 (v := .int .i64 f) (w' := w) (by kernel_rfl) (by rw [hs]; decide) ?z391 ?z392
  case z391 => (intro o ho; obtain rfl := Option.some.inj ho; exact ⟨rfl, k_loadF rfl (ev_tmp h69) (Bp.cell 0)⟩)
  case z392 =>
  intro a F0
  replace hs := F0.z.trans hs
  replace hd := F0.e.trans hd
  replace h5 := (F0.n 5 (by decide)).trans h5
  replace h6 := (F0.n 6 (by decide)).trans h6
  replace h7 := (F0.n 7 (by decide)).trans h7
  replace h11 := (F0.n 11 (by decide)).trans h11
  replace h12 := (F0.n 12 (by decide)).trans h12
  replace h13 := (F0.n 13 (by decide)).trans h13
  replace h14 := (F0.n 14 (by decide)).trans h14
  clear h69
  have h70 := F0.s
  clear F0
  refine opL 2 71 (v := .pointer (some ⟨bq, 0, none⟩)) (w' := w) (by kernel_rfl) (by rw [hs]; decide) ?z393 ?z394
  case z393 => (intro o ho; obtain rfl := Option.some.inj ho; exact ⟨rfl, k_field0 rfl (ev_tmp h14)⟩)
  case z394 =>
  intro a F0
  replace hs := F0.z.trans hs
  replace hd := F0.e.trans hd
  replace h5 := (F0.n 5 (by decide)).trans h5
  replace h6 := (F0.n 6 (by decide)).trans h6
  replace h7 := (F0.n 7 (by decide)).trans h7
  replace h11 := (F0.n 11 (by decide)).trans h11
  replace h12 := (F0.n 12 (by decide)).trans h12
  replace h13 := (F0.n 13 (by decide)).trans h13
  replace h14 := (F0.n 14 (by decide)).trans h14
  replace h70 := (F0.n 70 (by decide)).trans h70
  have h71 := F0.s
  clear F0
  refine opL 3 72 (v := .int .i64 f') (w' := w) (by kernel_rfl) (by rw [hs]; decide) ?z395 ?z396
  case z395 => (intro o ho; obtain rfl := Option.some.inj ho; exact ⟨rfl, k_loadF rfl (ev_tmp h71) (Bq.cell 0)⟩)
  case z396 =>
  intro a F0
  replace hs := F0.z.trans hs
  replace hd := F0.e.trans hd
  replace h5 := (F0.n 5 (by decide)).trans h5
  replace h6 := (F0.n 6 (by decide)).trans h6
  replace h7 := (F0.n 7 (by decide)).trans h7
  replace h11 := (F0.n 11 (by decide)).trans h11
  replace h12 := (F0.n 12 (by decide)).trans h12
  replace h13 := (F0.n 13 (by decide)).trans h13
  replace h14 := (F0.n 14 (by decide)).trans h14
  replace h70 := (F0.n 70 (by decide)).trans h70
  clear h71
  have h72 := F0.s
  clear F0
  refine opL 4 73 (v := .bool (f == f')) (w' := w) (by kernel_rfl) (by rw [hs]; decide) ?z397 ?z398
  case z397 => (intro o ho; obtain rfl := Option.some.inj ho; exact ⟨rfl, o_eqF rfl (ev_tmp h70) (ev_tmp h72) rfl⟩)
  case z398 =>
  intro a F0
  replace hs := F0.z.trans hs
  replace hd := F0.e.trans hd
  replace h5 := (F0.n 5 (by decide)).trans h5
  replace h6 := (F0.n 6 (by decide)).trans h6
  replace h7 := (F0.n 7 (by decide)).trans h7
  replace h11 := (F0.n 11 (by decide)).trans h11
  replace h12 := (F0.n 12 (by decide)).trans h12
  replace h13 := (F0.n 13 (by decide)).trans h13
  replace h14 := (F0.n 14 (by decide)).trans h14
  clear h70
  clear h72
  have h73 := F0.s
  clear F0
  refine opL 5 74 (v := .bool (f == f')) (w' := w) (by kernel_rfl) (by rw [hs]; decide) ?z399 ?z400
  case z399 => (intro o ho; obtain rfl := Option.some.inj ho; exact ⟨rfl, k_move rfl (ev_tmp h73)⟩)
  case z400 =>
  intro a F0
  replace hs := F0.z.trans hs
  replace hd := F0.e.trans hd
  replace h5 := (F0.n 5 (by decide)).trans h5
  replace h6 := (F0.n 6 (by decide)).trans h6
  replace h7 := (F0.n 7 (by decide)).trans h7
  replace h11 := (F0.n 11 (by decide)).trans h11
  replace h12 := (F0.n 12 (by decide)).trans h12
  replace h13 := (F0.n 13 (by decide)).trans h13
  replace h14 := (F0.n 14 (by decide)).trans h14
  clear h73
  have h74 := F0.s
  clear F0
  refine opG 6 75 (f == f') (v := .pointer (some ⟨bp, 1, none⟩)) (by kernel_rfl) (by rw [hs]; decide) ?z401 ?z402
  case z401 => (intro o ho; obtain rfl := Option.some.inj ho; exact ⟨wanted_is rfl (by kernel_rfl) h74, fun hb => k_field1 rfl (ev_tmp h13)⟩)
  case z402 =>
  intro a F0
  replace hs := F0.z.trans hs
  replace hd := F0.e.trans hd
  replace h5 := (F0.n 5 (by decide)).trans h5
  replace h6 := (F0.n 6 (by decide)).trans h6
  replace h7 := (F0.n 7 (by decide)).trans h7
  replace h11 := (F0.n 11 (by decide)).trans h11
  replace h12 := (F0.n 12 (by decide)).trans h12
  replace h13 := (F0.n 13 (by decide)).trans h13
  replace h14 := (F0.n 14 (by decide)).trans h14
  replace h74 := (F0.n 74 (by decide)).trans h74
  have h75 := F0.s
  clear F0
  refine opG 7 76 (f == f') (v := .int .i64 iv) (by kernel_rfl) (by rw [hs]; decide) ?z403 ?z404
  case z403 => (intro o ho; obtain rfl := Option.some.inj ho; exact ⟨wanted_is rfl (by kernel_rfl) h74, fun hb => k_loadI rfl (ev_tmp (bif_at h75 hb)) (Bp.cell 1)⟩)
  case z404 =>
  intro a F0
  replace hs := F0.z.trans hs
  replace hd := F0.e.trans hd
  replace h5 := (F0.n 5 (by decide)).trans h5
  replace h6 := (F0.n 6 (by decide)).trans h6
  replace h7 := (F0.n 7 (by decide)).trans h7
  replace h11 := (F0.n 11 (by decide)).trans h11
  replace h12 := (F0.n 12 (by decide)).trans h12
  replace h13 := (F0.n 13 (by decide)).trans h13
  replace h14 := (F0.n 14 (by decide)).trans h14
  replace h74 := (F0.n 74 (by decide)).trans h74
  clear h75
  have h76 := F0.s
  clear F0
  refine opG 8 77 (f == f') (v := .pointer (some ⟨bq, 1, none⟩)) (by kernel_rfl) (by rw [hs]; decide) ?z405 ?z406
  case z405 => (intro o ho; obtain rfl := Option.some.inj ho; exact ⟨wanted_is rfl (by kernel_rfl) h74, fun hb => k_field1 rfl (ev_tmp h14)⟩)
  case z406 =>
  intro a F0
  replace hs := F0.z.trans hs
  replace hd := F0.e.trans hd
  replace h5 := (F0.n 5 (by decide)).trans h5
  replace h6 := (F0.n 6 (by decide)).trans h6
  replace h7 := (F0.n 7 (by decide)).trans h7
  replace h11 := (F0.n 11 (by decide)).trans h11
  replace h12 := (F0.n 12 (by decide)).trans h12
  replace h13 := (F0.n 13 (by decide)).trans h13
  replace h14 := (F0.n 14 (by decide)).trans h14
  replace h74 := (F0.n 74 (by decide)).trans h74
  replace h76 := (F0.n 76 (by decide)).trans h76
  have h77 := F0.s
  clear F0
  refine opG 9 78 (f == f') (v := .int .i64 iv') (by kernel_rfl) (by rw [hs]; decide) ?z407 ?z408
  case z407 => (intro o ho; obtain rfl := Option.some.inj ho; exact ⟨wanted_is rfl (by kernel_rfl) h74, fun hb => k_loadI rfl (ev_tmp (bif_at h77 hb)) (Bq.cell 1)⟩)
  case z408 =>
  intro a F0
  replace hs := F0.z.trans hs
  replace hd := F0.e.trans hd
  replace h5 := (F0.n 5 (by decide)).trans h5
  replace h6 := (F0.n 6 (by decide)).trans h6
  replace h7 := (F0.n 7 (by decide)).trans h7
  replace h11 := (F0.n 11 (by decide)).trans h11
  replace h12 := (F0.n 12 (by decide)).trans h12
  replace h13 := (F0.n 13 (by decide)).trans h13
  replace h14 := (F0.n 14 (by decide)).trans h14
  replace h74 := (F0.n 74 (by decide)).trans h74
  replace h76 := (F0.n 76 (by decide)).trans h76
  clear h77
  have h78 := F0.s
  clear F0
  refine opG 10 79 (f == f') (v := .bool (iv == iv')) (by kernel_rfl) (by rw [hs]; decide) ?z409 ?z410
  case z409 => (intro o ho; obtain rfl := Option.some.inj ho; exact ⟨wanted_is rfl (by kernel_rfl) h74, fun hb => o_eqI rfl (ev_tmp (bif_at h76 hb)) (ev_tmp (bif_at h78 hb)) rfl⟩)
  case z410 =>
  intro a F0
  replace hs := F0.z.trans hs
  replace hd := F0.e.trans hd
  replace h5 := (F0.n 5 (by decide)).trans h5
  replace h6 := (F0.n 6 (by decide)).trans h6
  replace h7 := (F0.n 7 (by decide)).trans h7
  replace h11 := (F0.n 11 (by decide)).trans h11
  replace h12 := (F0.n 12 (by decide)).trans h12
  replace h13 := (F0.n 13 (by decide)).trans h13
  replace h14 := (F0.n 14 (by decide)).trans h14
  replace h74 := (F0.n 74 (by decide)).trans h74
  clear h76
  clear h78
  have h79 := F0.s
  clear F0
  refine opL 11 80 (v := .bool (f == f' && iv == iv')) (w' := w) (by kernel_rfl) (by rw [hs]; decide) ?z411 ?z412
  case z411 => (intro o ho; obtain rfl := Option.some.inj ho; exact ⟨rfl, k_pick_and rfl (ev_tmp h74) (ev_tmp h79) rfl⟩)
  case z412 =>
  intro a F0
  replace hs := F0.z.trans hs
  replace hd := F0.e.trans hd
  replace h5 := (F0.n 5 (by decide)).trans h5
  replace h6 := (F0.n 6 (by decide)).trans h6
  replace h7 := (F0.n 7 (by decide)).trans h7
  replace h11 := (F0.n 11 (by decide)).trans h11
  replace h12 := (F0.n 12 (by decide)).trans h12
  replace h13 := (F0.n 13 (by decide)).trans h13
  replace h14 := (F0.n 14 (by decide)).trans h14
  clear h74
  clear h79
  have h80 := F0.s
  clear F0
  refine opL 12 81 (v := .bool (f == f' && iv == iv')) (w' := w) (by kernel_rfl) (by rw [hs]; decide) ?z413 ?z414
  case z413 => (intro o ho; obtain rfl := Option.some.inj ho; exact ⟨rfl, k_move rfl (ev_tmp h80)⟩)
  case z414 =>
  intro a F0
  replace hs := F0.z.trans hs
  replace hd := F0.e.trans hd
  replace h5 := (F0.n 5 (by decide)).trans h5
  replace h6 := (F0.n 6 (by decide)).trans h6
  replace h7 := (F0.n 7 (by decide)).trans h7
  replace h11 := (F0.n 11 (by decide)).trans h11
  replace h12 := (F0.n 12 (by decide)).trans h12
  replace h13 := (F0.n 13 (by decide)).trans h13
  replace h14 := (F0.n 14 (by decide)).trans h14
  clear h80
  have h81 := F0.s
  clear F0
  refine opG 13 82 (f == f' && iv == iv') (v := .pointer (some ⟨bp, 2, none⟩)) (by kernel_rfl) (by rw [hs]; decide) ?z415 ?z416
  case z415 => (intro o ho; obtain rfl := Option.some.inj ho; exact ⟨wanted_is rfl (by kernel_rfl) h81, fun hb => k_field2 rfl (ev_tmp h13)⟩)
  case z416 =>
  intro a F0
  replace hs := F0.z.trans hs
  replace hd := F0.e.trans hd
  replace h5 := (F0.n 5 (by decide)).trans h5
  replace h6 := (F0.n 6 (by decide)).trans h6
  replace h7 := (F0.n 7 (by decide)).trans h7
  replace h11 := (F0.n 11 (by decide)).trans h11
  replace h12 := (F0.n 12 (by decide)).trans h12
  replace h13 := (F0.n 13 (by decide)).trans h13
  replace h14 := (F0.n 14 (by decide)).trans h14
  replace h81 := (F0.n 81 (by decide)).trans h81
  have h82 := F0.s
  clear F0
  refine opG 14 83 (f == f' && iv == iv') (v := .int .i64 c) (by kernel_rfl) (by rw [hs]; decide) ?z417 ?z418
  case z417 => (intro o ho; obtain rfl := Option.some.inj ho; exact ⟨wanted_is rfl (by kernel_rfl) h81, fun hb => k_loadI rfl (ev_tmp (bif_at h82 hb)) (Bp.cell 2)⟩)
  case z418 =>
  intro a F0
  replace hs := F0.z.trans hs
  replace hd := F0.e.trans hd
  replace h5 := (F0.n 5 (by decide)).trans h5
  replace h6 := (F0.n 6 (by decide)).trans h6
  replace h7 := (F0.n 7 (by decide)).trans h7
  replace h11 := (F0.n 11 (by decide)).trans h11
  replace h12 := (F0.n 12 (by decide)).trans h12
  replace h13 := (F0.n 13 (by decide)).trans h13
  replace h14 := (F0.n 14 (by decide)).trans h14
  replace h81 := (F0.n 81 (by decide)).trans h81
  clear h82
  have h83 := F0.s
  clear F0
  refine opG 15 84 (f == f' && iv == iv') (v := .pointer (some ⟨bq, 2, none⟩)) (by kernel_rfl) (by rw [hs]; decide) ?z419 ?z420
  case z419 => (intro o ho; obtain rfl := Option.some.inj ho; exact ⟨wanted_is rfl (by kernel_rfl) h81, fun hb => k_field2 rfl (ev_tmp h14)⟩)
  case z420 =>
  intro a F0
  replace hs := F0.z.trans hs
  replace hd := F0.e.trans hd
  replace h5 := (F0.n 5 (by decide)).trans h5
  replace h6 := (F0.n 6 (by decide)).trans h6
  replace h7 := (F0.n 7 (by decide)).trans h7
  replace h11 := (F0.n 11 (by decide)).trans h11
  replace h12 := (F0.n 12 (by decide)).trans h12
  replace h13 := (F0.n 13 (by decide)).trans h13
  replace h14 := (F0.n 14 (by decide)).trans h14
  replace h81 := (F0.n 81 (by decide)).trans h81
  replace h83 := (F0.n 83 (by decide)).trans h83
  have h84 := F0.s
  clear F0
  refine opG 16 85 (f == f' && iv == iv') (v := .int .i64 c') (by kernel_rfl) (by rw [hs]; decide) ?z421 ?z422
  case z421 => (intro o ho; obtain rfl := Option.some.inj ho; exact ⟨wanted_is rfl (by kernel_rfl) h81, fun hb => k_loadI rfl (ev_tmp (bif_at h84 hb)) (Bq.cell 2)⟩)
  case z422 =>
  intro a F0
  replace hs := F0.z.trans hs
  replace hd := F0.e.trans hd
  replace h5 := (F0.n 5 (by decide)).trans h5
  replace h6 := (F0.n 6 (by decide)).trans h6
  replace h7 := (F0.n 7 (by decide)).trans h7
  replace h11 := (F0.n 11 (by decide)).trans h11
  replace h12 := (F0.n 12 (by decide)).trans h12
  replace h13 := (F0.n 13 (by decide)).trans h13
  replace h14 := (F0.n 14 (by decide)).trans h14
  replace h81 := (F0.n 81 (by decide)).trans h81
  replace h83 := (F0.n 83 (by decide)).trans h83
  clear h84
  have h85 := F0.s
  clear F0
  refine opG 17 86 (f == f' && iv == iv') (v := .bool (c == c')) (by kernel_rfl) (by rw [hs]; decide) ?z423 ?z424
  case z423 => (intro o ho; obtain rfl := Option.some.inj ho; exact ⟨wanted_is rfl (by kernel_rfl) h81, fun hb => o_eqI rfl (ev_tmp (bif_at h83 hb)) (ev_tmp (bif_at h85 hb)) rfl⟩)
  case z424 =>
  intro a F0
  replace hs := F0.z.trans hs
  replace hd := F0.e.trans hd
  replace h5 := (F0.n 5 (by decide)).trans h5
  replace h6 := (F0.n 6 (by decide)).trans h6
  replace h7 := (F0.n 7 (by decide)).trans h7
  replace h11 := (F0.n 11 (by decide)).trans h11
  replace h12 := (F0.n 12 (by decide)).trans h12
  replace h13 := (F0.n 13 (by decide)).trans h13
  replace h14 := (F0.n 14 (by decide)).trans h14
  replace h81 := (F0.n 81 (by decide)).trans h81
  clear h83
  clear h85
  have h86 := F0.s
  clear F0
  refine opL 18 87 (v := .bool (f == f' && iv == iv' && c == c')) (w' := w) (by kernel_rfl) (by rw [hs]; decide) ?z425 ?z426
  case z425 => (intro o ho; obtain rfl := Option.some.inj ho; exact ⟨rfl, k_pick_and rfl (ev_tmp h81) (ev_tmp h86) rfl⟩)
  case z426 =>
  intro a F0
  replace hs := F0.z.trans hs
  replace hd := F0.e.trans hd
  replace h5 := (F0.n 5 (by decide)).trans h5
  replace h6 := (F0.n 6 (by decide)).trans h6
  replace h7 := (F0.n 7 (by decide)).trans h7
  replace h11 := (F0.n 11 (by decide)).trans h11
  replace h12 := (F0.n 12 (by decide)).trans h12
  replace h13 := (F0.n 13 (by decide)).trans h13
  replace h14 := (F0.n 14 (by decide)).trans h14
  clear h81
  clear h86
  have h87 := F0.s
  clear F0
  refine opL 19 88 (v := .bool (f == f' && iv == iv' && c == c')) (w' := w) (by kernel_rfl) (by rw [hs]; decide) ?z427 ?z428
  case z427 => (intro o ho; obtain rfl := Option.some.inj ho; exact ⟨rfl, k_move rfl (ev_tmp h87)⟩)
  case z428 =>
  intro a F0
  replace hs := F0.z.trans hs
  replace hd := F0.e.trans hd
  replace h5 := (F0.n 5 (by decide)).trans h5
  replace h6 := (F0.n 6 (by decide)).trans h6
  replace h7 := (F0.n 7 (by decide)).trans h7
  replace h11 := (F0.n 11 (by decide)).trans h11
  replace h12 := (F0.n 12 (by decide)).trans h12
  replace h13 := (F0.n 13 (by decide)).trans h13
  replace h14 := (F0.n 14 (by decide)).trans h14
  clear h87
  have h88 := F0.s
  clear F0
  refine opG 20 89 (f == f' && iv == iv' && c == c') (v := .pointer (some ⟨bp, 3, none⟩)) (by kernel_rfl) (by rw [hs]; decide) ?z429 ?z430
  case z429 => (intro o ho; obtain rfl := Option.some.inj ho; exact ⟨wanted_is rfl (by kernel_rfl) h88, fun hb => k_field3 rfl (ev_tmp h13)⟩)
  case z430 =>
  intro a F0
  replace hs := F0.z.trans hs
  replace hd := F0.e.trans hd
  replace h5 := (F0.n 5 (by decide)).trans h5
  replace h6 := (F0.n 6 (by decide)).trans h6
  replace h7 := (F0.n 7 (by decide)).trans h7
  replace h11 := (F0.n 11 (by decide)).trans h11
  replace h12 := (F0.n 12 (by decide)).trans h12
  replace h13 := (F0.n 13 (by decide)).trans h13
  replace h14 := (F0.n 14 (by decide)).trans h14
  replace h88 := (F0.n 88 (by decide)).trans h88
  have h89 := F0.s
  clear F0
  refine opG 21 90 (f == f' && iv == iv' && c == c') (v := .int .i64 u) (by kernel_rfl) (by rw [hs]; decide) ?z431 ?z432
  case z431 => (intro o ho; obtain rfl := Option.some.inj ho; exact ⟨wanted_is rfl (by kernel_rfl) h88, fun hb => k_loadU rfl (ev_tmp (bif_at h89 hb)) (Bp.cell 3)⟩)
  case z432 =>
  intro a F0
  replace hs := F0.z.trans hs
  replace hd := F0.e.trans hd
  replace h5 := (F0.n 5 (by decide)).trans h5
  replace h6 := (F0.n 6 (by decide)).trans h6
  replace h7 := (F0.n 7 (by decide)).trans h7
  replace h11 := (F0.n 11 (by decide)).trans h11
  replace h12 := (F0.n 12 (by decide)).trans h12
  replace h13 := (F0.n 13 (by decide)).trans h13
  replace h14 := (F0.n 14 (by decide)).trans h14
  replace h88 := (F0.n 88 (by decide)).trans h88
  clear h89
  have h90 := F0.s
  clear F0
  refine opG 22 91 (f == f' && iv == iv' && c == c') (v := .pointer (some ⟨bq, 3, none⟩)) (by kernel_rfl) (by rw [hs]; decide) ?z433 ?z434
  case z433 => (intro o ho; obtain rfl := Option.some.inj ho; exact ⟨wanted_is rfl (by kernel_rfl) h88, fun hb => k_field3 rfl (ev_tmp h14)⟩)
  case z434 =>
  intro a F0
  replace hs := F0.z.trans hs
  replace hd := F0.e.trans hd
  replace h5 := (F0.n 5 (by decide)).trans h5
  replace h6 := (F0.n 6 (by decide)).trans h6
  replace h7 := (F0.n 7 (by decide)).trans h7
  replace h11 := (F0.n 11 (by decide)).trans h11
  replace h12 := (F0.n 12 (by decide)).trans h12
  replace h13 := (F0.n 13 (by decide)).trans h13
  replace h14 := (F0.n 14 (by decide)).trans h14
  replace h88 := (F0.n 88 (by decide)).trans h88
  replace h90 := (F0.n 90 (by decide)).trans h90
  have h91 := F0.s
  clear F0
  refine opG 23 92 (f == f' && iv == iv' && c == c') (v := .int .i64 u') (by kernel_rfl) (by rw [hs]; decide) ?z435 ?z436
  case z435 => (intro o ho; obtain rfl := Option.some.inj ho; exact ⟨wanted_is rfl (by kernel_rfl) h88, fun hb => k_loadU rfl (ev_tmp (bif_at h91 hb)) (Bq.cell 3)⟩)
  case z436 =>
  intro a F0
  replace hs := F0.z.trans hs
  replace hd := F0.e.trans hd
  replace h5 := (F0.n 5 (by decide)).trans h5
  replace h6 := (F0.n 6 (by decide)).trans h6
  replace h7 := (F0.n 7 (by decide)).trans h7
  replace h11 := (F0.n 11 (by decide)).trans h11
  replace h12 := (F0.n 12 (by decide)).trans h12
  replace h13 := (F0.n 13 (by decide)).trans h13
  replace h14 := (F0.n 14 (by decide)).trans h14
  replace h88 := (F0.n 88 (by decide)).trans h88
  replace h90 := (F0.n 90 (by decide)).trans h90
  clear h91
  have h92 := F0.s
  clear F0
  refine opG 24 93 (f == f' && iv == iv' && c == c') (v := .bool (u == u')) (by kernel_rfl) (by rw [hs]; decide) ?z437 ?z438
  case z437 => (intro o ho; obtain rfl := Option.some.inj ho; exact ⟨wanted_is rfl (by kernel_rfl) h88, fun hb => o_eqU rfl (ev_tmp (bif_at h90 hb)) (ev_tmp (bif_at h92 hb)) rfl⟩)
  case z438 =>
  intro a F0
  replace hs := F0.z.trans hs
  replace hd := F0.e.trans hd
  replace h5 := (F0.n 5 (by decide)).trans h5
  replace h6 := (F0.n 6 (by decide)).trans h6
  replace h7 := (F0.n 7 (by decide)).trans h7
  replace h11 := (F0.n 11 (by decide)).trans h11
  replace h12 := (F0.n 12 (by decide)).trans h12
  replace h13 := (F0.n 13 (by decide)).trans h13
  replace h14 := (F0.n 14 (by decide)).trans h14
  replace h88 := (F0.n 88 (by decide)).trans h88
  clear h90
  clear h92
  have h93 := F0.s
  clear F0
  refine opL 25 94 (v := .bool (f == f' && iv == iv' && c == c' && u == u')) (w' := w) (by kernel_rfl) (by rw [hs]; decide) ?z439 ?z440
  case z439 => (intro o ho; obtain rfl := Option.some.inj ho; exact ⟨rfl, k_pick_and rfl (ev_tmp h88) (ev_tmp h93) rfl⟩)
  case z440 =>
  intro a F0
  replace hs := F0.z.trans hs
  replace hd := F0.e.trans hd
  replace h5 := (F0.n 5 (by decide)).trans h5
  replace h6 := (F0.n 6 (by decide)).trans h6
  replace h7 := (F0.n 7 (by decide)).trans h7
  replace h11 := (F0.n 11 (by decide)).trans h11
  replace h12 := (F0.n 12 (by decide)).trans h12
  replace h13 := (F0.n 13 (by decide)).trans h13
  replace h14 := (F0.n 14 (by decide)).trans h14
  clear h88
  clear h93
  have h94 := F0.s
  clear F0
  refine opL 26 95 (v := .bool (f == f' && iv == iv' && c == c' && u == u')) (w' := w) (by kernel_rfl) (by rw [hs]; decide) ?z441 ?z442
  case z441 => (intro o ho; obtain rfl := Option.some.inj ho; exact ⟨rfl, k_move rfl (ev_tmp h94)⟩)
  case z442 =>
  intro a F0
  replace hs := F0.z.trans hs
  replace hd := F0.e.trans hd
  replace h5 := (F0.n 5 (by decide)).trans h5
  replace h6 := (F0.n 6 (by decide)).trans h6
  replace h7 := (F0.n 7 (by decide)).trans h7
  replace h11 := (F0.n 11 (by decide)).trans h11
  replace h12 := (F0.n 12 (by decide)).trans h12
  replace h13 := (F0.n 13 (by decide)).trans h13
  replace h14 := (F0.n 14 (by decide)).trans h14
  clear h94
  have h95 := F0.s
  clear F0
  refine opG 27 96 (f == f' && iv == iv' && c == c' && u == u') (v := .pointer (some ⟨bp, 4, none⟩)) (by kernel_rfl) (by rw [hs]; decide) ?z443 ?z444
  case z443 => (intro o ho; obtain rfl := Option.some.inj ho; exact ⟨wanted_is rfl (by kernel_rfl) h95, fun hb => k_field4 rfl (ev_tmp h13)⟩)
  case z444 =>
  intro a F0
  replace hs := F0.z.trans hs
  replace hd := F0.e.trans hd
  replace h5 := (F0.n 5 (by decide)).trans h5
  replace h6 := (F0.n 6 (by decide)).trans h6
  replace h7 := (F0.n 7 (by decide)).trans h7
  replace h11 := (F0.n 11 (by decide)).trans h11
  replace h12 := (F0.n 12 (by decide)).trans h12
  replace h13 := (F0.n 13 (by decide)).trans h13
  replace h14 := (F0.n 14 (by decide)).trans h14
  replace h95 := (F0.n 95 (by decide)).trans h95
  have h96 := F0.s
  clear F0
  refine opG 28 97 (f == f' && iv == iv' && c == c' && u == u') (v := .slice A1 M.length c1) (by kernel_rfl) (by rw [hs]; decide) ?z445 ?z446
  case z445 => (intro o ho; obtain rfl := Option.some.inj ho; exact ⟨wanted_is rfl (by kernel_rfl) h95, fun hb => k_loadL rfl (ev_tmp (bif_at h96 hb)) (Bp.cell 4)⟩)
  case z446 =>
  intro a F0
  replace hs := F0.z.trans hs
  replace hd := F0.e.trans hd
  replace h5 := (F0.n 5 (by decide)).trans h5
  replace h6 := (F0.n 6 (by decide)).trans h6
  replace h7 := (F0.n 7 (by decide)).trans h7
  replace h11 := (F0.n 11 (by decide)).trans h11
  replace h12 := (F0.n 12 (by decide)).trans h12
  replace h13 := (F0.n 13 (by decide)).trans h13
  replace h14 := (F0.n 14 (by decide)).trans h14
  replace h95 := (F0.n 95 (by decide)).trans h95
  clear h96
  have h97 := F0.s
  clear F0
  refine opG 29 98 (f == f' && iv == iv' && c == c' && u == u') (v := .pointer (some ⟨bq, 4, none⟩)) (by kernel_rfl) (by rw [hs]; decide) ?z447 ?z448
  case z447 => (intro o ho; obtain rfl := Option.some.inj ho; exact ⟨wanted_is rfl (by kernel_rfl) h95, fun hb => k_field4 rfl (ev_tmp h14)⟩)
  case z448 =>
  intro a F0
  replace hs := F0.z.trans hs
  replace hd := F0.e.trans hd
  replace h5 := (F0.n 5 (by decide)).trans h5
  replace h6 := (F0.n 6 (by decide)).trans h6
  replace h7 := (F0.n 7 (by decide)).trans h7
  replace h11 := (F0.n 11 (by decide)).trans h11
  replace h12 := (F0.n 12 (by decide)).trans h12
  replace h13 := (F0.n 13 (by decide)).trans h13
  replace h14 := (F0.n 14 (by decide)).trans h14
  replace h95 := (F0.n 95 (by decide)).trans h95
  replace h97 := (F0.n 97 (by decide)).trans h97
  have h98 := F0.s
  clear F0
  refine opG 30 99 (f == f' && iv == iv' && c == c' && u == u') (v := .slice B1 M'.length d1) (by kernel_rfl) (by rw [hs]; decide) ?z449 ?z450
  case z449 => (intro o ho; obtain rfl := Option.some.inj ho; exact ⟨wanted_is rfl (by kernel_rfl) h95, fun hb => k_loadL rfl (ev_tmp (bif_at h98 hb)) (Bq.cell 4)⟩)
  case z450 =>
  intro a F0
  replace hs := F0.z.trans hs
  replace hd := F0.e.trans hd
  replace h5 := (F0.n 5 (by decide)).trans h5
  replace h6 := (F0.n 6 (by decide)).trans h6
  replace h7 := (F0.n 7 (by decide)).trans h7
  replace h11 := (F0.n 11 (by decide)).trans h11
  replace h12 := (F0.n 12 (by decide)).trans h12
  replace h13 := (F0.n 13 (by decide)).trans h13
  replace h14 := (F0.n 14 (by decide)).trans h14
  replace h95 := (F0.n 95 (by decide)).trans h95
  replace h97 := (F0.n 97 (by decide)).trans h97
  clear h98
  have h99 := F0.s
  clear F0
  have hc := eqI_any A1 B1 c1 d1 M M' w hA.m hB.m hA.lm hB.lm
  refine opG_call 31 100 (f == f' && iv == iv' && c == c' && u == u') (by kernel_rfl) (by rw [hs]; decide) ?z451 hc ?z452
  case z451 => (intro o ho; obtain rfl := Option.some.inj ho; exact ⟨wanted_is rfl (by kernel_rfl) h95, fun hb => c_EqualI rfl rfl (ev_tmp (bif_at h97 hb)) (ev_tmp (bif_at h99 hb))⟩)
  case z452 =>
  clear hc
  intro v4 a l4 F0
  replace hs := F0.z.trans hs
  replace hd := F0.e.trans hd
  replace h5 := (F0.n 5 (by decide)).trans h5
  replace h6 := (F0.n 6 (by decide)).trans h6
  replace h7 := (F0.n 7 (by decide)).trans h7
  replace h11 := (F0.n 11 (by decide)).trans h11
  replace h12 := (F0.n 12 (by decide)).trans h12
  replace h13 := (F0.n 13 (by decide)).trans h13
  replace h14 := (F0.n 14 (by decide)).trans h14
  replace h95 := (F0.n 95 (by decide)).trans h95
  clear h97
  clear h99
  have h100 := F0.s
  clear F0
  replace Bp := Bp.below l4 Bp.lt
  replace Bq := Bq.below l4 Bq.lt
  replace hA := hA.below l4
  replace hB := hB.below l4
  replace lz := lz.trans (l4.mono lz.size)
  clear l4
  refine opL 32 101 (v := .bool (f == f' && iv == iv' && c == c' && u == u' && M == M')) (w' := v4) (by kernel_rfl) (by rw [hs]; decide) ?z453 ?z454
  case z453 => (intro o ho; obtain rfl := Option.some.inj ho; exact ⟨rfl, k_pick_and rfl (ev_tmp h95) (ev_tmp h100) rfl⟩)
  case z454 =>
  intro a F0
  replace hs := F0.z.trans hs
  replace hd := F0.e.trans hd
  replace h5 := (F0.n 5 (by decide)).trans h5
  replace h6 := (F0.n 6 (by decide)).trans h6
  replace h7 := (F0.n 7 (by decide)).trans h7
  replace h11 := (F0.n 11 (by decide)).trans h11
  replace h12 := (F0.n 12 (by decide)).trans h12
  replace h13 := (F0.n 13 (by decide)).trans h13
  replace h14 := (F0.n 14 (by decide)).trans h14
  clear h95
  clear h100
  have h101 := F0.s
  clear F0
  refine opL 33 102 (v := .bool (f == f' && iv == iv' && c == c' && u == u' && M == M')) (w' := v4) (by kernel_rfl) (by rw [hs]; decide) ?z455 ?z456
  case z455 => (intro o ho; obtain rfl := Option.some.inj ho; exact ⟨rfl, k_move rfl (ev_tmp h101)⟩)
  case z456 =>
  intro a F0
  replace hs := F0.z.trans hs
  replace hd := F0.e.trans hd
  replace h5 := (F0.n 5 (by decide)).trans h5
  replace h6 := (F0.n 6 (by decide)).trans h6
  replace h7 := (F0.n 7 (by decide)).trans h7
  replace h11 := (F0.n 11 (by decide)).trans h11
  replace h12 := (F0.n 12 (by decide)).trans h12
  replace h13 := (F0.n 13 (by decide)).trans h13
  replace h14 := (F0.n 14 (by decide)).trans h14
  clear h101
  have h102 := F0.s
  clear F0
  refine opG 34 103 (f == f' && iv == iv' && c == c' && u == u' && M == M') (v := .pointer (some ⟨bp, 5, none⟩)) (by kernel_rfl) (by rw [hs]; decide) ?z457 ?z458
  case z457 => (intro o ho; obtain rfl := Option.some.inj ho; exact ⟨wanted_is rfl (by kernel_rfl) h102, fun hb => k_field5 rfl (ev_tmp h13)⟩)
  case z458 =>
  intro a F0
  replace hs := F0.z.trans hs
  replace hd := F0.e.trans hd
  replace h5 := (F0.n 5 (by decide)).trans h5
  replace h6 := (F0.n 6 (by decide)).trans h6
  replace h7 := (F0.n 7 (by decide)).trans h7
  replace h11 := (F0.n 11 (by decide)).trans h11
  replace h12 := (F0.n 12 (by decide)).trans h12
  replace h13 := (F0.n 13 (by decide)).trans h13
  replace h14 := (F0.n 14 (by decide)).trans h14
  replace h102 := (F0.n 102 (by decide)).trans h102
  have h103 := F0.s
  clear F0
  refine opG 35 104 (f == f' && iv == iv' && c == c' && u == u' && M == M') (v := .slice A2 D.length c2) (by kernel_rfl) (by rw [hs]; decide) ?z459 ?z460
  case z459 => (intro o ho; obtain rfl := Option.some.inj ho; exact ⟨wanted_is rfl (by kernel_rfl) h102, fun hb => k_loadL rfl (ev_tmp (bif_at h103 hb)) (Bp.cell 5)⟩)
  case z460 =>
  intro a F0
  replace hs := F0.z.trans hs
  replace hd := F0.e.trans hd
  replace h5 := (F0.n 5 (by decide)).trans h5
  replace h6 := (F0.n 6 (by decide)).trans h6
  replace h7 := (F0.n 7 (by decide)).trans h7
  replace h11 := (F0.n 11 (by decide)).trans h11
  replace h12 := (F0.n 12 (by decide)).trans h12
  replace h13 := (F0.n 13 (by decide)).trans h13
  replace h14 := (F0.n 14 (by decide)).trans h14
  replace h102 := (F0.n 102 (by decide)).trans h102
  clear h103
  have h104 := F0.s
  clear F0
  refine opG 36 105 (f == f' && iv == iv' && c == c' && u == u' && M == M') (v := .pointer (some ⟨bq, 5, none⟩)) (by kernel_rfl) (by rw [hs]; decide) ?z461 ?z462
  case z461 => (intro o ho; obtain rfl := Option.some.inj ho; exact ⟨wanted_is rfl (by kernel_rfl) h102, fun hb => k_field5 rfl (ev_tmp h14)⟩)
  case z462 =>
  intro a F0
  replace hs := F0.z.trans hs
  replace hd := F0.e.trans hd
  replace h5 := (F0.n 5 (by decide)).trans h5
  replace h6 := (F0.n 6 (by decide)).trans h6
  replace h7 := (F0.n 7 (by decide)).trans h7
  replace h11 := (F0.n 11 (by decide)).trans h11
  replace h12 := (F0.n 12 (by decide)).trans h12
  replace h13 := (F0.n 13 (by decide)).trans h13
  replace h14 := (F0.n 14 (by decide)).trans h14
  replace h102 := (F0.n 102 (by decide)).trans h102
  replace h104 := (F0.n 104 (by decide)).trans h104
  have h105 := F0.s
  clear F0
  refine opG 37 106 (f == f' && iv == iv' && c == c' && u == u' && M == M') (v := .slice B2 D'.length d2) (by kernel_rfl) (by rw [hs]; decide) ?z463 ?z464
  case z463 => (intro o ho; obtain rfl := Option.some.inj ho; exact ⟨wanted_is rfl (by kernel_rfl) h102, fun hb => k_loadL rfl (ev_tmp (bif_at h105 hb)) (Bq.cell 5)⟩)
  case z464 =>
  intro a F0
  replace hs := F0.z.trans hs
  replace hd := F0.e.trans hd
  replace h5 := (F0.n 5 (by decide)).trans h5
  replace h6 := (F0.n 6 (by decide)).trans h6
  replace h7 := (F0.n 7 (by decide)).trans h7
  replace h11 := (F0.n 11 (by decide)).trans h11
  replace h12 := (F0.n 12 (by decide)).trans h12
  replace h13 := (F0.n 13 (by decide)).trans h13
  replace h14 := (F0.n 14 (by decide)).trans h14
  replace h102 := (F0.n 102 (by decide)).trans h102
  replace h104 := (F0.n 104 (by decide)).trans h104
  clear h105
  have h106 := F0.s
  clear F0
  have hc := eqI_any A2 B2 c2 d2 D D' v4 hA.d hB.d hA.ld hB.ld
  refine opG_call 38 107 (f == f' && iv == iv' && c == c' && u == u' && M == M') (by kernel_rfl) (by rw [hs]; decide) ?z465 hc ?z466
  case z465 => (intro o ho; obtain rfl := Option.some.inj ho; exact ⟨wanted_is rfl (by kernel_rfl) h102, fun hb => c_EqualI rfl rfl (ev_tmp (bif_at h104 hb)) (ev_tmp (bif_at h106 hb))⟩)
  case z466 =>
  clear hc
  intro v5 a l5 F0
  replace hs := F0.z.trans hs
  replace hd := F0.e.trans hd
  replace h5 := (F0.n 5 (by decide)).trans h5
  replace h6 := (F0.n 6 (by decide)).trans h6
  replace h7 := (F0.n 7 (by decide)).trans h7
  replace h11 := (F0.n 11 (by decide)).trans h11
  replace h12 := (F0.n 12 (by decide)).trans h12
  replace h13 := (F0.n 13 (by decide)).trans h13
  replace h14 := (F0.n 14 (by decide)).trans h14
  replace h102 := (F0.n 102 (by decide)).trans h102
  clear h104
  clear h106
  have h107 := F0.s
  clear F0
  replace Bp := Bp.below l5 Bp.lt
  replace Bq := Bq.below l5 Bq.lt
  replace hA := hA.below l5
  replace hB := hB.below l5
  replace lz := lz.trans (l5.mono lz.size)
  clear l5
  refine opL 39 108 (v := .bool (f == f' && iv == iv' && c == c' && u == u' && M == M' && D == D')) (w' := v5) (by kernel_rfl) (by rw [hs]; decide) ?z467 ?z468
  case z467 => (intro o ho; obtain rfl := Option.some.inj ho; exact ⟨rfl, k_pick_and rfl (ev_tmp h102) (ev_tmp h107) rfl⟩)
  case z468 =>
  intro a F0
  replace hs := F0.z.trans hs
  replace hd := F0.e.trans hd
  replace h5 := (F0.n 5 (by decide)).trans h5
  replace h6 := (F0.n 6 (by decide)).trans h6
  replace h7 := (F0.n 7 (by decide)).trans h7
  replace h11 := (F0.n 11 (by decide)).trans h11
  replace h12 := (F0.n 12 (by decide)).trans h12
  replace h13 := (F0.n 13 (by decide)).trans h13
  replace h14 := (F0.n 14 (by decide)).trans h14
  clear h102
  clear h107
  have h108 := F0.s
  clear F0
  refine opL 40 109 (v := .bool (f == f' && iv == iv' && c == c' && u == u' && M == M' && D == D')) (w' := v5) (by kernel_rfl) (by rw [hs]; decide) ?z469 ?z470
  case z469 => (intro o ho; obtain rfl := Option.some.inj ho; exact ⟨rfl, k_move rfl (ev_tmp h108)⟩)
  case z470 =>
  intro a F0
  replace hs := F0.z.trans hs
  replace hd := F0.e.trans hd
  replace h5 := (F0.n 5 (by decide)).trans h5
  replace h6 := (F0.n 6 (by decide)).trans h6
  replace h7 := (F0.n 7 (by decide)).trans h7
  replace h11 := (F0.n 11 (by decide)).trans h11
  replace h12 := (F0.n 12 (by decide)).trans h12
  replace h13 := (F0.n 13 (by decide)).trans h13
  replace h14 := (F0.n 14 (by decide)).trans h14
  clear h108
  have h109 := F0.s
  clear F0
  refine opG 41 110 (f == f' && iv == iv' && c == c' && u == u' && M == M' && D == D') (v := .pointer (some ⟨bp, 6, none⟩)) (by kernel_rfl) (by rw [hs]; decide) ?z471 ?z472
  case z471 => (intro o ho; obtain rfl := Option.some.inj ho; exact ⟨wanted_is rfl (by kernel_rfl) h109, fun hb => k_field6 rfl (ev_tmp h13)⟩)
  case z472 =>
  intro a F0
  replace hs := F0.z.trans hs
  replace hd := F0.e.trans hd
  replace h5 := (F0.n 5 (by decide)).trans h5
  replace h6 := (F0.n 6 (by decide)).trans h6
  replace h7 := (F0.n 7 (by decide)).trans h7
  replace h11 := (F0.n 11 (by decide)).trans h11
  replace h12 := (F0.n 12 (by decide)).trans h12
  replace h13 := (F0.n 13 (by decide)).trans h13
  replace h14 := (F0.n 14 (by decide)).trans h14
  replace h109 := (F0.n 109 (by decide)).trans h109
  have h110 := F0.s
  clear F0
  refine opG 42 111 (f == f' && iv == iv' && c == c' && u == u' && M == M' && D == D') (v := .slice A3 K.length c3) (by kernel_rfl) (by rw [hs]; decide) ?z473 ?z474
  case z473 => (intro o ho; obtain rfl := Option.some.inj ho; exact ⟨wanted_is rfl (by kernel_rfl) h109, fun hb => k_loadW rfl (ev_tmp (bif_at h110 hb)) (Bp.cell 6)⟩)
  case z474 =>
  intro a F0
  replace hs := F0.z.trans hs
  replace hd := F0.e.trans hd
  replace h5 := (F0.n 5 (by decide)).trans h5
  replace h6 := (F0.n 6 (by decide)).trans h6
  replace h7 := (F0.n 7 (by decide)).trans h7
  replace h11 := (F0.n 11 (by decide)).trans h11
  replace h12 := (F0.n 12 (by decide)).trans h12
  replace h13 := (F0.n 13 (by decide)).trans h13
  replace h14 := (F0.n 14 (by decide)).trans h14
  replace h109 := (F0.n 109 (by decide)).trans h109
  clear h110
  have h111 := F0.s
  clear F0
  refine opG 43 112 (f == f' && iv == iv' && c == c' && u == u' && M == M' && D == D') (v := .pointer (some ⟨bq, 6, none⟩)) (by kernel_rfl) (by rw [hs]; decide) ?z475 ?z476
  case z475 => (intro o ho; obtain rfl := Option.some.inj ho; exact ⟨wanted_is rfl (by kernel_rfl) h109, fun hb => k_field6 rfl (ev_tmp h14)⟩)
  case z476 =>
  intro a F0
  replace hs := F0.z.trans hs
  replace hd := F0.e.trans hd
  replace h5 := (F0.n 5 (by decide)).trans h5
  replace h6 := (F0.n 6 (by decide)).trans h6
  replace h7 := (F0.n 7 (by decide)).trans h7
  replace h11 := (F0.n 11 (by decide)).trans h11
  replace h12 := (F0.n 12 (by decide)).trans h12
  replace h13 := (F0.n 13 (by decide)).trans h13
  replace h14 := (F0.n 14 (by decide)).trans h14
  replace h109 := (F0.n 109 (by decide)).trans h109
  replace h111 := (F0.n 111 (by decide)).trans h111
  have h112 := F0.s
  clear F0
  refine opG 44 113 (f == f' && iv == iv' && c == c' && u == u' && M == M' && D == D') (v := .slice B3 K'.length d3) (by kernel_rfl) (by rw [hs]; decide) ?z477 ?z478
  case z477 => (intro o ho; obtain rfl := Option.some.inj ho; exact ⟨wanted_is rfl (by kernel_rfl) h109, fun hb => k_loadW rfl (ev_tmp (bif_at h112 hb)) (Bq.cell 6)⟩)
  case z478 =>
  intro a F0
  replace hs := F0.z.trans hs
  replace hd := F0.e.trans hd
  replace h5 := (F0.n 5 (by decide)).trans h5
  replace h6 := (F0.n 6 (by decide)).trans h6
  replace h7 := (F0.n 7 (by decide)).trans h7
  replace h11 := (F0.n 11 (by decide)).trans h11
  replace h12 := (F0.n 12 (by decide)).trans h12
  replace h13 := (F0.n 13 (by decide)).trans h13
  replace h14 := (F0.n 14 (by decide)).trans h14
  replace h109 := (F0.n 109 (by decide)).trans h109
  replace h111 := (F0.n 111 (by decide)).trans h111
  clear h112
  have h113 := F0.s
  clear F0
  have hc := eqN_any A3 B3 c3 d3 K K' v5 hA.k hB.k hA.lk hB.lk
  refine opG_call 45 114 (f == f' && iv == iv' && c == c' && u == u' && M == M' && D == D') (by kernel_rfl) (by rw [hs]; decide) ?z479 hc ?z480
  case z479 => (intro o ho; obtain rfl := Option.some.inj ho; exact ⟨wanted_is rfl (by kernel_rfl) h109, fun hb => c_EqualN rfl rfl (ev_tmp (bif_at h111 hb)) (ev_tmp (bif_at h113 hb))⟩)
  case z480 =>
  clear hc
  intro v6 a l6 F0
  replace hs := F0.z.trans hs
  replace hd := F0.e.trans hd
  replace h5 := (F0.n 5 (by decide)).trans h5
  replace h6 := (F0.n 6 (by decide)).trans h6
  replace h7 := (F0.n 7 (by decide)).trans h7
  replace h11 := (F0.n 11 (by decide)).trans h11
  replace h12 := (F0.n 12 (by decide)).trans h12
  replace h13 := (F0.n 13 (by decide)).trans h13
  replace h14 := (F0.n 14 (by decide)).trans h14
  replace h109 := (F0.n 109 (by decide)).trans h109
  clear h111
  clear h113
  have h114 := F0.s
  clear F0
  replace Bp := Bp.below l6 Bp.lt
  replace Bq := Bq.below l6 Bq.lt
  replace hA := hA.below l6
  replace hB := hB.below l6
  replace lz := lz.trans (l6.mono lz.size)
  clear l6
  refine opL 46 115 (v := .bool (f == f' && iv == iv' && c == c' && u == u' && M == M' && D == D' && K == K')) (w' := v6) (by kernel_rfl) (by rw [hs]; decide) ?z481 ?z482
  case z481 => (intro o ho; obtain rfl := Option.some.inj ho; exact ⟨rfl, k_pick_and rfl (ev_tmp h109) (ev_tmp h114) rfl⟩)
  case z482 =>
  intro a F0
  replace hs := F0.z.trans hs
  replace hd := F0.e.trans hd
  replace h5 := (F0.n 5 (by decide)).trans h5
  replace h6 := (F0.n 6 (by decide)).trans h6
  replace h7 := (F0.n 7 (by decide)).trans h7
  replace h11 := (F0.n 11 (by decide)).trans h11
  replace h12 := (F0.n 12 (by decide)).trans h12
  replace h13 := (F0.n 13 (by decide)).trans h13
  replace h14 := (F0.n 14 (by decide)).trans h14
  clear h109
  clear h114
  have h115 := F0.s
  clear F0
  refine opL 47 116 (v := .bool (f == f' && iv == iv' && c == c' && u == u' && M == M' && D == D' && K == K')) (w' := v6) (by kernel_rfl) (by rw [hs]; decide) ?z483 ?z484
  case z483 => (intro o ho; obtain rfl := Option.some.inj ho; exact ⟨rfl, k_move rfl (ev_tmp h115)⟩)
  case z484 =>
  intro a F0
  replace hs := F0.z.trans hs
  replace hd := F0.e.trans hd
  replace h5 := (F0.n 5 (by decide)).trans h5
  replace h6 := (F0.n 6 (by decide)).trans h6
  replace h7 := (F0.n 7 (by decide)).trans h7
  replace h11 := (F0.n 11 (by decide)).trans h11
  replace h12 := (F0.n 12 (by decide)).trans h12
  replace h13 := (F0.n 13 (by decide)).trans h13
  replace h14 := (F0.n 14 (by decide)).trans h14
  clear h115
  have h116 := F0.s
  clear F0
  refine opG 48 117 (f == f' && iv == iv' && c == c' && u == u' && M == M' && D == D' && K == K') (v := .pointer (some ⟨bp, 7, none⟩)) (by kernel_rfl) (by rw [hs]; decide) ?z485 ?z486
  case z485 => (intro o ho; obtain rfl := Option.some.inj ho; exact ⟨wanted_is rfl (by kernel_rfl) h116, fun hb => k_field7 rfl (ev_tmp h13)⟩)
  case z486 =>
  intro a F0
  replace hs := F0.z.trans hs
  replace hd := F0.e.trans hd
  replace h5 := (F0.n 5 (by decide)).trans h5
  replace h6 := (F0.n 6 (by decide)).trans h6
  replace h7 := (F0.n 7 (by decide)).trans h7
  replace h11 := (F0.n 11 (by decide)).trans h11
  replace h12 := (F0.n 12 (by decide)).trans h12
  replace h13 := (F0.n 13 (by decide)).trans h13
  replace h14 := (F0.n 14 (by decide)).trans h14
  replace h116 := (F0.n 116 (by decide)).trans h116
  have h117 := F0.s
  clear F0
  refine opG 49 118 (f == f' && iv == iv' && c == c' && u == u' && M == M' && D == D' && K == K') (v := .slice A4 P.length c4) (by kernel_rfl) (by rw [hs]; decide) ?z487 ?z488
  case z487 => (intro o ho; obtain rfl := Option.some.inj ho; exact ⟨wanted_is rfl (by kernel_rfl) h116, fun hb => k_loadL rfl (ev_tmp (bif_at h117 hb)) (Bp.cell 7)⟩)
  case z488 =>
  intro a F0
  replace hs := F0.z.trans hs
  replace hd := F0.e.trans hd
  replace h5 := (F0.n 5 (by decide)).trans h5
  replace h6 := (F0.n 6 (by decide)).trans h6
  replace h7 := (F0.n 7 (by decide)).trans h7
  replace h11 := (F0.n 11 (by decide)).trans h11
  replace h12 := (F0.n 12 (by decide)).trans h12
  replace h13 := (F0.n 13 (by decide)).trans h13
  replace h14 := (F0.n 14 (by decide)).trans h14
  replace h116 := (F0.n 116 (by decide)).trans h116
  clear h117
  have h118 := F0.s
  clear F0
  refine opG 50 119 (f == f' && iv == iv' && c == c' && u == u' && M == M' && D == D' && K == K') (v := .pointer (some ⟨bq, 7, none⟩)) (by kernel_rfl) (by rw [hs]; decide) ?z489 ?z490
  case z489 => (intro o ho; obtain rfl := Option.some.inj ho; exact ⟨wanted_is rfl (by kernel_rfl) h116, fun hb => k_field7 rfl (ev_tmp h14)⟩)
  case z490 =>
  intro a F0
  replace hs := F0.z.trans hs
  replace hd := F0.e.trans hd
  replace h5 := (F0.n 5 (by decide)).trans h5
  replace h6 := (F0.n 6 (by decide)).trans h6
  replace h7 := (F0.n 7 (by decide)).trans h7
  replace h11 := (F0.n 11 (by decide)).trans h11
  replace h12 := (F0.n 12 (by decide)).trans h12
  replace h13 := (F0.n 13 (by decide)).trans h13
  replace h14 := (F0.n 14 (by decide)).trans h14
  replace h116 := (F0.n 116 (by decide)).trans h116
  replace h118 := (F0.n 118 (by decide)).trans h118
  have h119 := F0.s
  clear F0
  refine opG 51 120 (f == f' && iv == iv' && c == c' && u == u' && M == M' && D == D' && K == K') (v := .slice B4 P'.length d4) (by kernel_rfl) (by rw [hs]; decide) ?z491 ?z492
  case z491 => (intro o ho; obtain rfl := Option.some.inj ho; exact ⟨wanted_is rfl (by kernel_rfl) h116, fun hb => k_loadL rfl (ev_tmp (bif_at h119 hb)) (Bq.cell 7)⟩)
  case z492 =>
  intro a F0
  replace hs := F0.z.trans hs
  replace hd := F0.e.trans hd
  replace h5 := (F0.n 5 (by decide)).trans h5
  replace h6 := (F0.n 6 (by decide)).trans h6
  replace h7 := (F0.n 7 (by decide)).trans h7
  replace h11 := (F0.n 11 (by decide)).trans h11
  replace h12 := (F0.n 12 (by decide)).trans h12
  replace h13 := (F0.n 13 (by decide)).trans h13
  replace h14 := (F0.n 14 (by decide)).trans h14
  replace h116 := (F0.n 116 (by decide)).trans h116
  replace h118 := (F0.n 118 (by decide)).trans h118
  clear h119
  have h120 := F0.s
  clear F0
  have hc := eqI_any A4 B4 c4 d4 P P' v6 hA.p hB.p hA.lp hB.lp
  refine opG_call 52 121 (f == f' && iv == iv' && c == c' && u == u' && M == M' && D == D' && K == K') (by kernel_rfl) (by rw [hs]; decide) ?z493 hc ?z494
  case z493 => (intro o ho; obtain rfl := Option.some.inj ho; exact ⟨wanted_is rfl (by kernel_rfl) h116, fun hb => c_EqualI rfl rfl (ev_tmp (bif_at h118 hb)) (ev_tmp (bif_at h120 hb))⟩)
  case z494 =>
  clear hc
  intro v7 a l7 F0
  replace hs := F0.z.trans hs
  replace hd := F0.e.trans hd
  replace h5 := (F0.n 5 (by decide)).trans h5
  replace h6 := (F0.n 6 (by decide)).trans h6
  replace h7 := (F0.n 7 (by decide)).trans h7
  replace h11 := (F0.n 11 (by decide)).trans h11
  replace h12 := (F0.n 12 (by decide)).trans h12
  replace h13 := (F0.n 13 (by decide)).trans h13
  replace h14 := (F0.n 14 (by decide)).trans h14
  replace h116 := (F0.n 116 (by decide)).trans h116
  clear h118
  clear h120
  have h121 := F0.s
  clear F0
  replace Bp := Bp.below l7 Bp.lt
  replace Bq := Bq.below l7 Bq.lt
  replace hA := hA.below l7
  replace hB := hB.below l7
  replace lz := lz.trans (l7.mono lz.size)
  clear l7
  refine opL 53 122 (v := .bool (f == f' && iv == iv' && c == c' && u == u' && M == M' && D == D' && K == K' && P == P')) (w' := v7) (by kernel_rfl) (by rw [hs]; decide) ?z495 ?z496
  case z495 => (intro o ho; obtain rfl := Option.some.inj ho; exact ⟨rfl, k_pick_and rfl (ev_tmp h116) (ev_tmp h121) rfl⟩)
  case z496 =>
  intro a F0
  replace hs := F0.z.trans hs
  replace hd := F0.e.trans hd
  replace h5 := (F0.n 5 (by decide)).trans h5
  replace h6 := (F0.n 6 (by decide)).trans h6
  replace h7 := (F0.n 7 (by decide)).trans h7
  replace h11 := (F0.n 11 (by decide)).trans h11
  replace h12 := (F0.n 12 (by decide)).trans h12
  replace h13 := (F0.n 13 (by decide)).trans h13
  replace h14 := (F0.n 14 (by decide)).trans h14
  clear h116
  clear h121
  have h122 := F0.s
  clear F0
  refine opL 54 15 (v := .bool (f == f' && iv == iv' && c == c' && u == u' && M == M' && D == D' && K == K' && P == P')) (w' := v7) (by kernel_rfl) (by rw [hs]; decide) ?z497 ?z498
  case z497 => (intro o ho; obtain rfl := Option.some.inj ho; exact ⟨rfl, k_assign rfl (ev_tmp h122)⟩)
  case z498 =>
  intro a F0
  replace hs := F0.z.trans hs
  replace hd := F0.e.trans hd
  replace h5 := (F0.n 5 (by decide)).trans h5
  replace h6 := (F0.n 6 (by decide)).trans h6
  replace h7 := (F0.n 7 (by decide)).trans h7
  replace h11 := (F0.n 11 (by decide)).trans h11
  replace h12 := (F0.n 12 (by decide)).trans h12
  replace h13 := (F0.n 13 (by decide)).trans h13
  replace h14 := (F0.n 14 (by decide)).trans h14
  clear h122
  have h15 := F0.s
  clear F0
  exact hR a _ hs hd h5 h6 h7 h11 h12 h13 h14 h15 lz

noncomputable def ord14 : Array Oper := (Tryd.f3.body.bind (regOf 14)).getD #[]
set_option maxRecDepth 100000 in
set_option maxHeartbeats 2000000 in
theorem regOrd14 (a : Act) (w : World) (Q : Exit → Act → World → Prop) (hQ : Blind Q) (b5 b6 b7 bp bq : Nat) (n d n' d' : Int) (F I E C U : Int) (AM AD AW AP : Option Addr) (cM cD cW cP : Nat) (lm ld : List Int) (lw : List (Int × Int)) (lp : List Int) (F' I' E' C' U' : Int) (lm' ld' : List Int) (lw' : List (Int × Int)) (lp' : List Int) (A1 A2 A3 A4 B1 B2 B3 B4 : Option Addr) (c1 c2 c3 c4 d1 d2 d3 d4 : Nat) (df : List _) (hd : a.defers = df) (hs : a.tmps.size = 148) (h5 : a.tmps.getD 5 undef = .pointer (some ⟨b5, 0, none⟩)) (h6 : a.tmps.getD 6 undef = .pointer (some ⟨b6, 0, none⟩)) (h7 : a.tmps.getD 7 undef = .pointer (some ⟨b7, 0, none⟩)) (h11 : a.tmps.getD 11 undef = .int .i64 (Rul.cmpN (n, d) (n', d'))) (h12 : a.tmps.getD 12 undef = .bool (lessB n d n' d')) (h13 : a.tmps.getD 13 undef = .pointer (some ⟨bp, 0, none⟩)) (h14 : a.tmps.getD 14 undef = .pointer (some ⟨bq, 0, none⟩)) (h15 : a.tmps.getD 15 undef = .bool (sameB (F.tmod 4) (Mk.iv I) (Mk.cnt E C) (Mk.unt E U) (Mk.mon lm) (Mk.D F ld) ((Mk.W F lw).map (·.1)) (Mk.P F lm ld lw lp) (F'.tmod 4) (Mk.iv I') (Mk.cnt E' C') (Mk.unt E' U') (Mk.mon lm') (Mk.D F' ld') ((Mk.W F' lw').map (·.1)) (Mk.P F' lm' ld' lw' lp')))
    (B5 : Blk w b5 23 #[.int .i64 n, .int .i64 d]) (B6 : Blk w b6 23 #[.int .i64 n', .int .i64 d']) (B7 : Blk w b7 31 #[.int .u8 F, .int .u8 I, .int .u8 E, .int .u16 C, .int .u32 U, .slice AM lm.length cM, .slice AD ld.length cD, .slice AW lw.length cW, .slice AP lp.length cP]) (Bp : Blk w bp 39 #[.int .i64 (F.tmod 4), .int .i64 (Mk.iv I), .int .i64 (Mk.cnt E C), .int .i64 (Mk.unt E U), .slice A1 (Mk.mon lm).length c1, .slice A2 (Mk.D F ld).length c2, .slice A3 ((Mk.W F lw).map (·.1)).length c3, .slice A4 (Mk.P F lm ld lw lp).length c4]) (Bq : Blk w bq 39 #[.int .i64 (F'.tmod 4), .int .i64 (Mk.iv I'), .int .i64 (Mk.cnt E' C'), .int .i64 (Mk.unt E' U'), .slice B1 (Mk.mon lm').length d1, .slice B2 (Mk.D F' ld').length d2, .slice B3 ((Mk.W F' lw').map (·.1)).length d3, .slice B4 (Mk.P F' lm' ld' lw' lp').length d4]) (Hp : PlainR w A1 A2 A3 A4 (Mk.mon lm) (Mk.D F ld) ((Mk.W F lw).map (·.1)) (Mk.P F lm ld lw lp)) (Hq : PlainR w B1 B2 B3 B4 (Mk.mon lm') (Mk.D F' ld') ((Mk.W F' lw').map (·.1)) (Mk.P F' lm' ld' lw' lp')) (hX : XIn w F I E C U AM AD AW AP lm ld lw lp)
    (hR : ∀ (a' : Act) (w' : World), a'.defers = df → a'.tmps.getD 10 undef = .bool true → Below w.heap.size w w' → Q .normal a' w') :
    (Code.region 14 ord14 true).wp Tryd.prog Q a w := by
  conv => arg 2; arg 2; whnf
  refine wp_region_held_drew (S := fun w' => Below w.heap.size w w') (by kernel_rfl) (below_drew (Below.refl _ _)) (fun hH => ?_)
  obtain ⟨u0, hu⟩ : ∃ u0, u0 = w.drew := ⟨_, rfl⟩
  rw [← hu] at hH ⊢
  clear hu
  refine heldL 0 123 (v := .int .i64 (Rul.cmpN (n, d) (n', d'))) hQ (by kernel_rfl) (by rw [hs]; decide) (by kernel_rfl) (by kernel_rfl) (by kernel_rfl) hH ?z499 ?z500
  case z499 => (intro o ho; obtain rfl := Option.some.inj ho; exact Or.inl ⟨rfl, fun w1 h1w => k_move rfl (ev_tmp h11)⟩)
  case z500 =>
  intro a F0
  replace hs := F0.z.trans hs
  replace hd := F0.e.trans hd
  replace h5 := (F0.n 5 (by decide)).trans h5
  replace h6 := (F0.n 6 (by decide)).trans h6
  replace h7 := (F0.n 7 (by decide)).trans h7
  replace h11 := (F0.n 11 (by decide)).trans h11
  replace h12 := (F0.n 12 (by decide)).trans h12
  replace h13 := (F0.n 13 (by decide)).trans h13
  replace h14 := (F0.n 14 (by decide)).trans h14
  replace h15 := (F0.n 15 (by decide)).trans h15
  have h123 := F0.s
  clear F0
  refine heldL 1 124 (v := .bool ((Rul.cmpN (n, d) (n', d')) == 0)) hQ (by kernel_rfl) (by rw [hs]; decide) (by kernel_rfl) (by kernel_rfl) (by kernel_rfl) hH ?z501 ?z502
  case z501 => (intro o ho; obtain rfl := Option.some.inj ho; exact Or.inl ⟨rfl, fun w1 h1w => o_eqI rfl (ev_tmp h123) rfl rfl⟩)
  case z502 =>
  intro a F0
  replace hs := F0.z.trans hs
  replace hd := F0.e.trans hd
  replace h5 := (F0.n 5 (by decide)).trans h5
  replace h6 := (F0.n 6 (by decide)).trans h6
  replace h7 := (F0.n 7 (by decide)).trans h7
  replace h11 := (F0.n 11 (by decide)).trans h11
  replace h12 := (F0.n 12 (by decide)).trans h12
  replace h13 := (F0.n 13 (by decide)).trans h13
  replace h14 := (F0.n 14 (by decide)).trans h14
  replace h15 := (F0.n 15 (by decide)).trans h15
  replace h123 := (F0.n 123 (by decide)).trans h123
  have h124 := F0.s
  clear F0
  refine heldL 2 125 (v := .agg #[.int .i64 n, .int .i64 d]) hQ (by kernel_rfl) (by rw [hs]; decide) (by kernel_rfl) (by kernel_rfl) (by kernel_rfl) hH ?z503 ?z504
  case z503 => (intro o ho; obtain rfl := Option.some.inj ho; exact Or.inl ⟨rfl, fun w1 h1w => k_loadNs rfl (ev_tmp h5) (B5.below h1w B5.lt)⟩)
  case z504 =>
  intro a F0
  replace hs := F0.z.trans hs
  replace hd := F0.e.trans hd
  replace h5 := (F0.n 5 (by decide)).trans h5
  replace h6 := (F0.n 6 (by decide)).trans h6
  replace h7 := (F0.n 7 (by decide)).trans h7
  replace h11 := (F0.n 11 (by decide)).trans h11
  replace h12 := (F0.n 12 (by decide)).trans h12
  replace h13 := (F0.n 13 (by decide)).trans h13
  replace h14 := (F0.n 14 (by decide)).trans h14
  replace h15 := (F0.n 15 (by decide)).trans h15
  replace h123 := (F0.n 123 (by decide)).trans h123
  replace h124 := (F0.n 124 (by decide)).trans h124
  have h125 := F0.s
  clear F0
  refine heldL 3 126 (v := .agg #[.int .i64 n', .int .i64 d']) hQ (by kernel_rfl) (by rw [hs]; decide) (by kernel_rfl) (by kernel_rfl) (by kernel_rfl) hH ?z505 ?z506
  case z505 => (intro o ho; obtain rfl := Option.some.inj ho; exact Or.inl ⟨rfl, fun w1 h1w => k_loadNs rfl (ev_tmp h6) (B6.below h1w B6.lt)⟩)
  case z506 =>
  intro a F0
  replace hs := F0.z.trans hs
  replace hd := F0.e.trans hd
  replace h5 := (F0.n 5 (by decide)).trans h5
  replace h6 := (F0.n 6 (by decide)).trans h6
  replace h7 := (F0.n 7 (by decide)).trans h7
  replace h11 := (F0.n 11 (by decide)).trans h11
  replace h12 := (F0.n 12 (by decide)).trans h12
  replace h13 := (F0.n 13 (by decide)).trans h13
  replace h14 := (F0.n 14 (by decide)).trans h14
  replace h15 := (F0.n 15 (by decide)).trans h15
  replace h123 := (F0.n 123 (by decide)).trans h123
  replace h124 := (F0.n 124 (by decide)).trans h124
  replace h125 := (F0.n 125 (by decide)).trans h125
  have h126 := F0.s
  clear F0
  refine heldL 4 127 (v := .bool (n == n' && d == d')) hQ (by kernel_rfl) (by rw [hs]; decide) (by kernel_rfl) (by kernel_rfl) (by kernel_rfl) hH ?z507 ?z508
  case z507 => (intro o ho; obtain rfl := Option.some.inj ho; exact Or.inl ⟨rfl, fun w1 h1w => o_eqN rfl (ev_tmp h125) (ev_tmp h126) rfl⟩)
  case z508 =>
  intro a F0
  replace hs := F0.z.trans hs
  replace hd := F0.e.trans hd
  replace h5 := (F0.n 5 (by decide)).trans h5
  replace h6 := (F0.n 6 (by decide)).trans h6
  replace h7 := (F0.n 7 (by decide)).trans h7
  replace h11 := (F0.n 11 (by decide)).trans h11
  replace h12 := (F0.n 12 (by decide)).trans h12
  replace h13 := (F0.n 13 (by decide)).trans h13
  replace h14 := (F0.n 14 (by decide)).trans h14
  replace h15 := (F0.n 15 (by decide)).trans h15
  replace h123 := (F0.n 123 (by decide)).trans h123
  replace h124 := (F0.n 124 (by decide)).trans h124
  replace h125 := (F0.n 125 (by decide)).trans h125
  replace h126 := (F0.n 126 (by decide)).trans h126
  have h127 := F0.s
  clear F0
  refine heldL 5 128 (v := .bool true) hQ (by kernel_rfl) (by rw [hs]; decide) (by kernel_rfl) (by kernel_rfl) (by kernel_rfl) hH ?z509 ?z510
  case z509 => (intro o ho; obtain rfl := Option.some.inj ho; exact Or.inl ⟨rfl, fun w1 h1w => o_eqBool rfl (ev_tmp h124) (ev_tmp h127) (by rw [zero_cmp]; simp)⟩)
  case z510 =>
  intro a F0
  replace hs := F0.z.trans hs
  replace hd := F0.e.trans hd
  replace h5 := (F0.n 5 (by decide)).trans h5
  replace h6 := (F0.n 6 (by decide)).trans h6
  replace h7 := (F0.n 7 (by decide)).trans h7
  replace h11 := (F0.n 11 (by decide)).trans h11
  replace h12 := (F0.n 12 (by decide)).trans h12
  replace h13 := (F0.n 13 (by decide)).trans h13
  replace h14 := (F0.n 14 (by decide)).trans h14
  replace h15 := (F0.n 15 (by decide)).trans h15
  replace h123 := (F0.n 123 (by decide)).trans h123
  replace h124 := (F0.n 124 (by decide)).trans h124
  replace h125 := (F0.n 125 (by decide)).trans h125
  replace h126 := (F0.n 126 (by decide)).trans h126
  replace h127 := (F0.n 127 (by decide)).trans h127
  have h128 := F0.s
  clear F0
  refine heldL 6 129 (v := .bool true) hQ (by kernel_rfl) (by rw [hs]; decide) (by kernel_rfl) (by kernel_rfl) (by kernel_rfl) hH ?z511 ?z512
  case z511 => (intro o ho; obtain rfl := Option.some.inj ho; exact Or.inl ⟨rfl, fun w1 h1w => k_move rfl (ev_tmp h128)⟩)
  case z512 =>
  intro a F0
  replace hs := F0.z.trans hs
  replace hd := F0.e.trans hd
  replace h5 := (F0.n 5 (by decide)).trans h5
  replace h6 := (F0.n 6 (by decide)).trans h6
  replace h7 := (F0.n 7 (by decide)).trans h7
  replace h11 := (F0.n 11 (by decide)).trans h11
  replace h12 := (F0.n 12 (by decide)).trans h12
  replace h13 := (F0.n 13 (by decide)).trans h13
  replace h14 := (F0.n 14 (by decide)).trans h14
  replace h15 := (F0.n 15 (by decide)).trans h15
  replace h123 := (F0.n 123 (by decide)).trans h123
  replace h124 := (F0.n 124 (by decide)).trans h124
  replace h125 := (F0.n 125 (by decide)).trans h125
  replace h126 := (F0.n 126 (by decide)).trans h126
  replace h127 := (F0.n 127 (by decide)).trans h127
  replace h128 := (F0.n 128 (by decide)).trans h128
  have h129 := F0.s
  clear F0
  refine heldL 7 130 (v := .int .i64 (Rul.cmpN (n, d) (n', d'))) hQ (by kernel_rfl) (by rw [hs]; decide) (by kernel_rfl) (by kernel_rfl) (by kernel_rfl) hH ?z513 ?z514
  case z513 => (intro o ho; obtain rfl := Option.some.inj ho; exact Or.inl ⟨wanted_at (b := true) (want := true) rfl (by kernel_rfl) h129, fun w1 h1w => k_move rfl (ev_tmp h11)⟩)
  case z514 =>
  intro a F0
  replace hs := F0.z.trans hs
  replace hd := F0.e.trans hd
  replace h5 := (F0.n 5 (by decide)).trans h5
  replace h6 := (F0.n 6 (by decide)).trans h6
  replace h7 := (F0.n 7 (by decide)).trans h7
  replace h11 := (F0.n 11 (by decide)).trans h11
  replace h12 := (F0.n 12 (by decide)).trans h12
  replace h13 := (F0.n 13 (by decide)).trans h13
  replace h14 := (F0.n 14 (by decide)).trans h14
  replace h15 := (F0.n 15 (by decide)).trans h15
  replace h123 := (F0.n 123 (by decide)).trans h123
  replace h124 := (F0.n 124 (by decide)).trans h124
  replace h125 := (F0.n 125 (by decide)).trans h125
  replace h126 := (F0.n 126 (by decide)).trans h126
  replace h127 := (F0.n 127 (by decide)).trans h127
  replace h128 := (F0.n 128 (by decide)).trans h128
  replace h129 := (F0.n 129 (by decide)).trans h129
  have h130 := F0.s
  clear F0
  refine heldL 8 131 (v := .bool (decide ((Rul.cmpN (n, d) (n', d')) < 0))) hQ (by kernel_rfl) (by rw [hs]; decide) (by kernel_rfl) (by kernel_rfl) (by kernel_rfl) hH ?z515 ?z516
  case z515 => (intro o ho; obtain rfl := Option.some.inj ho; exact Or.inl ⟨wanted_at (b := true) (want := true) rfl (by kernel_rfl) h129, fun w1 h1w => o_ltI rfl (ev_tmp h130) rfl rfl⟩)
  case z516 =>
  intro a F0
  replace hs := F0.z.trans hs
  replace hd := F0.e.trans hd
  replace h5 := (F0.n 5 (by decide)).trans h5
  replace h6 := (F0.n 6 (by decide)).trans h6
  replace h7 := (F0.n 7 (by decide)).trans h7
  replace h11 := (F0.n 11 (by decide)).trans h11
  replace h12 := (F0.n 12 (by decide)).trans h12
  replace h13 := (F0.n 13 (by decide)).trans h13
  replace h14 := (F0.n 14 (by decide)).trans h14
  replace h15 := (F0.n 15 (by decide)).trans h15
  replace h123 := (F0.n 123 (by decide)).trans h123
  replace h124 := (F0.n 124 (by decide)).trans h124
  replace h125 := (F0.n 125 (by decide)).trans h125
  replace h126 := (F0.n 126 (by decide)).trans h126
  replace h127 := (F0.n 127 (by decide)).trans h127
  replace h128 := (F0.n 128 (by decide)).trans h128
  replace h129 := (F0.n 129 (by decide)).trans h129
  replace h130 := (F0.n 130 (by decide)).trans h130
  have h131 := F0.s
  clear F0
  refine heldL 9 132 (v := .bool (lessB n d n' d')) hQ (by kernel_rfl) (by rw [hs]; decide) (by kernel_rfl) (by kernel_rfl) (by kernel_rfl) hH ?z517 ?z518
  case z517 => (intro o ho; obtain rfl := Option.some.inj ho; exact Or.inl ⟨wanted_at (b := true) (want := true) rfl (by kernel_rfl) h129, fun w1 h1w => k_move rfl (ev_tmp h12)⟩)
  case z518 =>
  intro a F0
  replace hs := F0.z.trans hs
  replace hd := F0.e.trans hd
  replace h5 := (F0.n 5 (by decide)).trans h5
  replace h6 := (F0.n 6 (by decide)).trans h6
  replace h7 := (F0.n 7 (by decide)).trans h7
  replace h11 := (F0.n 11 (by decide)).trans h11
  replace h12 := (F0.n 12 (by decide)).trans h12
  replace h13 := (F0.n 13 (by decide)).trans h13
  replace h14 := (F0.n 14 (by decide)).trans h14
  replace h15 := (F0.n 15 (by decide)).trans h15
  replace h123 := (F0.n 123 (by decide)).trans h123
  replace h124 := (F0.n 124 (by decide)).trans h124
  replace h125 := (F0.n 125 (by decide)).trans h125
  replace h126 := (F0.n 126 (by decide)).trans h126
  replace h127 := (F0.n 127 (by decide)).trans h127
  replace h128 := (F0.n 128 (by decide)).trans h128
  replace h129 := (F0.n 129 (by decide)).trans h129
  replace h130 := (F0.n 130 (by decide)).trans h130
  replace h131 := (F0.n 131 (by decide)).trans h131
  have h132 := F0.s
  clear F0
  refine heldL 10 133 (v := .bool true) hQ (by kernel_rfl) (by rw [hs]; decide) (by kernel_rfl) (by kernel_rfl) (by kernel_rfl) hH ?z519 ?z520
  case z519 => (intro o ho; obtain rfl := Option.some.inj ho; exact Or.inl ⟨wanted_at (b := true) (want := true) rfl (by kernel_rfl) h129, fun w1 h1w => o_eqBool rfl (ev_tmp h131) (ev_tmp h132) (by rw [less_cmp]; simp)⟩)
  case z520 =>
  intro a F0
  replace hs := F0.z.trans hs
  replace hd := F0.e.trans hd
  replace h5 := (F0.n 5 (by decide)).trans h5
  replace h6 := (F0.n 6 (by decide)).trans h6
  replace h7 := (F0.n 7 (by decide)).trans h7
  replace h11 := (F0.n 11 (by decide)).trans h11
  replace h12 := (F0.n 12 (by decide)).trans h12
  replace h13 := (F0.n 13 (by decide)).trans h13
  replace h14 := (F0.n 14 (by decide)).trans h14
  replace h15 := (F0.n 15 (by decide)).trans h15
  replace h123 := (F0.n 123 (by decide)).trans h123
  replace h124 := (F0.n 124 (by decide)).trans h124
  replace h125 := (F0.n 125 (by decide)).trans h125
  replace h126 := (F0.n 126 (by decide)).trans h126
  replace h127 := (F0.n 127 (by decide)).trans h127
  replace h128 := (F0.n 128 (by decide)).trans h128
  replace h129 := (F0.n 129 (by decide)).trans h129
  replace h130 := (F0.n 130 (by decide)).trans h130
  replace h131 := (F0.n 131 (by decide)).trans h131
  replace h132 := (F0.n 132 (by decide)).trans h132
  have h133 := F0.s
  clear F0
  refine heldL 11 134 (v := .bool true) hQ (by kernel_rfl) (by rw [hs]; decide) (by kernel_rfl) (by kernel_rfl) (by kernel_rfl) hH ?z521 ?z522
  case z521 => (intro o ho; obtain rfl := Option.some.inj ho; exact Or.inl ⟨rfl, fun w1 h1w => k_pick_yes rfl (ev_tmp h129) (ev_tmp h133)⟩)
  case z522 =>
  intro a F0
  replace hs := F0.z.trans hs
  replace hd := F0.e.trans hd
  replace h5 := (F0.n 5 (by decide)).trans h5
  replace h6 := (F0.n 6 (by decide)).trans h6
  replace h7 := (F0.n 7 (by decide)).trans h7
  replace h11 := (F0.n 11 (by decide)).trans h11
  replace h12 := (F0.n 12 (by decide)).trans h12
  replace h13 := (F0.n 13 (by decide)).trans h13
  replace h14 := (F0.n 14 (by decide)).trans h14
  replace h15 := (F0.n 15 (by decide)).trans h15
  replace h123 := (F0.n 123 (by decide)).trans h123
  replace h124 := (F0.n 124 (by decide)).trans h124
  replace h125 := (F0.n 125 (by decide)).trans h125
  replace h126 := (F0.n 126 (by decide)).trans h126
  replace h127 := (F0.n 127 (by decide)).trans h127
  replace h128 := (F0.n 128 (by decide)).trans h128
  replace h129 := (F0.n 129 (by decide)).trans h129
  replace h130 := (F0.n 130 (by decide)).trans h130
  replace h131 := (F0.n 131 (by decide)).trans h131
  replace h132 := (F0.n 132 (by decide)).trans h132
  replace h133 := (F0.n 133 (by decide)).trans h133
  have h134 := F0.s
  clear F0
  refine heldL 12 135 (v := .bool true) hQ (by kernel_rfl) (by rw [hs]; decide) (by kernel_rfl) (by kernel_rfl) (by kernel_rfl) hH ?z523 ?z524
  case z523 => (intro o ho; obtain rfl := Option.some.inj ho; exact Or.inl ⟨rfl, fun w1 h1w => k_move rfl (ev_tmp h134)⟩)
  case z524 =>
  intro a F0
  replace hs := F0.z.trans hs
  replace hd := F0.e.trans hd
  replace h5 := (F0.n 5 (by decide)).trans h5
  replace h6 := (F0.n 6 (by decide)).trans h6
  replace h7 := (F0.n 7 (by decide)).trans h7
  replace h11 := (F0.n 11 (by decide)).trans h11
  replace h12 := (F0.n 12 (by decide)).trans h12
  replace h13 := (F0.n 13 (by decide)).trans h13
  replace h14 := (F0.n 14 (by decide)).trans h14
  replace h15 := (F0.n 15 (by decide)).trans h15
  replace h123 := (F0.n 123 (by decide)).trans h123
  replace h124 := (F0.n 124 (by decide)).trans h124
  replace h125 := (F0.n 125 (by decide)).trans h125
  replace h126 := (F0.n 126 (by decide)).trans h126
  replace h127 := (F0.n 127 (by decide)).trans h127
  replace h128 := (F0.n 128 (by decide)).trans h128
  replace h129 := (F0.n 129 (by decide)).trans h129
  replace h130 := (F0.n 130 (by decide)).trans h130
  replace h131 := (F0.n 131 (by decide)).trans h131
  replace h132 := (F0.n 132 (by decide)).trans h132
  replace h133 := (F0.n 133 (by decide)).trans h133
  replace h134 := (F0.n 134 (by decide)).trans h134
  have h135 := F0.s
  clear F0
  refine heldL 13 136 (v := .agg #[.int .i64 (F.tmod 4), .int .i64 (Mk.iv I), .int .i64 (Mk.cnt E C), .int .i64 (Mk.unt E U), .slice A1 (Mk.mon lm).length c1, .slice A2 (Mk.D F ld).length c2, .slice A3 ((Mk.W F lw).map (·.1)).length c3, .slice A4 (Mk.P F lm ld lw lp).length c4]) hQ (by kernel_rfl) (by rw [hs]; decide) (by kernel_rfl) (by kernel_rfl) (by kernel_rfl) hH ?z525 ?z526
  case z525 => (intro o ho; obtain rfl := Option.some.inj ho; exact Or.inl ⟨wanted_at (b := true) (want := true) rfl (by kernel_rfl) h135, fun w1 h1w => k_loadR rfl (ev_tmp h13) (Bp.below h1w Bp.lt).rule⟩)
  case z526 =>
  intro a F0
  replace hs := F0.z.trans hs
  replace hd := F0.e.trans hd
  replace h5 := (F0.n 5 (by decide)).trans h5
  replace h6 := (F0.n 6 (by decide)).trans h6
  replace h7 := (F0.n 7 (by decide)).trans h7
  replace h11 := (F0.n 11 (by decide)).trans h11
  replace h12 := (F0.n 12 (by decide)).trans h12
  replace h13 := (F0.n 13 (by decide)).trans h13
  replace h14 := (F0.n 14 (by decide)).trans h14
  replace h15 := (F0.n 15 (by decide)).trans h15
  replace h123 := (F0.n 123 (by decide)).trans h123
  replace h124 := (F0.n 124 (by decide)).trans h124
  replace h125 := (F0.n 125 (by decide)).trans h125
  replace h126 := (F0.n 126 (by decide)).trans h126
  replace h127 := (F0.n 127 (by decide)).trans h127
  replace h128 := (F0.n 128 (by decide)).trans h128
  replace h129 := (F0.n 129 (by decide)).trans h129
  replace h130 := (F0.n 130 (by decide)).trans h130
  replace h131 := (F0.n 131 (by decide)).trans h131
  replace h132 := (F0.n 132 (by decide)).trans h132
  replace h133 := (F0.n 133 (by decide)).trans h133
  replace h134 := (F0.n 134 (by decide)).trans h134
  replace h135 := (F0.n 135 (by decide)).trans h135
  have h136 := F0.s
  clear F0
  refine heldL 14 137 (v := .agg #[.int .i64 (F'.tmod 4), .int .i64 (Mk.iv I'), .int .i64 (Mk.cnt E' C'), .int .i64 (Mk.unt E' U'), .slice B1 (Mk.mon lm').length d1, .slice B2 (Mk.D F' ld').length d2, .slice B3 ((Mk.W F' lw').map (·.1)).length d3, .slice B4 (Mk.P F' lm' ld' lw' lp').length d4]) hQ (by kernel_rfl) (by rw [hs]; decide) (by kernel_rfl) (by kernel_rfl) (by kernel_rfl) hH ?z527 ?z528
  case z527 => (intro o ho; obtain rfl := Option.some.inj ho; exact Or.inl ⟨wanted_at (b := true) (want := true) rfl (by kernel_rfl) h135, fun w1 h1w => k_loadR rfl (ev_tmp h14) (Bq.below h1w Bq.lt).rule⟩)
  case z528 =>
  intro a F0
  replace hs := F0.z.trans hs
  replace hd := F0.e.trans hd
  replace h5 := (F0.n 5 (by decide)).trans h5
  replace h6 := (F0.n 6 (by decide)).trans h6
  replace h7 := (F0.n 7 (by decide)).trans h7
  replace h11 := (F0.n 11 (by decide)).trans h11
  replace h12 := (F0.n 12 (by decide)).trans h12
  replace h13 := (F0.n 13 (by decide)).trans h13
  replace h14 := (F0.n 14 (by decide)).trans h14
  replace h15 := (F0.n 15 (by decide)).trans h15
  replace h123 := (F0.n 123 (by decide)).trans h123
  replace h124 := (F0.n 124 (by decide)).trans h124
  replace h125 := (F0.n 125 (by decide)).trans h125
  replace h126 := (F0.n 126 (by decide)).trans h126
  replace h127 := (F0.n 127 (by decide)).trans h127
  replace h128 := (F0.n 128 (by decide)).trans h128
  replace h129 := (F0.n 129 (by decide)).trans h129
  replace h130 := (F0.n 130 (by decide)).trans h130
  replace h131 := (F0.n 131 (by decide)).trans h131
  replace h132 := (F0.n 132 (by decide)).trans h132
  replace h133 := (F0.n 133 (by decide)).trans h133
  replace h134 := (F0.n 134 (by decide)).trans h134
  replace h135 := (F0.n 135 (by decide)).trans h135
  replace h136 := (F0.n 136 (by decide)).trans h136
  have h137 := F0.s
  clear F0
  refine heldL 16 139 (v := .bool (sameB (F.tmod 4) (Mk.iv I) (Mk.cnt E C) (Mk.unt E U) (Mk.mon lm) (Mk.D F ld) ((Mk.W F lw).map (·.1)) (Mk.P F lm ld lw lp) (F'.tmod 4) (Mk.iv I') (Mk.cnt E' C') (Mk.unt E' U') (Mk.mon lm') (Mk.D F' ld') ((Mk.W F' lw').map (·.1)) (Mk.P F' lm' ld' lw' lp'))) hQ (by kernel_rfl) (by rw [hs]; decide) (by kernel_rfl) (by kernel_rfl) (by kernel_rfl) hH ?z529 ?z530
  case z529 => (intro o ho; obtain rfl := Option.some.inj ho; exact Or.inl ⟨wanted_at (b := true) (want := true) rfl (by kernel_rfl) h135, fun w1 h1w => k_move rfl (ev_tmp h15)⟩)
  case z530 =>
  intro a F0
  replace hs := F0.z.trans hs
  replace hd := F0.e.trans hd
  replace h5 := (F0.n 5 (by decide)).trans h5
  replace h6 := (F0.n 6 (by decide)).trans h6
  replace h7 := (F0.n 7 (by decide)).trans h7
  replace h11 := (F0.n 11 (by decide)).trans h11
  replace h12 := (F0.n 12 (by decide)).trans h12
  replace h13 := (F0.n 13 (by decide)).trans h13
  replace h14 := (F0.n 14 (by decide)).trans h14
  replace h15 := (F0.n 15 (by decide)).trans h15
  replace h123 := (F0.n 123 (by decide)).trans h123
  replace h124 := (F0.n 124 (by decide)).trans h124
  replace h125 := (F0.n 125 (by decide)).trans h125
  replace h126 := (F0.n 126 (by decide)).trans h126
  replace h127 := (F0.n 127 (by decide)).trans h127
  replace h128 := (F0.n 128 (by decide)).trans h128
  replace h129 := (F0.n 129 (by decide)).trans h129
  replace h130 := (F0.n 130 (by decide)).trans h130
  replace h131 := (F0.n 131 (by decide)).trans h131
  replace h132 := (F0.n 132 (by decide)).trans h132
  replace h133 := (F0.n 133 (by decide)).trans h133
  replace h134 := (F0.n 134 (by decide)).trans h134
  replace h135 := (F0.n 135 (by decide)).trans h135
  replace h136 := (F0.n 136 (by decide)).trans h136
  replace h137 := (F0.n 137 (by decide)).trans h137
  have h139 := F0.s
  clear F0
  have hc := same_any (F.tmod 4) (Mk.iv I) (Mk.cnt E C) (Mk.unt E U) (F'.tmod 4) (Mk.iv I') (Mk.cnt E' C') (Mk.unt E' U') A1 A2 A3 A4 B1 B2 B3 B4 c1 c2 c3 c4 d1 d2 d3 d4 (Mk.mon lm) (Mk.D F ld) (Mk.mon lm') (Mk.D F' ld') ((Mk.W F lw).map (·.1)) ((Mk.W F' lw').map (·.1)) (Mk.P F lm ld lw lp) (Mk.P F' lm' ld' lw' lp') u0 (Hp.below hH) (Hq.below hH)
  have hx := fun ops Q S fuel listed d a i h0 h1 h2 h3 => heldL_call (P := Tryd.prog) (ops := ops) (Q := Q) (S := S) (fuel := fuel) (listed := listed) (a := a) (w := u0) i d h0 h1 h2 h3 hc
  refine hx _ _ _ _ _ 138 _ 15 ?z531 ?z532 ?z533 ?z534 ?z535 ?z536
  case z531 => kernel_rfl
  case z532 => kernel_rfl
  case z533 => (rw [hs]; decide)
  case z534 => (intro o ho; obtain rfl := Option.some.inj ho; exact ⟨wanted_at (b := true) (want := true) rfl (by kernel_rfl) h135, c_Same rfl rfl (ev_tmp h136) (ev_tmp h137)⟩)
  case z535 => (rintro _ _ ⟨rfl, l⟩; exact hH.trans (l.mono hH.size))
  case z536 =>
  clear hx hc
  rintro _ u1 a ⟨rfl, l⟩ F0
  replace hs := F0.z.trans hs
  replace hd := F0.e.trans hd
  replace h5 := (F0.n 5 (by decide)).trans h5
  replace h6 := (F0.n 6 (by decide)).trans h6
  replace h7 := (F0.n 7 (by decide)).trans h7
  replace h11 := (F0.n 11 (by decide)).trans h11
  replace h12 := (F0.n 12 (by decide)).trans h12
  replace h13 := (F0.n 13 (by decide)).trans h13
  replace h14 := (F0.n 14 (by decide)).trans h14
  replace h15 := (F0.n 15 (by decide)).trans h15
  replace h123 := (F0.n 123 (by decide)).trans h123
  replace h124 := (F0.n 124 (by decide)).trans h124
  replace h125 := (F0.n 125 (by decide)).trans h125
  replace h126 := (F0.n 126 (by decide)).trans h126
  replace h127 := (F0.n 127 (by decide)).trans h127
  replace h128 := (F0.n 128 (by decide)).trans h128
  replace h129 := (F0.n 129 (by decide)).trans h129
  replace h130 := (F0.n 130 (by decide)).trans h130
  replace h131 := (F0.n 131 (by decide)).trans h131
  replace h132 := (F0.n 132 (by decide)).trans h132
  replace h133 := (F0.n 133 (by decide)).trans h133
  replace h134 := (F0.n 134 (by decide)).trans h134
  replace h135 := (F0.n 135 (by decide)).trans h135
  replace h136 := (F0.n 136 (by decide)).trans h136
  replace h137 := (F0.n 137 (by decide)).trans h137
  replace h139 := (F0.n 139 (by decide)).trans h139
  have h138 := F0.s
  clear F0
  replace hH := hH.trans (l.mono hH.size)
  clear l
  refine heldL 17 140 (v := .bool true) hQ (by kernel_rfl) (by rw [hs]; decide) (by kernel_rfl) (by kernel_rfl) (by kernel_rfl) hH ?z537 ?z538
  case z537 => (intro o ho; obtain rfl := Option.some.inj ho; exact Or.inl ⟨wanted_at (b := true) (want := true) rfl (by kernel_rfl) h135, fun w1 h1w => o_eqBool rfl (ev_tmp h138) (ev_tmp h139) (by simp)⟩)
  case z538 =>
  intro a F0
  replace hs := F0.z.trans hs
  replace hd := F0.e.trans hd
  replace h5 := (F0.n 5 (by decide)).trans h5
  replace h6 := (F0.n 6 (by decide)).trans h6
  replace h7 := (F0.n 7 (by decide)).trans h7
  replace h11 := (F0.n 11 (by decide)).trans h11
  replace h12 := (F0.n 12 (by decide)).trans h12
  replace h13 := (F0.n 13 (by decide)).trans h13
  replace h14 := (F0.n 14 (by decide)).trans h14
  replace h15 := (F0.n 15 (by decide)).trans h15
  replace h123 := (F0.n 123 (by decide)).trans h123
  replace h124 := (F0.n 124 (by decide)).trans h124
  replace h125 := (F0.n 125 (by decide)).trans h125
  replace h126 := (F0.n 126 (by decide)).trans h126
  replace h127 := (F0.n 127 (by decide)).trans h127
  replace h128 := (F0.n 128 (by decide)).trans h128
  replace h129 := (F0.n 129 (by decide)).trans h129
  replace h130 := (F0.n 130 (by decide)).trans h130
  replace h131 := (F0.n 131 (by decide)).trans h131
  replace h132 := (F0.n 132 (by decide)).trans h132
  replace h133 := (F0.n 133 (by decide)).trans h133
  replace h134 := (F0.n 134 (by decide)).trans h134
  replace h135 := (F0.n 135 (by decide)).trans h135
  replace h136 := (F0.n 136 (by decide)).trans h136
  replace h137 := (F0.n 137 (by decide)).trans h137
  replace h139 := (F0.n 139 (by decide)).trans h139
  replace h138 := (F0.n 138 (by decide)).trans h138
  have h140 := F0.s
  clear F0
  refine heldL 18 141 (v := .bool true) hQ (by kernel_rfl) (by rw [hs]; decide) (by kernel_rfl) (by kernel_rfl) (by kernel_rfl) hH ?z539 ?z540
  case z539 => (intro o ho; obtain rfl := Option.some.inj ho; exact Or.inl ⟨rfl, fun w1 h1w => k_pick_yes rfl (ev_tmp h135) (ev_tmp h140)⟩)
  case z540 =>
  intro a F0
  replace hs := F0.z.trans hs
  replace hd := F0.e.trans hd
  replace h5 := (F0.n 5 (by decide)).trans h5
  replace h6 := (F0.n 6 (by decide)).trans h6
  replace h7 := (F0.n 7 (by decide)).trans h7
  replace h11 := (F0.n 11 (by decide)).trans h11
  replace h12 := (F0.n 12 (by decide)).trans h12
  replace h13 := (F0.n 13 (by decide)).trans h13
  replace h14 := (F0.n 14 (by decide)).trans h14
  replace h15 := (F0.n 15 (by decide)).trans h15
  replace h123 := (F0.n 123 (by decide)).trans h123
  replace h124 := (F0.n 124 (by decide)).trans h124
  replace h125 := (F0.n 125 (by decide)).trans h125
  replace h126 := (F0.n 126 (by decide)).trans h126
  replace h127 := (F0.n 127 (by decide)).trans h127
  replace h128 := (F0.n 128 (by decide)).trans h128
  replace h129 := (F0.n 129 (by decide)).trans h129
  replace h130 := (F0.n 130 (by decide)).trans h130
  replace h131 := (F0.n 131 (by decide)).trans h131
  replace h132 := (F0.n 132 (by decide)).trans h132
  replace h133 := (F0.n 133 (by decide)).trans h133
  replace h134 := (F0.n 134 (by decide)).trans h134
  replace h135 := (F0.n 135 (by decide)).trans h135
  replace h136 := (F0.n 136 (by decide)).trans h136
  replace h137 := (F0.n 137 (by decide)).trans h137
  replace h139 := (F0.n 139 (by decide)).trans h139
  replace h138 := (F0.n 138 (by decide)).trans h138
  replace h140 := (F0.n 140 (by decide)).trans h140
  have h141 := F0.s
  clear F0
  refine heldL 19 142 (v := .bool true) hQ (by kernel_rfl) (by rw [hs]; decide) (by kernel_rfl) (by kernel_rfl) (by kernel_rfl) hH ?z541 ?z542
  case z541 => (intro o ho; obtain rfl := Option.some.inj ho; exact Or.inl ⟨rfl, fun w1 h1w => k_move rfl (ev_tmp h141)⟩)
  case z542 =>
  intro a F0
  replace hs := F0.z.trans hs
  replace hd := F0.e.trans hd
  replace h5 := (F0.n 5 (by decide)).trans h5
  replace h6 := (F0.n 6 (by decide)).trans h6
  replace h7 := (F0.n 7 (by decide)).trans h7
  replace h11 := (F0.n 11 (by decide)).trans h11
  replace h12 := (F0.n 12 (by decide)).trans h12
  replace h13 := (F0.n 13 (by decide)).trans h13
  replace h14 := (F0.n 14 (by decide)).trans h14
  replace h15 := (F0.n 15 (by decide)).trans h15
  replace h123 := (F0.n 123 (by decide)).trans h123
  replace h124 := (F0.n 124 (by decide)).trans h124
  replace h125 := (F0.n 125 (by decide)).trans h125
  replace h126 := (F0.n 126 (by decide)).trans h126
  replace h127 := (F0.n 127 (by decide)).trans h127
  replace h128 := (F0.n 128 (by decide)).trans h128
  replace h129 := (F0.n 129 (by decide)).trans h129
  replace h130 := (F0.n 130 (by decide)).trans h130
  replace h131 := (F0.n 131 (by decide)).trans h131
  replace h132 := (F0.n 132 (by decide)).trans h132
  replace h133 := (F0.n 133 (by decide)).trans h133
  replace h134 := (F0.n 134 (by decide)).trans h134
  replace h135 := (F0.n 135 (by decide)).trans h135
  replace h136 := (F0.n 136 (by decide)).trans h136
  replace h137 := (F0.n 137 (by decide)).trans h137
  replace h139 := (F0.n 139 (by decide)).trans h139
  replace h138 := (F0.n 138 (by decide)).trans h138
  replace h140 := (F0.n 140 (by decide)).trans h140
  replace h141 := (F0.n 141 (by decide)).trans h141
  have h142 := F0.s
  clear F0
  refine heldL 20 143 (v := .agg #[.int .i64 (F.tmod 4), .int .i64 (Mk.iv I), .int .i64 (Mk.cnt E C), .int .i64 (Mk.unt E U), .slice A1 (Mk.mon lm).length c1, .slice A2 (Mk.D F ld).length c2, .slice A3 ((Mk.W F lw).map (·.1)).length c3, .slice A4 (Mk.P F lm ld lw lp).length c4]) hQ (by kernel_rfl) (by rw [hs]; decide) (by kernel_rfl) (by kernel_rfl) (by kernel_rfl) hH ?z543 ?z544
  case z543 => (intro o ho; obtain rfl := Option.some.inj ho; exact Or.inl ⟨wanted_at (b := true) (want := true) rfl (by kernel_rfl) h142, fun w1 h1w => k_loadR rfl (ev_tmp h13) (Bp.below h1w Bp.lt).rule⟩)
  case z544 =>
  intro a F0
  replace hs := F0.z.trans hs
  replace hd := F0.e.trans hd
  replace h5 := (F0.n 5 (by decide)).trans h5
  replace h6 := (F0.n 6 (by decide)).trans h6
  replace h7 := (F0.n 7 (by decide)).trans h7
  replace h11 := (F0.n 11 (by decide)).trans h11
  replace h12 := (F0.n 12 (by decide)).trans h12
  replace h13 := (F0.n 13 (by decide)).trans h13
  replace h14 := (F0.n 14 (by decide)).trans h14
  replace h15 := (F0.n 15 (by decide)).trans h15
  replace h123 := (F0.n 123 (by decide)).trans h123
  replace h124 := (F0.n 124 (by decide)).trans h124
  replace h125 := (F0.n 125 (by decide)).trans h125
  replace h126 := (F0.n 126 (by decide)).trans h126
  replace h127 := (F0.n 127 (by decide)).trans h127
  replace h128 := (F0.n 128 (by decide)).trans h128
  replace h129 := (F0.n 129 (by decide)).trans h129
  replace h130 := (F0.n 130 (by decide)).trans h130
  replace h131 := (F0.n 131 (by decide)).trans h131
  replace h132 := (F0.n 132 (by decide)).trans h132
  replace h133 := (F0.n 133 (by decide)).trans h133
  replace h134 := (F0.n 134 (by decide)).trans h134
  replace h135 := (F0.n 135 (by decide)).trans h135
  replace h136 := (F0.n 136 (by decide)).trans h136
  replace h137 := (F0.n 137 (by decide)).trans h137
  replace h139 := (F0.n 139 (by decide)).trans h139
  replace h138 := (F0.n 138 (by decide)).trans h138
  replace h140 := (F0.n 140 (by decide)).trans h140
  replace h141 := (F0.n 141 (by decide)).trans h141
  replace h142 := (F0.n 142 (by decide)).trans h142
  have h143 := F0.s
  clear F0
  refine heldL 21 144 (v := .agg #[.int .u8 F, .int .u8 I, .int .u8 E, .int .u16 C, .int .u32 U, .slice AM lm.length cM, .slice AD ld.length cD, .slice AW lw.length cW, .slice AP lp.length cP]) hQ (by kernel_rfl) (by rw [hs]; decide) (by kernel_rfl) (by kernel_rfl) (by kernel_rfl) hH ?z545 ?z546
  case z545 => (intro o ho; obtain rfl := Option.some.inj ho; exact Or.inl ⟨wanted_at (b := true) (want := true) rfl (by kernel_rfl) h142, fun w1 h1w => k_load9 rfl (ev_tmp h7) (B7.below h1w B7.lt)⟩)
  case z546 =>
  intro a F0
  replace hs := F0.z.trans hs
  replace hd := F0.e.trans hd
  replace h5 := (F0.n 5 (by decide)).trans h5
  replace h6 := (F0.n 6 (by decide)).trans h6
  replace h7 := (F0.n 7 (by decide)).trans h7
  replace h11 := (F0.n 11 (by decide)).trans h11
  replace h12 := (F0.n 12 (by decide)).trans h12
  replace h13 := (F0.n 13 (by decide)).trans h13
  replace h14 := (F0.n 14 (by decide)).trans h14
  replace h15 := (F0.n 15 (by decide)).trans h15
  replace h123 := (F0.n 123 (by decide)).trans h123
  replace h124 := (F0.n 124 (by decide)).trans h124
  replace h125 := (F0.n 125 (by decide)).trans h125
  replace h126 := (F0.n 126 (by decide)).trans h126
  replace h127 := (F0.n 127 (by decide)).trans h127
  replace h128 := (F0.n 128 (by decide)).trans h128
  replace h129 := (F0.n 129 (by decide)).trans h129
  replace h130 := (F0.n 130 (by decide)).trans h130
  replace h131 := (F0.n 131 (by decide)).trans h131
  replace h132 := (F0.n 132 (by decide)).trans h132
  replace h133 := (F0.n 133 (by decide)).trans h133
  replace h134 := (F0.n 134 (by decide)).trans h134
  replace h135 := (F0.n 135 (by decide)).trans h135
  replace h136 := (F0.n 136 (by decide)).trans h136
  replace h137 := (F0.n 137 (by decide)).trans h137
  replace h139 := (F0.n 139 (by decide)).trans h139
  replace h138 := (F0.n 138 (by decide)).trans h138
  replace h140 := (F0.n 140 (by decide)).trans h140
  replace h141 := (F0.n 141 (by decide)).trans h141
  replace h142 := (F0.n 142 (by decide)).trans h142
  replace h143 := (F0.n 143 (by decide)).trans h143
  have h144 := F0.s
  clear F0
  have hc := make_any' F I E C U AM AD AW AP cM cD cW cP lm ld lw lp u1 (hX.below hH)
  have hx := fun ops Q S fuel listed d a i h0 h1 h2 h3 => heldL_call (P := Tryd.prog) (ops := ops) (Q := Q) (S := S) (fuel := fuel) (listed := listed) (a := a) (w := u1) i d h0 h1 h2 h3 hc
  refine hx _ _ _ _ _ 145 _ 22 ?z547 ?z548 ?z549 ?z550 ?z551 ?z552
  case z547 => kernel_rfl
  case z548 => kernel_rfl
  case z549 => (rw [hs]; decide)
  case z550 => (intro o ho; obtain rfl := Option.some.inj ho; exact ⟨wanted_at (b := true) (want := true) rfl (by kernel_rfl) h142, c_Make rfl rfl (ev_tmp h144)⟩)
  case z551 => (rintro _ _ ⟨_, _, _, _, _, _, _, _, _, _, _, rfl, _, l⟩; exact hH.trans (l.mono hH.size))
  case z552 =>
  clear hx hc
  rintro _ u2 a ⟨E1, E2, E3, E4, e1, e2, e3, e4, tD, tW, tP, rfl, F4, l⟩ F0
  replace hs := F0.z.trans hs
  replace hd := F0.e.trans hd
  replace h5 := (F0.n 5 (by decide)).trans h5
  replace h6 := (F0.n 6 (by decide)).trans h6
  replace h7 := (F0.n 7 (by decide)).trans h7
  replace h11 := (F0.n 11 (by decide)).trans h11
  replace h12 := (F0.n 12 (by decide)).trans h12
  replace h13 := (F0.n 13 (by decide)).trans h13
  replace h14 := (F0.n 14 (by decide)).trans h14
  replace h15 := (F0.n 15 (by decide)).trans h15
  replace h123 := (F0.n 123 (by decide)).trans h123
  replace h124 := (F0.n 124 (by decide)).trans h124
  replace h125 := (F0.n 125 (by decide)).trans h125
  replace h126 := (F0.n 126 (by decide)).trans h126
  replace h127 := (F0.n 127 (by decide)).trans h127
  replace h128 := (F0.n 128 (by decide)).trans h128
  replace h129 := (F0.n 129 (by decide)).trans h129
  replace h130 := (F0.n 130 (by decide)).trans h130
  replace h131 := (F0.n 131 (by decide)).trans h131
  replace h132 := (F0.n 132 (by decide)).trans h132
  replace h133 := (F0.n 133 (by decide)).trans h133
  replace h134 := (F0.n 134 (by decide)).trans h134
  replace h135 := (F0.n 135 (by decide)).trans h135
  replace h136 := (F0.n 136 (by decide)).trans h136
  replace h137 := (F0.n 137 (by decide)).trans h137
  replace h139 := (F0.n 139 (by decide)).trans h139
  replace h138 := (F0.n 138 (by decide)).trans h138
  replace h140 := (F0.n 140 (by decide)).trans h140
  replace h141 := (F0.n 141 (by decide)).trans h141
  replace h142 := (F0.n 142 (by decide)).trans h142
  replace h143 := (F0.n 143 (by decide)).trans h143
  replace h144 := (F0.n 144 (by decide)).trans h144
  have h145 := F0.s
  clear F0
  replace hH := hH.trans (l.mono hH.size)
  clear l
  have hc := same_any (F.tmod 4) (Mk.iv I) (Mk.cnt E C) (Mk.unt E U) (F.tmod 4) (Mk.iv I) (Mk.cnt E C) (Mk.unt E U) A1 A2 A3 A4 E1 E2 E3 E4 c1 c2 c3 c4 e1 e2 e3 e4 (Mk.mon lm) (Mk.D F ld) (Mk.mon lm) (Mk.D F ld) ((Mk.W F lw).map (·.1)) ((Mk.W F lw).map (·.1)) (Mk.P F lm ld lw lp) (Mk.P F lm ld lw lp) u2 (Hp.below hH) F4.plain
  have hx := fun ops Q S fuel listed d a i h0 h1 h2 h3 => heldL_call (P := Tryd.prog) (ops := ops) (Q := Q) (S := S) (fuel := fuel) (listed := listed) (a := a) (w := u2) i d h0 h1 h2 h3 hc
  refine hx _ _ _ _ _ 146 _ 23 ?z553 ?z554 ?z555 ?z556 ?z557 ?z558
  case z553 => kernel_rfl
  case z554 => kernel_rfl
  case z555 => (rw [hs]; decide)
  case z556 => (intro o ho; obtain rfl := Option.some.inj ho; exact ⟨wanted_at (b := true) (want := true) rfl (by kernel_rfl) h142, c_Same rfl rfl (ev_tmp h143) (ev_tmp h145)⟩)
  case z557 => (rintro _ _ ⟨rfl, l⟩; exact hH.trans (l.mono hH.size))
  case z558 =>
  clear hx hc
  rintro _ u3 a ⟨rfl, l⟩ F0
  rw [sameB_self] at F0
  replace hs := F0.z.trans hs
  replace hd := F0.e.trans hd
  replace h5 := (F0.n 5 (by decide)).trans h5
  replace h6 := (F0.n 6 (by decide)).trans h6
  replace h7 := (F0.n 7 (by decide)).trans h7
  replace h11 := (F0.n 11 (by decide)).trans h11
  replace h12 := (F0.n 12 (by decide)).trans h12
  replace h13 := (F0.n 13 (by decide)).trans h13
  replace h14 := (F0.n 14 (by decide)).trans h14
  replace h15 := (F0.n 15 (by decide)).trans h15
  replace h123 := (F0.n 123 (by decide)).trans h123
  replace h124 := (F0.n 124 (by decide)).trans h124
  replace h125 := (F0.n 125 (by decide)).trans h125
  replace h126 := (F0.n 126 (by decide)).trans h126
  replace h127 := (F0.n 127 (by decide)).trans h127
  replace h128 := (F0.n 128 (by decide)).trans h128
  replace h129 := (F0.n 129 (by decide)).trans h129
  replace h130 := (F0.n 130 (by decide)).trans h130
  replace h131 := (F0.n 131 (by decide)).trans h131
  replace h132 := (F0.n 132 (by decide)).trans h132
  replace h133 := (F0.n 133 (by decide)).trans h133
  replace h134 := (F0.n 134 (by decide)).trans h134
  replace h135 := (F0.n 135 (by decide)).trans h135
  replace h136 := (F0.n 136 (by decide)).trans h136
  replace h137 := (F0.n 137 (by decide)).trans h137
  replace h139 := (F0.n 139 (by decide)).trans h139
  replace h138 := (F0.n 138 (by decide)).trans h138
  replace h140 := (F0.n 140 (by decide)).trans h140
  replace h141 := (F0.n 141 (by decide)).trans h141
  replace h142 := (F0.n 142 (by decide)).trans h142
  replace h143 := (F0.n 143 (by decide)).trans h143
  replace h144 := (F0.n 144 (by decide)).trans h144
  replace h145 := (F0.n 145 (by decide)).trans h145
  have h146 := F0.s
  clear F0
  replace hH := hH.trans (l.mono hH.size)
  refine heldL 24 147 (v := .bool true) hQ (by kernel_rfl) (by rw [hs]; decide) (by kernel_rfl) (by kernel_rfl) (by kernel_rfl) hH ?z559 ?z560
  case z559 => (intro o ho; obtain rfl := Option.some.inj ho; exact Or.inl ⟨rfl, fun w1 h1w => k_pick_yes rfl (ev_tmp h142) (ev_tmp h146)⟩)
  case z560 =>
  intro a F0
  replace hs := F0.z.trans hs
  replace hd := F0.e.trans hd
  replace h5 := (F0.n 5 (by decide)).trans h5
  replace h6 := (F0.n 6 (by decide)).trans h6
  replace h7 := (F0.n 7 (by decide)).trans h7
  replace h11 := (F0.n 11 (by decide)).trans h11
  replace h12 := (F0.n 12 (by decide)).trans h12
  replace h13 := (F0.n 13 (by decide)).trans h13
  replace h14 := (F0.n 14 (by decide)).trans h14
  replace h15 := (F0.n 15 (by decide)).trans h15
  replace h123 := (F0.n 123 (by decide)).trans h123
  replace h124 := (F0.n 124 (by decide)).trans h124
  replace h125 := (F0.n 125 (by decide)).trans h125
  replace h126 := (F0.n 126 (by decide)).trans h126
  replace h127 := (F0.n 127 (by decide)).trans h127
  replace h128 := (F0.n 128 (by decide)).trans h128
  replace h129 := (F0.n 129 (by decide)).trans h129
  replace h130 := (F0.n 130 (by decide)).trans h130
  replace h131 := (F0.n 131 (by decide)).trans h131
  replace h132 := (F0.n 132 (by decide)).trans h132
  replace h133 := (F0.n 133 (by decide)).trans h133
  replace h134 := (F0.n 134 (by decide)).trans h134
  replace h135 := (F0.n 135 (by decide)).trans h135
  replace h136 := (F0.n 136 (by decide)).trans h136
  replace h137 := (F0.n 137 (by decide)).trans h137
  replace h139 := (F0.n 139 (by decide)).trans h139
  replace h138 := (F0.n 138 (by decide)).trans h138
  replace h140 := (F0.n 140 (by decide)).trans h140
  replace h141 := (F0.n 141 (by decide)).trans h141
  replace h142 := (F0.n 142 (by decide)).trans h142
  replace h143 := (F0.n 143 (by decide)).trans h143
  replace h144 := (F0.n 144 (by decide)).trans h144
  replace h145 := (F0.n 145 (by decide)).trans h145
  replace h146 := (F0.n 146 (by decide)).trans h146
  have h147 := F0.s
  clear F0
  refine heldL 25 10 (v := .bool true) hQ (by kernel_rfl) (by rw [hs]; decide) (by kernel_rfl) (by kernel_rfl) (by kernel_rfl) hH ?z561 ?z562
  case z561 => (intro o ho; obtain rfl := Option.some.inj ho; exact Or.inl ⟨rfl, fun w1 h1w => k_assign rfl (ev_tmp h147)⟩)
  case z562 =>
  intro a F0
  replace hs := F0.z.trans hs
  replace hd := F0.e.trans hd
  replace h5 := (F0.n 5 (by decide)).trans h5
  replace h6 := (F0.n 6 (by decide)).trans h6
  replace h7 := (F0.n 7 (by decide)).trans h7
  replace h11 := (F0.n 11 (by decide)).trans h11
  replace h12 := (F0.n 12 (by decide)).trans h12
  replace h13 := (F0.n 13 (by decide)).trans h13
  replace h14 := (F0.n 14 (by decide)).trans h14
  replace h15 := (F0.n 15 (by decide)).trans h15
  replace h123 := (F0.n 123 (by decide)).trans h123
  replace h124 := (F0.n 124 (by decide)).trans h124
  replace h125 := (F0.n 125 (by decide)).trans h125
  replace h126 := (F0.n 126 (by decide)).trans h126
  replace h127 := (F0.n 127 (by decide)).trans h127
  replace h128 := (F0.n 128 (by decide)).trans h128
  replace h129 := (F0.n 129 (by decide)).trans h129
  replace h130 := (F0.n 130 (by decide)).trans h130
  replace h131 := (F0.n 131 (by decide)).trans h131
  replace h132 := (F0.n 132 (by decide)).trans h132
  replace h133 := (F0.n 133 (by decide)).trans h133
  replace h134 := (F0.n 134 (by decide)).trans h134
  replace h135 := (F0.n 135 (by decide)).trans h135
  replace h136 := (F0.n 136 (by decide)).trans h136
  replace h137 := (F0.n 137 (by decide)).trans h137
  replace h139 := (F0.n 139 (by decide)).trans h139
  replace h138 := (F0.n 138 (by decide)).trans h138
  replace h140 := (F0.n 140 (by decide)).trans h140
  replace h141 := (F0.n 141 (by decide)).trans h141
  replace h142 := (F0.n 142 (by decide)).trans h142
  replace h143 := (F0.n 143 (by decide)).trans h143
  replace h144 := (F0.n 144 (by decide)).trans h144
  replace h145 := (F0.n 145 (by decide)).trans h145
  replace h146 := (F0.n 146 (by decide)).trans h146
  replace h147 := (F0.n 147 (by decide)).trans h147
  have h10 := F0.s
  clear F0
  refine wpAnyH_done (by kernel_rfl) ?_ _
  exact hR a _ hd h10 hH

noncomputable def ruleOrdersBody : Code := Tryd.f3.body.getD .skip

theorem order_any' (a b c d : Int) (w : World) : Calls Tryd.prog 7 #[.agg #[.int .i64 a, .int .i64 b], .agg #[.int .i64 c, .int .i64 d]] w fun e w' => ∃ v, e = .returned v ∧ v = .int .i64 (Rul.cmpN (a, b) (c, d)) ∧ Below w.heap.size w w' :=
  (order_any a b c d w).mono fun _ _ h => ⟨_, h.1, rfl, h.2⟩
/-- behind the law's two ifs -/
structure OrdS (w : World) (sm n d : Int) (X : Array Value) (b5 b6 b7 b8 : Nat) (a : Act) (w' : World) : Prop where
  hd : a.defers = []
  hs : a.tmps.size = 148
  h4 : a.tmps.getD 4 undef = .int .u8 sm
  h5 : a.tmps.getD 5 undef = .pointer (some ⟨b5, 0, none⟩)
  h6 : a.tmps.getD 6 undef = .pointer (some ⟨b6, 0, none⟩)
  h7 : a.tmps.getD 7 undef = .pointer (some ⟨b7, 0, none⟩)
  h8 : a.tmps.getD 8 undef = .pointer (some ⟨b8, 0, none⟩)
  B5 : Blk w' b5 23 #[.int .i64 n, .int .i64 d]
  B6 : ∃ n' d' : Int, Blk w' b6 23 #[.int .i64 n', .int .i64 d']
  B7 : Blk w' b7 31 X
  B8 : ∃ (F' I' E' C' U' : Int) (AM' AD' AW' AP' : Option Addr) (cM' cD' cW' cP' : Nat) (lm' ld' : List Int) (lw' : List (Int × Int)) (lp' : List Int), Blk w' b8 31 #[.int .u8 F', .int .u8 I', .int .u8 E', .int .u16 C', .int .u32 U', .slice AM' lm'.length cM', .slice AD' ld'.length cD', .slice AW' lw'.length cW', .slice AP' lp'.length cP'] ∧ XIn w F' I' E' C' U' AM' AD' AW' AP' lm' ld' lw' lp'
  bl : Below w.heap.size w w'

set_option maxRecDepth 100000 in
set_option maxHeartbeats 1000000 in
theorem ruleOrders_heavyx (n d n' d' : Int) (F I E C U : Int) (AM AD AW AP : Option Addr) (cM cD cW cP : Nat) (lm ld : List Int) (lw : List (Int × Int)) (lp : List Int) (F' I' E' C' U' : Int) (AM' AD' AW' AP' : Option Addr) (cM' cD' cW' cP' : Nat) (lm' ld' : List Int) (lw' : List (Int × Int)) (lp' : List Int) (sm : Int) (w : World) (hM : Months w) (hX : XIn0 w F I E C U AM AD AW AP lm ld lw lp) (_ : XIn0 w F' I' E' C' U' AM' AD' AW' AP' lm' ld' lw' lp') (hlx : light lm ld lw lp = false) :
    Calls Tryd.prog 3 #[.agg #[.int .i64 n, .int .i64 d], .agg #[.int .i64 n', .int .i64 d'], .agg #[.int .u8 F, .int .u8 I, .int .u8 E, .int .u16 C, .int .u32 U, .slice AM lm.length cM, .slice AD ld.length cD, .slice AW lw.length cW, .slice AP lp.length cP], .agg #[.int .u8 F', .int .u8 I', .int .u8 E', .int .u16 C', .int .u32 U', .slice AM' lm'.length cM', .slice AD' ld'.length cD', .slice AW' lw'.length cW', .slice AP' lp'.length cP'], .int .u8 sm] w fun e w' => e = .returned (.bool true) ∧ Below w.heap.size w w' := by
  refine calls_of_wp Tryd.func3 (show Tryd.f3.body = some ruleOrdersBody from rfl) ?_
  generalize hA : (Act.mk (#[.agg #[.int .i64 n, .int .i64 d], .agg #[.int .i64 n', .int .i64 d'], .agg #[.int .u8 F, .int .u8 I, .int .u8 E, .int .u16 C, .int .u32 U, .slice AM lm.length cM, .slice AD ld.length cD, .slice AW lw.length cW, .slice AP lp.length cP], .agg #[.int .u8 F', .int .u8 I', .int .u8 E', .int .u16 C', .int .u32 U', .slice AM' lm'.length cM', .slice AD' ld'.length cD', .slice AW' lw'.length cW', .slice AP' lp'.length cP'], .int .u8 sm] ++ Array.replicate (Tryd.f3.ntmps - (#[.agg #[.int .i64 n, .int .i64 d], .agg #[.int .i64 n', .int .i64 d'], .agg #[.int .u8 F, .int .u8 I, .int .u8 E, .int .u16 C, .int .u32 U, .slice AM lm.length cM, .slice AD ld.length cD, .slice AW lw.length cW, .slice AP lp.length cP], .agg #[.int .u8 F', .int .u8 I', .int .u8 E', .int .u16 C', .int .u32 U', .slice AM' lm'.length cM', .slice AD' ld'.length cD', .slice AW' lw'.length cW', .slice AP' lp'.length cP'], .int .u8 sm] : Array Value).size) undef) []) = a
  have hs : a.tmps.size = 148 := by rw [← hA]; simp [Tryd.ntmps3]
  have hd : a.defers = [] := by rw [← hA]
  have h0 : a.tmps.getD 0 undef = .agg #[.int .i64 n, .int .i64 d] := by rw [← hA]; simp
  have h1 : a.tmps.getD 1 undef = .agg #[.int .i64 n', .int .i64 d'] := by rw [← hA]; simp
  have h2 : a.tmps.getD 2 undef = .agg #[.int .u8 F, .int .u8 I, .int .u8 E, .int .u16 C, .int .u32 U, .slice AM lm.length cM, .slice AD ld.length cD, .slice AW lw.length cW, .slice AP lp.length cP] := by rw [← hA]; simp
  have h3 : a.tmps.getD 3 undef = .agg #[.int .u8 F', .int .u8 I', .int .u8 E', .int .u16 C', .int .u32 U', .slice AM' lm'.length cM', .slice AD' ld'.length cD', .slice AW' lw'.length cW', .slice AP' lp'.length cP'] := by rw [← hA]; simp
  have h4 : a.tmps.getD 4 undef = .int .u8 sm := by rw [← hA]; simp
  clear hA
  refine Code.wp_mono NoPanic.imp ?_
  have hQ : Blind (NoPanic (bodyPost Tryd.prog Tryd.f3 fun e w' => e = .returned (.bool true) ∧ Below w.heap.size w w')) := fun _ _ _ _ q => q.elim
  have hfin : ∀ (a' : Act) (w' : World), a'.defers = [] → a'.tmps.getD 10 undef = .bool true → Below w.heap.size w w' → NoPanic (bodyPost Tryd.prog Tryd.f3 fun e w' => e = .returned (.bool true) ∧ Below w.heap.size w w') .ret a' w' := by
    intro a' w' k1 k2 k3
    exact ⟨k1, _, results_tmp rfl _ _ _, by rw [k2], k3⟩
  generalize NoPanic (bodyPost Tryd.prog Tryd.f3 fun e w' => e = .returned (.bool true) ∧ Below w.heap.size w w') = Q at hQ hfin
  unfold ruleOrdersBody
  conv => arg 2; whnf
  refine wp_seq ?_
  refine wp_region (show wpOps _ _ _ [0, 1, 2, 3, 4] _ _ from ?_)
  refine opL 0 5 (v := .pointer (some ⟨w.heap.size, 0, none⟩)) (w' := (w.alloc (.cells #[.int .i64 n, .int .i64 d] 23))) (by kernel_rfl) (by rw [hs]; decide) ?z563 ?z564
  case z563 => (intro o ho; obtain rfl := Option.some.inj ho; exact ⟨rfl, k_boxN rfl (ev_tmp h0)⟩)
  case z564 =>
  intro a F0
  replace hs := F0.z.trans hs
  replace hd := F0.e.trans hd
  clear h0
  replace h1 := (F0.n 1 (by decide)).trans h1
  replace h2 := (F0.n 2 (by decide)).trans h2
  replace h3 := (F0.n 3 (by decide)).trans h3
  replace h4 := (F0.n 4 (by decide)).trans h4
  have h5 := F0.s
  clear F0
  obtain ⟨wa, hwa⟩ : ∃ wn, wn = w.alloc (.cells #[.int .i64 n, .int .i64 d] 23) := ⟨_, rfl⟩
  rw [← hwa]
  have qa : Blk wa w.heap.size 23 #[.int .i64 n, .int .i64 d] := by rw [hwa]; exact Blk.alloc _ _ _
  have la : Below w.heap.size w wa := by rw [hwa]; exact (Below.refl _ _).alloc (Nat.le_refl _) _
  clear hwa
  refine opL 1 6 (v := .pointer (some ⟨wa.heap.size, 0, none⟩)) (w' := (wa.alloc (.cells #[.int .i64 n', .int .i64 d'] 23))) (by kernel_rfl) (by rw [hs]; decide) ?z565 ?z566
  case z565 => (intro o ho; obtain rfl := Option.some.inj ho; exact ⟨rfl, k_boxN rfl (ev_tmp h1)⟩)
  case z566 =>
  intro a F0
  replace hs := F0.z.trans hs
  replace hd := F0.e.trans hd
  clear h1
  replace h2 := (F0.n 2 (by decide)).trans h2
  replace h3 := (F0.n 3 (by decide)).trans h3
  replace h4 := (F0.n 4 (by decide)).trans h4
  replace h5 := (F0.n 5 (by decide)).trans h5
  have h6 := F0.s
  clear F0
  obtain ⟨wb, hwb⟩ : ∃ wn, wn = wa.alloc (.cells #[.int .i64 n', .int .i64 d'] 23) := ⟨_, rfl⟩
  rw [← hwb]
  have qb : Blk wb wa.heap.size 23 #[.int .i64 n', .int .i64 d'] := by rw [hwb]; exact Blk.alloc _ _ _
  have lb : Below wa.heap.size wa wb := by rw [hwb]; exact (Below.refl _ _).alloc (Nat.le_refl _) _
  clear hwb
  have ha := qa.lt
  replace qa := qa.below lb qa.lt
  replace la := la.trans (lb.mono la.size)
  clear lb
  refine opL 2 7 (v := .pointer (some ⟨wb.heap.size, 0, none⟩)) (w' := (wb.alloc (.cells #[.int .u8 F, .int .u8 I, .int .u8 E, .int .u16 C, .int .u32 U, .slice AM lm.length cM, .slice AD ld.length cD, .slice AW lw.length cW, .slice AP lp.length cP] 31))) (by kernel_rfl) (by rw [hs]; decide) ?z567 ?z568
  case z567 => (intro o ho; obtain rfl := Option.some.inj ho; exact ⟨rfl, k_box9 rfl (ev_tmp h2)⟩)
  case z568 =>
  intro a F0
  replace hs := F0.z.trans hs
  replace hd := F0.e.trans hd
  clear h2
  replace h3 := (F0.n 3 (by decide)).trans h3
  replace h4 := (F0.n 4 (by decide)).trans h4
  replace h5 := (F0.n 5 (by decide)).trans h5
  replace h6 := (F0.n 6 (by decide)).trans h6
  have h7 := F0.s
  clear F0
  obtain ⟨wx, hwx⟩ : ∃ wn, wn = wb.alloc (.cells #[.int .u8 F, .int .u8 I, .int .u8 E, .int .u16 C, .int .u32 U, .slice AM lm.length cM, .slice AD ld.length cD, .slice AW lw.length cW, .slice AP lp.length cP] 31) := ⟨_, rfl⟩
  rw [← hwx]
  have qx : Blk wx wb.heap.size 31 #[.int .u8 F, .int .u8 I, .int .u8 E, .int .u16 C, .int .u32 U, .slice AM lm.length cM, .slice AD ld.length cD, .slice AW lw.length cW, .slice AP lp.length cP] := by rw [hwx]; exact Blk.alloc _ _ _
  have lx : Below wb.heap.size wb wx := by rw [hwx]; exact (Below.refl _ _).alloc (Nat.le_refl _) _
  clear hwx
  have hb := qb.lt
  replace qa := qa.below lx qa.lt
  replace qb := qb.below lx qb.lt
  replace la := la.trans (lx.mono la.size)
  clear lx
  refine opL 3 8 (v := .pointer (some ⟨wx.heap.size, 0, none⟩)) (w' := (wx.alloc (.cells #[.int .u8 F', .int .u8 I', .int .u8 E', .int .u16 C', .int .u32 U', .slice AM' lm'.length cM', .slice AD' ld'.length cD', .slice AW' lw'.length cW', .slice AP' lp'.length cP'] 31))) (by kernel_rfl) (by rw [hs]; decide) ?z569 ?z570
  case z569 => (intro o ho; obtain rfl := Option.some.inj ho; exact ⟨rfl, k_box9 rfl (ev_tmp h3)⟩)
  case z570 =>
  intro a F0
  replace hs := F0.z.trans hs
  replace hd := F0.e.trans hd
  clear h3
  replace h4 := (F0.n 4 (by decide)).trans h4
  replace h5 := (F0.n 5 (by decide)).trans h5
  replace h6 := (F0.n 6 (by decide)).trans h6
  replace h7 := (F0.n 7 (by decide)).trans h7
  have h8 := F0.s
  clear F0
  obtain ⟨w1, hwy⟩ : ∃ wn, wn = wx.alloc (.cells #[.int .u8 F', .int .u8 I', .int .u8 E', .int .u16 C', .int .u32 U', .slice AM' lm'.length cM', .slice AD' ld'.length cD', .slice AW' lw'.length cW', .slice AP' lp'.length cP'] 31) := ⟨_, rfl⟩
  rw [← hwy]
  have qy : Blk w1 wx.heap.size 31 #[.int .u8 F', .int .u8 I', .int .u8 E', .int .u16 C', .int .u32 U', .slice AM' lm'.length cM', .slice AD' ld'.length cD', .slice AW' lw'.length cW', .slice AP' lp'.length cP'] := by rw [hwy]; exact Blk.alloc _ _ _
  have ly : Below wx.heap.size wx w1 := by rw [hwy]; exact (Below.refl _ _).alloc (Nat.le_refl _) _
  clear hwy
  have hx0 := qx.lt
  have B5 := qa.below ly qa.lt
  have B6 := qb.below ly qb.lt
  have B7 := qx.below ly qx.lt
  have B8 := qy
  have l1 := la.trans (ly.mono la.size)
  clear la ly qa qb qx qy
  refine opL 4 10 (v := .bool false) (w' := w1) (by kernel_rfl) (by rw [hs]; decide) ?z571 ?z572
  case z571 => (intro o ho; obtain rfl := Option.some.inj ho; exact ⟨rfl, k_assign rfl rfl⟩)
  case z572 =>
  intro a F0
  replace hs := F0.z.trans hs
  replace hd := F0.e.trans hd
  replace h4 := (F0.n 4 (by decide)).trans h4
  replace h5 := (F0.n 5 (by decide)).trans h5
  replace h6 := (F0.n 6 (by decide)).trans h6
  replace h7 := (F0.n 7 (by decide)).trans h7
  replace h8 := (F0.n 8 (by decide)).trans h8
  have h10 := F0.s
  clear F0
  refine wp_seq ?_
  refine wp_seq ?_
  refine wp_region (show wpOps _ _ _ [0, 1] _ _ from ?_)
  refine opL_call 0 16 (f := 5) (args := #[]) (R := fun v w' => v = .bool true ∧ Below w1.heap.size w1 w') (by kernel_rfl) (by rw [hs]; decide) ?z573 (awake2' w1 (hM.grown l1)) ?z574
  case z573 => (intro o ho; obtain rfl := Option.some.inj ho; exact ⟨rfl, k_callAwake rfl rfl⟩)
  case z574 =>
  rintro _ w2 a ⟨rfl, l2⟩ F0
  replace hs := F0.z.trans hs
  replace hd := F0.e.trans hd
  replace h4 := (F0.n 4 (by decide)).trans h4
  replace h5 := (F0.n 5 (by decide)).trans h5
  replace h6 := (F0.n 6 (by decide)).trans h6
  replace h7 := (F0.n 7 (by decide)).trans h7
  replace h8 := (F0.n 8 (by decide)).trans h8
  replace h10 := (F0.n 10 (by decide)).trans h10
  have h16 := F0.s
  clear F0
  replace B5 := B5.below l2 B5.lt
  replace B6 := B6.below l2 B6.lt
  replace B7 := B7.below l2 B7.lt
  replace B8 := B8.below l2 B8.lt
  have m2 := l1.trans (l2.mono l1.size)
  clear l1 l2
  refine opL 1 17 (v := .bool false) (w' := w2) (by kernel_rfl) (by rw [hs]; decide) ?z575 ?z576
  case z575 => (intro o ho; obtain rfl := Option.some.inj ho; exact ⟨rfl, o_not rfl (ev_tmp h16) rfl⟩)
  case z576 =>
  intro a F0
  replace hs := F0.z.trans hs
  replace hd := F0.e.trans hd
  replace h4 := (F0.n 4 (by decide)).trans h4
  replace h5 := (F0.n 5 (by decide)).trans h5
  replace h6 := (F0.n 6 (by decide)).trans h6
  replace h7 := (F0.n 7 (by decide)).trans h7
  replace h8 := (F0.n 8 (by decide)).trans h8
  replace h10 := (F0.n 10 (by decide)).trans h10
  clear h16
  have h17 := F0.s
  clear F0
  refine wp_cond_false (ev_tmp h17) ?_
  refine wp_skip ?_
  refine wp_seq ?_
  refine wp_seq ?_
  refine wp_region (show wpOps _ _ _ [0, 1, 2, 3, 4, 5, 6, 7] _ _ from ?_)
  refine opL 0 18 (v := .agg #[.int .u8 F, .int .u8 I, .int .u8 E, .int .u16 C, .int .u32 U, .slice AM lm.length cM, .slice AD ld.length cD, .slice AW lw.length cW, .slice AP lp.length cP]) (w' := w2) (by kernel_rfl) (by rw [hs]; decide) ?z577 ?z578
  case z577 => (intro o ho; obtain rfl := Option.some.inj ho; exact ⟨rfl, k_load9 rfl (ev_tmp h7) B7⟩)
  case z578 =>
  intro a F0
  replace hs := F0.z.trans hs
  replace hd := F0.e.trans hd
  replace h4 := (F0.n 4 (by decide)).trans h4
  replace h5 := (F0.n 5 (by decide)).trans h5
  replace h6 := (F0.n 6 (by decide)).trans h6
  replace h7 := (F0.n 7 (by decide)).trans h7
  replace h8 := (F0.n 8 (by decide)).trans h8
  replace h10 := (F0.n 10 (by decide)).trans h10
  replace h17 := (F0.n 17 (by decide)).trans h17
  have h18 := F0.s
  clear F0
  refine opL_call 1 19 (f := 6) (args := #[.agg #[.int .u8 F, .int .u8 I, .int .u8 E, .int .u16 C, .int .u32 U, .slice AM lm.length cM, .slice AD ld.length cD, .slice AW lw.length cW, .slice AP lp.length cP]]) (R := fun v w' => v = .bool (light lm ld lw lp) ∧ Below w2.heap.size w2 w') (by kernel_rfl) (by rw [hs]; decide) ?z579 (light_any _ _ _ _ _ AM AD AW AP cM cD cW cP lm ld lw lp w2 hX.lm1 hX.ld1 hX.lw1 hX.lp1) ?z580
  case z579 => (intro o ho; obtain rfl := Option.some.inj ho; exact ⟨rfl, c_Light rfl rfl (ev_tmp h18)⟩)
  case z580 =>
  rintro _ w3 a ⟨rfl, l3⟩ F0
  rw [hlx] at F0
  replace hs := F0.z.trans hs
  replace hd := F0.e.trans hd
  replace h4 := (F0.n 4 (by decide)).trans h4
  replace h5 := (F0.n 5 (by decide)).trans h5
  replace h6 := (F0.n 6 (by decide)).trans h6
  replace h7 := (F0.n 7 (by decide)).trans h7
  replace h8 := (F0.n 8 (by decide)).trans h8
  replace h10 := (F0.n 10 (by decide)).trans h10
  replace h17 := (F0.n 17 (by decide)).trans h17
  clear h18
  have h19 := F0.s
  clear F0
  replace B5 := B5.below l3 B5.lt
  replace B6 := B6.below l3 B6.lt
  replace B7 := B7.below l3 B7.lt
  replace B8 := B8.below l3 B8.lt
  have m3 := m2.trans (l3.mono m2.size)
  clear m2 l3
  refine opL 2 20 (v := .bool true) (w' := w3) (by kernel_rfl) (by rw [hs]; decide) ?z581 ?z582
  case z581 => (intro o ho; obtain rfl := Option.some.inj ho; exact ⟨rfl, o_not rfl (ev_tmp h19) rfl⟩)
  case z582 =>
  intro a F0
  replace hs := F0.z.trans hs
  replace hd := F0.e.trans hd
  replace h4 := (F0.n 4 (by decide)).trans h4
  replace h5 := (F0.n 5 (by decide)).trans h5
  replace h6 := (F0.n 6 (by decide)).trans h6
  replace h7 := (F0.n 7 (by decide)).trans h7
  replace h8 := (F0.n 8 (by decide)).trans h8
  replace h10 := (F0.n 10 (by decide)).trans h10
  replace h17 := (F0.n 17 (by decide)).trans h17
  clear h19
  have h20 := F0.s
  clear F0
  refine opL 3 21 (v := .bool true) (w' := w3) (by kernel_rfl) (by rw [hs]; decide) ?z583 ?z584
  case z583 => (intro o ho; obtain rfl := Option.some.inj ho; exact ⟨rfl, k_move rfl (ev_tmp h20)⟩)
  case z584 =>
  intro a F0
  replace hs := F0.z.trans hs
  replace hd := F0.e.trans hd
  replace h4 := (F0.n 4 (by decide)).trans h4
  replace h5 := (F0.n 5 (by decide)).trans h5
  replace h6 := (F0.n 6 (by decide)).trans h6
  replace h7 := (F0.n 7 (by decide)).trans h7
  replace h8 := (F0.n 8 (by decide)).trans h8
  replace h10 := (F0.n 10 (by decide)).trans h10
  replace h17 := (F0.n 17 (by decide)).trans h17
  clear h20
  have h21 := F0.s
  clear F0
  refine opL_not 4 22 (by kernel_rfl) (by rw [hs]; decide) ?z585 ?z586
  case z585 => (intro o ho; obtain rfl := Option.some.inj ho; exact wanted_at (b := true) (want := false) rfl (by kernel_rfl) h21)
  case z586 =>
  intro a F0
  replace hs := F0.z.trans hs
  replace hd := F0.e.trans hd
  replace h4 := (F0.n 4 (by decide)).trans h4
  replace h5 := (F0.n 5 (by decide)).trans h5
  replace h6 := (F0.n 6 (by decide)).trans h6
  replace h7 := (F0.n 7 (by decide)).trans h7
  replace h8 := (F0.n 8 (by decide)).trans h8
  replace h10 := (F0.n 10 (by decide)).trans h10
  replace h17 := (F0.n 17 (by decide)).trans h17
  replace h21 := (F0.n 21 (by decide)).trans h21
  have h22 := F0.s
  clear F0
  refine opL_not 5 23 (by kernel_rfl) (by rw [hs]; decide) ?z587 ?z588
  case z587 => (intro o ho; obtain rfl := Option.some.inj ho; exact wanted_at (b := true) (want := false) rfl (by kernel_rfl) h21)
  case z588 =>
  intro a F0
  replace hs := F0.z.trans hs
  replace hd := F0.e.trans hd
  replace h4 := (F0.n 4 (by decide)).trans h4
  replace h5 := (F0.n 5 (by decide)).trans h5
  replace h6 := (F0.n 6 (by decide)).trans h6
  replace h7 := (F0.n 7 (by decide)).trans h7
  replace h8 := (F0.n 8 (by decide)).trans h8
  replace h10 := (F0.n 10 (by decide)).trans h10
  replace h17 := (F0.n 17 (by decide)).trans h17
  replace h21 := (F0.n 21 (by decide)).trans h21
  clear h22
  have h23 := F0.s
  clear F0
  refine opL_not 6 24 (by kernel_rfl) (by rw [hs]; decide) ?z589 ?z590
  case z589 => (intro o ho; obtain rfl := Option.some.inj ho; exact wanted_at (b := true) (want := false) rfl (by kernel_rfl) h21)
  case z590 =>
  intro a F0
  replace hs := F0.z.trans hs
  replace hd := F0.e.trans hd
  replace h4 := (F0.n 4 (by decide)).trans h4
  replace h5 := (F0.n 5 (by decide)).trans h5
  replace h6 := (F0.n 6 (by decide)).trans h6
  replace h7 := (F0.n 7 (by decide)).trans h7
  replace h8 := (F0.n 8 (by decide)).trans h8
  replace h10 := (F0.n 10 (by decide)).trans h10
  replace h17 := (F0.n 17 (by decide)).trans h17
  replace h21 := (F0.n 21 (by decide)).trans h21
  clear h23
  have h24 := F0.s
  clear F0
  refine opL 7 25 (v := .bool true) (w' := w3) (by kernel_rfl) (by rw [hs]; decide) ?z591 ?z592
  case z591 => (intro o ho; obtain rfl := Option.some.inj ho; exact ⟨rfl, k_pick_yes rfl (ev_tmp h21) rfl⟩)
  case z592 =>
  intro a F0
  replace hs := F0.z.trans hs
  replace hd := F0.e.trans hd
  replace h4 := (F0.n 4 (by decide)).trans h4
  replace h5 := (F0.n 5 (by decide)).trans h5
  replace h6 := (F0.n 6 (by decide)).trans h6
  replace h7 := (F0.n 7 (by decide)).trans h7
  replace h8 := (F0.n 8 (by decide)).trans h8
  replace h10 := (F0.n 10 (by decide)).trans h10
  replace h17 := (F0.n 17 (by decide)).trans h17
  clear h21
  clear h24
  have h25 := F0.s
  clear F0
  refine wp_cond_true (ev_tmp h25) ?_
  refine wp_seq ?_
  refine wp_region (show wpOps _ _ _ [0] _ _ from ?_)
  refine opL 0 10 (v := .bool true) (w' := w3) (by kernel_rfl) (by rw [hs]; decide) ?z593 ?z594
  case z593 => (intro o ho; obtain rfl := Option.some.inj ho; exact ⟨rfl, k_assign rfl rfl⟩)
  case z594 =>
  intro a F0
  replace hs := F0.z.trans hs
  replace hd := F0.e.trans hd
  replace h4 := (F0.n 4 (by decide)).trans h4
  replace h5 := (F0.n 5 (by decide)).trans h5
  replace h6 := (F0.n 6 (by decide)).trans h6
  replace h7 := (F0.n 7 (by decide)).trans h7
  replace h8 := (F0.n 8 (by decide)).trans h8
  clear h10
  replace h17 := (F0.n 17 (by decide)).trans h17
  replace h25 := (F0.n 25 (by decide)).trans h25
  have h10 := F0.s
  clear F0
  refine wp_ret ?_
  exact hfin a _ hd h10 m3

set_option maxRecDepth 100000 in
set_option maxHeartbeats 1000000 in
theorem ruleOrders_heavyy (n d n' d' : Int) (F I E C U : Int) (AM AD AW AP : Option Addr) (cM cD cW cP : Nat) (lm ld : List Int) (lw : List (Int × Int)) (lp : List Int) (F' I' E' C' U' : Int) (AM' AD' AW' AP' : Option Addr) (cM' cD' cW' cP' : Nat) (lm' ld' : List Int) (lw' : List (Int × Int)) (lp' : List Int) (sm : Int) (w : World) (hM : Months w) (hX : XIn0 w F I E C U AM AD AW AP lm ld lw lp) (hY : XIn0 w F' I' E' C' U' AM' AD' AW' AP' lm' ld' lw' lp') (hlx : light lm ld lw lp = true) (hly : light lm' ld' lw' lp' = false) :
    Calls Tryd.prog 3 #[.agg #[.int .i64 n, .int .i64 d], .agg #[.int .i64 n', .int .i64 d'], .agg #[.int .u8 F, .int .u8 I, .int .u8 E, .int .u16 C, .int .u32 U, .slice AM lm.length cM, .slice AD ld.length cD, .slice AW lw.length cW, .slice AP lp.length cP], .agg #[.int .u8 F', .int .u8 I', .int .u8 E', .int .u16 C', .int .u32 U', .slice AM' lm'.length cM', .slice AD' ld'.length cD', .slice AW' lw'.length cW', .slice AP' lp'.length cP'], .int .u8 sm] w fun e w' => e = .returned (.bool true) ∧ Below w.heap.size w w' := by
  refine calls_of_wp Tryd.func3 (show Tryd.f3.body = some ruleOrdersBody from rfl) ?_
  generalize hA : (Act.mk (#[.agg #[.int .i64 n, .int .i64 d], .agg #[.int .i64 n', .int .i64 d'], .agg #[.int .u8 F, .int .u8 I, .int .u8 E, .int .u16 C, .int .u32 U, .slice AM lm.length cM, .slice AD ld.length cD, .slice AW lw.length cW, .slice AP lp.length cP], .agg #[.int .u8 F', .int .u8 I', .int .u8 E', .int .u16 C', .int .u32 U', .slice AM' lm'.length cM', .slice AD' ld'.length cD', .slice AW' lw'.length cW', .slice AP' lp'.length cP'], .int .u8 sm] ++ Array.replicate (Tryd.f3.ntmps - (#[.agg #[.int .i64 n, .int .i64 d], .agg #[.int .i64 n', .int .i64 d'], .agg #[.int .u8 F, .int .u8 I, .int .u8 E, .int .u16 C, .int .u32 U, .slice AM lm.length cM, .slice AD ld.length cD, .slice AW lw.length cW, .slice AP lp.length cP], .agg #[.int .u8 F', .int .u8 I', .int .u8 E', .int .u16 C', .int .u32 U', .slice AM' lm'.length cM', .slice AD' ld'.length cD', .slice AW' lw'.length cW', .slice AP' lp'.length cP'], .int .u8 sm] : Array Value).size) undef) []) = a
  have hs : a.tmps.size = 148 := by rw [← hA]; simp [Tryd.ntmps3]
  have hd : a.defers = [] := by rw [← hA]
  have h0 : a.tmps.getD 0 undef = .agg #[.int .i64 n, .int .i64 d] := by rw [← hA]; simp
  have h1 : a.tmps.getD 1 undef = .agg #[.int .i64 n', .int .i64 d'] := by rw [← hA]; simp
  have h2 : a.tmps.getD 2 undef = .agg #[.int .u8 F, .int .u8 I, .int .u8 E, .int .u16 C, .int .u32 U, .slice AM lm.length cM, .slice AD ld.length cD, .slice AW lw.length cW, .slice AP lp.length cP] := by rw [← hA]; simp
  have h3 : a.tmps.getD 3 undef = .agg #[.int .u8 F', .int .u8 I', .int .u8 E', .int .u16 C', .int .u32 U', .slice AM' lm'.length cM', .slice AD' ld'.length cD', .slice AW' lw'.length cW', .slice AP' lp'.length cP'] := by rw [← hA]; simp
  have h4 : a.tmps.getD 4 undef = .int .u8 sm := by rw [← hA]; simp
  clear hA
  refine Code.wp_mono NoPanic.imp ?_
  have hQ : Blind (NoPanic (bodyPost Tryd.prog Tryd.f3 fun e w' => e = .returned (.bool true) ∧ Below w.heap.size w w')) := fun _ _ _ _ q => q.elim
  have hfin : ∀ (a' : Act) (w' : World), a'.defers = [] → a'.tmps.getD 10 undef = .bool true → Below w.heap.size w w' → NoPanic (bodyPost Tryd.prog Tryd.f3 fun e w' => e = .returned (.bool true) ∧ Below w.heap.size w w') .ret a' w' := by
    intro a' w' k1 k2 k3
    exact ⟨k1, _, results_tmp rfl _ _ _, by rw [k2], k3⟩
  generalize NoPanic (bodyPost Tryd.prog Tryd.f3 fun e w' => e = .returned (.bool true) ∧ Below w.heap.size w w') = Q at hQ hfin
  unfold ruleOrdersBody
  conv => arg 2; whnf
  refine wp_seq ?_
  refine wp_region (show wpOps _ _ _ [0, 1, 2, 3, 4] _ _ from ?_)
  refine opL 0 5 (v := .pointer (some ⟨w.heap.size, 0, none⟩)) (w' := (w.alloc (.cells #[.int .i64 n, .int .i64 d] 23))) (by kernel_rfl) (by rw [hs]; decide) ?z595 ?z596
  case z595 => (intro o ho; obtain rfl := Option.some.inj ho; exact ⟨rfl, k_boxN rfl (ev_tmp h0)⟩)
  case z596 =>
  intro a F0
  replace hs := F0.z.trans hs
  replace hd := F0.e.trans hd
  clear h0
  replace h1 := (F0.n 1 (by decide)).trans h1
  replace h2 := (F0.n 2 (by decide)).trans h2
  replace h3 := (F0.n 3 (by decide)).trans h3
  replace h4 := (F0.n 4 (by decide)).trans h4
  have h5 := F0.s
  clear F0
  obtain ⟨wa, hwa⟩ : ∃ wn, wn = w.alloc (.cells #[.int .i64 n, .int .i64 d] 23) := ⟨_, rfl⟩
  rw [← hwa]
  have qa : Blk wa w.heap.size 23 #[.int .i64 n, .int .i64 d] := by rw [hwa]; exact Blk.alloc _ _ _
  have la : Below w.heap.size w wa := by rw [hwa]; exact (Below.refl _ _).alloc (Nat.le_refl _) _
  clear hwa
  refine opL 1 6 (v := .pointer (some ⟨wa.heap.size, 0, none⟩)) (w' := (wa.alloc (.cells #[.int .i64 n', .int .i64 d'] 23))) (by kernel_rfl) (by rw [hs]; decide) ?z597 ?z598
  case z597 => (intro o ho; obtain rfl := Option.some.inj ho; exact ⟨rfl, k_boxN rfl (ev_tmp h1)⟩)
  case z598 =>
  intro a F0
  replace hs := F0.z.trans hs
  replace hd := F0.e.trans hd
  clear h1
  replace h2 := (F0.n 2 (by decide)).trans h2
  replace h3 := (F0.n 3 (by decide)).trans h3
  replace h4 := (F0.n 4 (by decide)).trans h4
  replace h5 := (F0.n 5 (by decide)).trans h5
  have h6 := F0.s
  clear F0
  obtain ⟨wb, hwb⟩ : ∃ wn, wn = wa.alloc (.cells #[.int .i64 n', .int .i64 d'] 23) := ⟨_, rfl⟩
  rw [← hwb]
  have qb : Blk wb wa.heap.size 23 #[.int .i64 n', .int .i64 d'] := by rw [hwb]; exact Blk.alloc _ _ _
  have lb : Below wa.heap.size wa wb := by rw [hwb]; exact (Below.refl _ _).alloc (Nat.le_refl _) _
  clear hwb
  have ha := qa.lt
  replace qa := qa.below lb qa.lt
  replace la := la.trans (lb.mono la.size)
  clear lb
  refine opL 2 7 (v := .pointer (some ⟨wb.heap.size, 0, none⟩)) (w' := (wb.alloc (.cells #[.int .u8 F, .int .u8 I, .int .u8 E, .int .u16 C, .int .u32 U, .slice AM lm.length cM, .slice AD ld.length cD, .slice AW lw.length cW, .slice AP lp.length cP] 31))) (by kernel_rfl) (by rw [hs]; decide) ?z599 ?z600
  case z599 => (intro o ho; obtain rfl := Option.some.inj ho; exact ⟨rfl, k_box9 rfl (ev_tmp h2)⟩)
  case z600 =>
  intro a F0
  replace hs := F0.z.trans hs
  replace hd := F0.e.trans hd
  clear h2
  replace h3 := (F0.n 3 (by decide)).trans h3
  replace h4 := (F0.n 4 (by decide)).trans h4
  replace h5 := (F0.n 5 (by decide)).trans h5
  replace h6 := (F0.n 6 (by decide)).trans h6
  have h7 := F0.s
  clear F0
  obtain ⟨wx, hwx⟩ : ∃ wn, wn = wb.alloc (.cells #[.int .u8 F, .int .u8 I, .int .u8 E, .int .u16 C, .int .u32 U, .slice AM lm.length cM, .slice AD ld.length cD, .slice AW lw.length cW, .slice AP lp.length cP] 31) := ⟨_, rfl⟩
  rw [← hwx]
  have qx : Blk wx wb.heap.size 31 #[.int .u8 F, .int .u8 I, .int .u8 E, .int .u16 C, .int .u32 U, .slice AM lm.length cM, .slice AD ld.length cD, .slice AW lw.length cW, .slice AP lp.length cP] := by rw [hwx]; exact Blk.alloc _ _ _
  have lx : Below wb.heap.size wb wx := by rw [hwx]; exact (Below.refl _ _).alloc (Nat.le_refl _) _
  clear hwx
  have hb := qb.lt
  replace qa := qa.below lx qa.lt
  replace qb := qb.below lx qb.lt
  replace la := la.trans (lx.mono la.size)
  clear lx
  refine opL 3 8 (v := .pointer (some ⟨wx.heap.size, 0, none⟩)) (w' := (wx.alloc (.cells #[.int .u8 F', .int .u8 I', .int .u8 E', .int .u16 C', .int .u32 U', .slice AM' lm'.length cM', .slice AD' ld'.length cD', .slice AW' lw'.length cW', .slice AP' lp'.length cP'] 31))) (by kernel_rfl) (by rw [hs]; decide) ?z601 ?z602
  case z601 => (intro o ho; obtain rfl := Option.some.inj ho; exact ⟨rfl, k_box9 rfl (ev_tmp h3)⟩)
  case z602 =>
  intro a F0
  replace hs := F0.z.trans hs
  replace hd := F0.e.trans hd
  clear h3
  replace h4 := (F0.n 4 (by decide)).trans h4
  replace h5 := (F0.n 5 (by decide)).trans h5
  replace h6 := (F0.n 6 (by decide)).trans h6
  replace h7 := (F0.n 7 (by decide)).trans h7
  have h8 := F0.s
  clear F0
  obtain ⟨w1, hwy⟩ : ∃ wn, wn = wx.alloc (.cells #[.int .u8 F', .int .u8 I', .int .u8 E', .int .u16 C', .int .u32 U', .slice AM' lm'.length cM', .slice AD' ld'.length cD', .slice AW' lw'.length cW', .slice AP' lp'.length cP'] 31) := ⟨_, rfl⟩
  rw [← hwy]
  have qy : Blk w1 wx.heap.size 31 #[.int .u8 F', .int .u8 I', .int .u8 E', .int .u16 C', .int .u32 U', .slice AM' lm'.length cM', .slice AD' ld'.length cD', .slice AW' lw'.length cW', .slice AP' lp'.length cP'] := by rw [hwy]; exact Blk.alloc _ _ _
  have ly : Below wx.heap.size wx w1 := by rw [hwy]; exact (Below.refl _ _).alloc (Nat.le_refl _) _
  clear hwy
  have hx0 := qx.lt
  have B5 := qa.below ly qa.lt
  have B6 := qb.below ly qb.lt
  have B7 := qx.below ly qx.lt
  have B8 := qy
  have l1 := la.trans (ly.mono la.size)
  clear la ly qa qb qx qy
  refine opL 4 10 (v := .bool false) (w' := w1) (by kernel_rfl) (by rw [hs]; decide) ?z603 ?z604
  case z603 => (intro o ho; obtain rfl := Option.some.inj ho; exact ⟨rfl, k_assign rfl rfl⟩)
  case z604 =>
  intro a F0
  replace hs := F0.z.trans hs
  replace hd := F0.e.trans hd
  replace h4 := (F0.n 4 (by decide)).trans h4
  replace h5 := (F0.n 5 (by decide)).trans h5
  replace h6 := (F0.n 6 (by decide)).trans h6
  replace h7 := (F0.n 7 (by decide)).trans h7
  replace h8 := (F0.n 8 (by decide)).trans h8
  have h10 := F0.s
  clear F0
  refine wp_seq ?_
  refine wp_seq ?_
  refine wp_region (show wpOps _ _ _ [0, 1] _ _ from ?_)
  refine opL_call 0 16 (f := 5) (args := #[]) (R := fun v w' => v = .bool true ∧ Below w1.heap.size w1 w') (by kernel_rfl) (by rw [hs]; decide) ?z605 (awake2' w1 (hM.grown l1)) ?z606
  case z605 => (intro o ho; obtain rfl := Option.some.inj ho; exact ⟨rfl, k_callAwake rfl rfl⟩)
  case z606 =>
  rintro _ w2 a ⟨rfl, l2⟩ F0
  replace hs := F0.z.trans hs
  replace hd := F0.e.trans hd
  replace h4 := (F0.n 4 (by decide)).trans h4
  replace h5 := (F0.n 5 (by decide)).trans h5
  replace h6 := (F0.n 6 (by decide)).trans h6
  replace h7 := (F0.n 7 (by decide)).trans h7
  replace h8 := (F0.n 8 (by decide)).trans h8
  replace h10 := (F0.n 10 (by decide)).trans h10
  have h16 := F0.s
  clear F0
  replace B5 := B5.below l2 B5.lt
  replace B6 := B6.below l2 B6.lt
  replace B7 := B7.below l2 B7.lt
  replace B8 := B8.below l2 B8.lt
  have m2 := l1.trans (l2.mono l1.size)
  clear l1 l2
  refine opL 1 17 (v := .bool false) (w' := w2) (by kernel_rfl) (by rw [hs]; decide) ?z607 ?z608
  case z607 => (intro o ho; obtain rfl := Option.some.inj ho; exact ⟨rfl, o_not rfl (ev_tmp h16) rfl⟩)
  case z608 =>
  intro a F0
  replace hs := F0.z.trans hs
  replace hd := F0.e.trans hd
  replace h4 := (F0.n 4 (by decide)).trans h4
  replace h5 := (F0.n 5 (by decide)).trans h5
  replace h6 := (F0.n 6 (by decide)).trans h6
  replace h7 := (F0.n 7 (by decide)).trans h7
  replace h8 := (F0.n 8 (by decide)).trans h8
  replace h10 := (F0.n 10 (by decide)).trans h10
  clear h16
  have h17 := F0.s
  clear F0
  refine wp_cond_false (ev_tmp h17) ?_
  refine wp_skip ?_
  refine wp_seq ?_
  refine wp_seq ?_
  refine wp_region (show wpOps _ _ _ [0, 1, 2, 3, 4, 5, 6, 7] _ _ from ?_)
  refine opL 0 18 (v := .agg #[.int .u8 F, .int .u8 I, .int .u8 E, .int .u16 C, .int .u32 U, .slice AM lm.length cM, .slice AD ld.length cD, .slice AW lw.length cW, .slice AP lp.length cP]) (w' := w2) (by kernel_rfl) (by rw [hs]; decide) ?z609 ?z610
  case z609 => (intro o ho; obtain rfl := Option.some.inj ho; exact ⟨rfl, k_load9 rfl (ev_tmp h7) B7⟩)
  case z610 =>
  intro a F0
  replace hs := F0.z.trans hs
  replace hd := F0.e.trans hd
  replace h4 := (F0.n 4 (by decide)).trans h4
  replace h5 := (F0.n 5 (by decide)).trans h5
  replace h6 := (F0.n 6 (by decide)).trans h6
  replace h7 := (F0.n 7 (by decide)).trans h7
  replace h8 := (F0.n 8 (by decide)).trans h8
  replace h10 := (F0.n 10 (by decide)).trans h10
  replace h17 := (F0.n 17 (by decide)).trans h17
  have h18 := F0.s
  clear F0
  refine opL_call 1 19 (f := 6) (args := #[.agg #[.int .u8 F, .int .u8 I, .int .u8 E, .int .u16 C, .int .u32 U, .slice AM lm.length cM, .slice AD ld.length cD, .slice AW lw.length cW, .slice AP lp.length cP]]) (R := fun v w' => v = .bool (light lm ld lw lp) ∧ Below w2.heap.size w2 w') (by kernel_rfl) (by rw [hs]; decide) ?z611 (light_any _ _ _ _ _ AM AD AW AP cM cD cW cP lm ld lw lp w2 hX.lm1 hX.ld1 hX.lw1 hX.lp1) ?z612
  case z611 => (intro o ho; obtain rfl := Option.some.inj ho; exact ⟨rfl, c_Light rfl rfl (ev_tmp h18)⟩)
  case z612 =>
  rintro _ w3 a ⟨rfl, l3⟩ F0
  rw [hlx] at F0
  replace hs := F0.z.trans hs
  replace hd := F0.e.trans hd
  replace h4 := (F0.n 4 (by decide)).trans h4
  replace h5 := (F0.n 5 (by decide)).trans h5
  replace h6 := (F0.n 6 (by decide)).trans h6
  replace h7 := (F0.n 7 (by decide)).trans h7
  replace h8 := (F0.n 8 (by decide)).trans h8
  replace h10 := (F0.n 10 (by decide)).trans h10
  replace h17 := (F0.n 17 (by decide)).trans h17
  clear h18
  have h19 := F0.s
  clear F0
  replace B5 := B5.below l3 B5.lt
  replace B6 := B6.below l3 B6.lt
  replace B7 := B7.below l3 B7.lt
  replace B8 := B8.below l3 B8.lt
  have m3 := m2.trans (l3.mono m2.size)
  clear m2 l3
  refine opL 2 20 (v := .bool false) (w' := w3) (by kernel_rfl) (by rw [hs]; decide) ?z613 ?z614
  case z613 => (intro o ho; obtain rfl := Option.some.inj ho; exact ⟨rfl, o_not rfl (ev_tmp h19) rfl⟩)
  case z614 =>
  intro a F0
  replace hs := F0.z.trans hs
  replace hd := F0.e.trans hd
  replace h4 := (F0.n 4 (by decide)).trans h4
  replace h5 := (F0.n 5 (by decide)).trans h5
  replace h6 := (F0.n 6 (by decide)).trans h6
  replace h7 := (F0.n 7 (by decide)).trans h7
  replace h8 := (F0.n 8 (by decide)).trans h8
  replace h10 := (F0.n 10 (by decide)).trans h10
  replace h17 := (F0.n 17 (by decide)).trans h17
  clear h19
  have h20 := F0.s
  clear F0
  refine opL 3 21 (v := .bool false) (w' := w3) (by kernel_rfl) (by rw [hs]; decide) ?z615 ?z616
  case z615 => (intro o ho; obtain rfl := Option.some.inj ho; exact ⟨rfl, k_move rfl (ev_tmp h20)⟩)
  case z616 =>
  intro a F0
  replace hs := F0.z.trans hs
  replace hd := F0.e.trans hd
  replace h4 := (F0.n 4 (by decide)).trans h4
  replace h5 := (F0.n 5 (by decide)).trans h5
  replace h6 := (F0.n 6 (by decide)).trans h6
  replace h7 := (F0.n 7 (by decide)).trans h7
  replace h8 := (F0.n 8 (by decide)).trans h8
  replace h10 := (F0.n 10 (by decide)).trans h10
  replace h17 := (F0.n 17 (by decide)).trans h17
  clear h20
  have h21 := F0.s
  clear F0
  refine opL 4 22 (v := .agg #[.int .u8 F', .int .u8 I', .int .u8 E', .int .u16 C', .int .u32 U', .slice AM' lm'.length cM', .slice AD' ld'.length cD', .slice AW' lw'.length cW', .slice AP' lp'.length cP']) (w' := w3) (by kernel_rfl) (by rw [hs]; decide) ?z617 ?z618
  case z617 => (intro o ho; obtain rfl := Option.some.inj ho; exact ⟨wanted_at (b := false) (want := false) rfl (by kernel_rfl) h21, k_load9 rfl (ev_tmp h8) B8⟩)
  case z618 =>
  intro a F0
  replace hs := F0.z.trans hs
  replace hd := F0.e.trans hd
  replace h4 := (F0.n 4 (by decide)).trans h4
  replace h5 := (F0.n 5 (by decide)).trans h5
  replace h6 := (F0.n 6 (by decide)).trans h6
  replace h7 := (F0.n 7 (by decide)).trans h7
  replace h8 := (F0.n 8 (by decide)).trans h8
  replace h10 := (F0.n 10 (by decide)).trans h10
  replace h17 := (F0.n 17 (by decide)).trans h17
  replace h21 := (F0.n 21 (by decide)).trans h21
  have h22 := F0.s
  clear F0
  refine opL_call 5 23 (f := 6) (args := #[.agg #[.int .u8 F', .int .u8 I', .int .u8 E', .int .u16 C', .int .u32 U', .slice AM' lm'.length cM', .slice AD' ld'.length cD', .slice AW' lw'.length cW', .slice AP' lp'.length cP']]) (R := fun v w' => v = .bool (light lm' ld' lw' lp') ∧ Below w3.heap.size w3 w') (by kernel_rfl) (by rw [hs]; decide) ?z619 (light_any _ _ _ _ _ AM' AD' AW' AP' cM' cD' cW' cP' lm' ld' lw' lp' w3 hY.lm1 hY.ld1 hY.lw1 hY.lp1) ?z620
  case z619 => (intro o ho; obtain rfl := Option.some.inj ho; exact ⟨wanted_at (b := false) (want := false) rfl (by kernel_rfl) h21, c_Light rfl rfl (ev_tmp h22)⟩)
  case z620 =>
  rintro _ w4 a ⟨rfl, l4⟩ F0
  rw [hly] at F0
  replace hs := F0.z.trans hs
  replace hd := F0.e.trans hd
  replace h4 := (F0.n 4 (by decide)).trans h4
  replace h5 := (F0.n 5 (by decide)).trans h5
  replace h6 := (F0.n 6 (by decide)).trans h6
  replace h7 := (F0.n 7 (by decide)).trans h7
  replace h8 := (F0.n 8 (by decide)).trans h8
  replace h10 := (F0.n 10 (by decide)).trans h10
  replace h17 := (F0.n 17 (by decide)).trans h17
  replace h21 := (F0.n 21 (by decide)).trans h21
  clear h22
  have h23 := F0.s
  clear F0
  replace B5 := B5.below l4 B5.lt
  replace B6 := B6.below l4 B6.lt
  replace B7 := B7.below l4 B7.lt
  replace B8 := B8.below l4 B8.lt
  have m4 := m3.trans (l4.mono m3.size)
  clear m3 l4
  refine opL 6 24 (v := .bool true) (w' := w4) (by kernel_rfl) (by rw [hs]; decide) ?z621 ?z622
  case z621 => (intro o ho; obtain rfl := Option.some.inj ho; exact ⟨wanted_at (b := false) (want := false) rfl (by kernel_rfl) h21, o_not rfl (ev_tmp h23) rfl⟩)
  case z622 =>
  intro a F0
  replace hs := F0.z.trans hs
  replace hd := F0.e.trans hd
  replace h4 := (F0.n 4 (by decide)).trans h4
  replace h5 := (F0.n 5 (by decide)).trans h5
  replace h6 := (F0.n 6 (by decide)).trans h6
  replace h7 := (F0.n 7 (by decide)).trans h7
  replace h8 := (F0.n 8 (by decide)).trans h8
  replace h10 := (F0.n 10 (by decide)).trans h10
  replace h17 := (F0.n 17 (by decide)).trans h17
  replace h21 := (F0.n 21 (by decide)).trans h21
  clear h23
  have h24 := F0.s
  clear F0
  refine opL 7 25 (v := .bool true) (w' := w4) (by kernel_rfl) (by rw [hs]; decide) ?z623 ?z624
  case z623 => (intro o ho; obtain rfl := Option.some.inj ho; exact ⟨rfl, k_pick_no rfl (ev_tmp h21) (ev_tmp h24)⟩)
  case z624 =>
  intro a F0
  replace hs := F0.z.trans hs
  replace hd := F0.e.trans hd
  replace h4 := (F0.n 4 (by decide)).trans h4
  replace h5 := (F0.n 5 (by decide)).trans h5
  replace h6 := (F0.n 6 (by decide)).trans h6
  replace h7 := (F0.n 7 (by decide)).trans h7
  replace h8 := (F0.n 8 (by decide)).trans h8
  replace h10 := (F0.n 10 (by decide)).trans h10
  replace h17 := (F0.n 17 (by decide)).trans h17
  clear h21
  clear h24
  have h25 := F0.s
  clear F0
  refine wp_cond_true (ev_tmp h25) ?_
  refine wp_seq ?_
  refine wp_region (show wpOps _ _ _ [0] _ _ from ?_)
  refine opL 0 10 (v := .bool true) (w' := w4) (by kernel_rfl) (by rw [hs]; decide) ?z625 ?z626
  case z625 => (intro o ho; obtain rfl := Option.some.inj ho; exact ⟨rfl, k_assign rfl rfl⟩)
  case z626 =>
  intro a F0
  replace hs := F0.z.trans hs
  replace hd := F0.e.trans hd
  replace h4 := (F0.n 4 (by decide)).trans h4
  replace h5 := (F0.n 5 (by decide)).trans h5
  replace h6 := (F0.n 6 (by decide)).trans h6
  replace h7 := (F0.n 7 (by decide)).trans h7
  replace h8 := (F0.n 8 (by decide)).trans h8
  clear h10
  replace h17 := (F0.n 17 (by decide)).trans h17
  replace h25 := (F0.n 25 (by decide)).trans h25
  have h10 := F0.s
  clear F0
  refine wp_ret ?_
  exact hfin a _ hd h10 m4

set_option maxRecDepth 100000 in
set_option maxHeartbeats 2000000 in
theorem ruleOrders_light (n d n' d' : Int) (F I E C U : Int) (AM AD AW AP : Option Addr) (cM cD cW cP : Nat) (lm ld : List Int) (lw : List (Int × Int)) (lp : List Int) (F' I' E' C' U' : Int) (AM' AD' AW' AP' : Option Addr) (cM' cD' cW' cP' : Nat) (lm' ld' : List Int) (lw' : List (Int × Int)) (lp' : List Int) (sm : Int) (w : World) (hM : Months w) (hX : XIn0 w F I E C U AM AD AW AP lm ld lw lp) (hY : XIn0 w F' I' E' C' U' AM' AD' AW' AP' lm' ld' lw' lp') (hlx : light lm ld lw lp = true) (hly : light lm' ld' lw' lp' = true) :
    Calls Tryd.prog 3 #[.agg #[.int .i64 n, .int .i64 d], .agg #[.int .i64 n', .int .i64 d'], .agg #[.int .u8 F, .int .u8 I, .int .u8 E, .int .u16 C, .int .u32 U, .slice AM lm.length cM, .slice AD ld.length cD, .slice AW lw.length cW, .slice AP lp.length cP], .agg #[.int .u8 F', .int .u8 I', .int .u8 E', .int .u16 C', .int .u32 U', .slice AM' lm'.length cM', .slice AD' ld'.length cD', .slice AW' lw'.length cW', .slice AP' lp'.length cP'], .int .u8 sm] w fun e w' => e = .returned (.bool true) ∧ Below w.heap.size w w' := by
  refine calls_of_wp Tryd.func3 (show Tryd.f3.body = some ruleOrdersBody from rfl) ?_
  generalize hA : (Act.mk (#[.agg #[.int .i64 n, .int .i64 d], .agg #[.int .i64 n', .int .i64 d'], .agg #[.int .u8 F, .int .u8 I, .int .u8 E, .int .u16 C, .int .u32 U, .slice AM lm.length cM, .slice AD ld.length cD, .slice AW lw.length cW, .slice AP lp.length cP], .agg #[.int .u8 F', .int .u8 I', .int .u8 E', .int .u16 C', .int .u32 U', .slice AM' lm'.length cM', .slice AD' ld'.length cD', .slice AW' lw'.length cW', .slice AP' lp'.length cP'], .int .u8 sm] ++ Array.replicate (Tryd.f3.ntmps - (#[.agg #[.int .i64 n, .int .i64 d], .agg #[.int .i64 n', .int .i64 d'], .agg #[.int .u8 F, .int .u8 I, .int .u8 E, .int .u16 C, .int .u32 U, .slice AM lm.length cM, .slice AD ld.length cD, .slice AW lw.length cW, .slice AP lp.length cP], .agg #[.int .u8 F', .int .u8 I', .int .u8 E', .int .u16 C', .int .u32 U', .slice AM' lm'.length cM', .slice AD' ld'.length cD', .slice AW' lw'.length cW', .slice AP' lp'.length cP'], .int .u8 sm] : Array Value).size) undef) []) = a
  have hs : a.tmps.size = 148 := by rw [← hA]; simp [Tryd.ntmps3]
  have hd : a.defers = [] := by rw [← hA]
  have h0 : a.tmps.getD 0 undef = .agg #[.int .i64 n, .int .i64 d] := by rw [← hA]; simp
  have h1 : a.tmps.getD 1 undef = .agg #[.int .i64 n', .int .i64 d'] := by rw [← hA]; simp
  have h2 : a.tmps.getD 2 undef = .agg #[.int .u8 F, .int .u8 I, .int .u8 E, .int .u16 C, .int .u32 U, .slice AM lm.length cM, .slice AD ld.length cD, .slice AW lw.length cW, .slice AP lp.length cP] := by rw [← hA]; simp
  have h3 : a.tmps.getD 3 undef = .agg #[.int .u8 F', .int .u8 I', .int .u8 E', .int .u16 C', .int .u32 U', .slice AM' lm'.length cM', .slice AD' ld'.length cD', .slice AW' lw'.length cW', .slice AP' lp'.length cP'] := by rw [← hA]; simp
  have h4 : a.tmps.getD 4 undef = .int .u8 sm := by rw [← hA]; simp
  clear hA
  refine Code.wp_mono NoPanic.imp ?_
  have hQ : Blind (NoPanic (bodyPost Tryd.prog Tryd.f3 fun e w' => e = .returned (.bool true) ∧ Below w.heap.size w w')) := fun _ _ _ _ q => q.elim
  have hfin : ∀ (a' : Act) (w' : World), a'.defers = [] → a'.tmps.getD 10 undef = .bool true → Below w.heap.size w w' → NoPanic (bodyPost Tryd.prog Tryd.f3 fun e w' => e = .returned (.bool true) ∧ Below w.heap.size w w') .ret a' w' := by
    intro a' w' k1 k2 k3
    exact ⟨k1, _, results_tmp rfl _ _ _, by rw [k2], k3⟩
  generalize NoPanic (bodyPost Tryd.prog Tryd.f3 fun e w' => e = .returned (.bool true) ∧ Below w.heap.size w w') = Q at hQ hfin
  unfold ruleOrdersBody
  conv => arg 2; whnf
  refine wp_seq ?_
  refine wp_region (show wpOps _ _ _ [0, 1, 2, 3, 4] _ _ from ?_)
  refine opL 0 5 (v := .pointer (some ⟨w.heap.size, 0, none⟩)) (w' := (w.alloc (.cells #[.int .i64 n, .int .i64 d] 23))) (by kernel_rfl) (by rw [hs]; decide) ?z627 ?z628
  case z627 => (intro o ho; obtain rfl := Option.some.inj ho; exact ⟨rfl, k_boxN rfl (ev_tmp h0)⟩)
  case z628 =>
  intro a F0
  replace hs := F0.z.trans hs
  replace hd := F0.e.trans hd
  clear h0
  replace h1 := (F0.n 1 (by decide)).trans h1
  replace h2 := (F0.n 2 (by decide)).trans h2
  replace h3 := (F0.n 3 (by decide)).trans h3
  replace h4 := (F0.n 4 (by decide)).trans h4
  have h5 := F0.s
  clear F0
  obtain ⟨wa, hwa⟩ : ∃ wn, wn = w.alloc (.cells #[.int .i64 n, .int .i64 d] 23) := ⟨_, rfl⟩
  rw [← hwa]
  have qa : Blk wa w.heap.size 23 #[.int .i64 n, .int .i64 d] := by rw [hwa]; exact Blk.alloc _ _ _
  have la : Below w.heap.size w wa := by rw [hwa]; exact (Below.refl _ _).alloc (Nat.le_refl _) _
  clear hwa
  refine opL 1 6 (v := .pointer (some ⟨wa.heap.size, 0, none⟩)) (w' := (wa.alloc (.cells #[.int .i64 n', .int .i64 d'] 23))) (by kernel_rfl) (by rw [hs]; decide) ?z629 ?z630
  case z629 => (intro o ho; obtain rfl := Option.some.inj ho; exact ⟨rfl, k_boxN rfl (ev_tmp h1)⟩)
  case z630 =>
  intro a F0
  replace hs := F0.z.trans hs
  replace hd := F0.e.trans hd
  clear h1
  replace h2 := (F0.n 2 (by decide)).trans h2
  replace h3 := (F0.n 3 (by decide)).trans h3
  replace h4 := (F0.n 4 (by decide)).trans h4
  replace h5 := (F0.n 5 (by decide)).trans h5
  have h6 := F0.s
  clear F0
  obtain ⟨wb, hwb⟩ : ∃ wn, wn = wa.alloc (.cells #[.int .i64 n', .int .i64 d'] 23) := ⟨_, rfl⟩
  rw [← hwb]
  have qb : Blk wb wa.heap.size 23 #[.int .i64 n', .int .i64 d'] := by rw [hwb]; exact Blk.alloc _ _ _
  have lb : Below wa.heap.size wa wb := by rw [hwb]; exact (Below.refl _ _).alloc (Nat.le_refl _) _
  clear hwb
  have ha := qa.lt
  replace qa := qa.below lb qa.lt
  replace la := la.trans (lb.mono la.size)
  clear lb
  refine opL 2 7 (v := .pointer (some ⟨wb.heap.size, 0, none⟩)) (w' := (wb.alloc (.cells #[.int .u8 F, .int .u8 I, .int .u8 E, .int .u16 C, .int .u32 U, .slice AM lm.length cM, .slice AD ld.length cD, .slice AW lw.length cW, .slice AP lp.length cP] 31))) (by kernel_rfl) (by rw [hs]; decide) ?z631 ?z632
  case z631 => (intro o ho; obtain rfl := Option.some.inj ho; exact ⟨rfl, k_box9 rfl (ev_tmp h2)⟩)
  case z632 =>
  intro a F0
  replace hs := F0.z.trans hs
  replace hd := F0.e.trans hd
  clear h2
  replace h3 := (F0.n 3 (by decide)).trans h3
  replace h4 := (F0.n 4 (by decide)).trans h4
  replace h5 := (F0.n 5 (by decide)).trans h5
  replace h6 := (F0.n 6 (by decide)).trans h6
  have h7 := F0.s
  clear F0
  obtain ⟨wx, hwx⟩ : ∃ wn, wn = wb.alloc (.cells #[.int .u8 F, .int .u8 I, .int .u8 E, .int .u16 C, .int .u32 U, .slice AM lm.length cM, .slice AD ld.length cD, .slice AW lw.length cW, .slice AP lp.length cP] 31) := ⟨_, rfl⟩
  rw [← hwx]
  have qx : Blk wx wb.heap.size 31 #[.int .u8 F, .int .u8 I, .int .u8 E, .int .u16 C, .int .u32 U, .slice AM lm.length cM, .slice AD ld.length cD, .slice AW lw.length cW, .slice AP lp.length cP] := by rw [hwx]; exact Blk.alloc _ _ _
  have lx : Below wb.heap.size wb wx := by rw [hwx]; exact (Below.refl _ _).alloc (Nat.le_refl _) _
  clear hwx
  have hb := qb.lt
  replace qa := qa.below lx qa.lt
  replace qb := qb.below lx qb.lt
  replace la := la.trans (lx.mono la.size)
  clear lx
  refine opL 3 8 (v := .pointer (some ⟨wx.heap.size, 0, none⟩)) (w' := (wx.alloc (.cells #[.int .u8 F', .int .u8 I', .int .u8 E', .int .u16 C', .int .u32 U', .slice AM' lm'.length cM', .slice AD' ld'.length cD', .slice AW' lw'.length cW', .slice AP' lp'.length cP'] 31))) (by kernel_rfl) (by rw [hs]; decide) ?z633 ?z634
  case z633 => (intro o ho; obtain rfl := Option.some.inj ho; exact ⟨rfl, k_box9 rfl (ev_tmp h3)⟩)
  case z634 =>
  intro a F0
  replace hs := F0.z.trans hs
  replace hd := F0.e.trans hd
  clear h3
  replace h4 := (F0.n 4 (by decide)).trans h4
  replace h5 := (F0.n 5 (by decide)).trans h5
  replace h6 := (F0.n 6 (by decide)).trans h6
  replace h7 := (F0.n 7 (by decide)).trans h7
  have h8 := F0.s
  clear F0
  obtain ⟨w1, hwy⟩ : ∃ wn, wn = wx.alloc (.cells #[.int .u8 F', .int .u8 I', .int .u8 E', .int .u16 C', .int .u32 U', .slice AM' lm'.length cM', .slice AD' ld'.length cD', .slice AW' lw'.length cW', .slice AP' lp'.length cP'] 31) := ⟨_, rfl⟩
  rw [← hwy]
  have qy : Blk w1 wx.heap.size 31 #[.int .u8 F', .int .u8 I', .int .u8 E', .int .u16 C', .int .u32 U', .slice AM' lm'.length cM', .slice AD' ld'.length cD', .slice AW' lw'.length cW', .slice AP' lp'.length cP'] := by rw [hwy]; exact Blk.alloc _ _ _
  have ly : Below wx.heap.size wx w1 := by rw [hwy]; exact (Below.refl _ _).alloc (Nat.le_refl _) _
  clear hwy
  have hx0 := qx.lt
  have B5 := qa.below ly qa.lt
  have B6 := qb.below ly qb.lt
  have B7 := qx.below ly qx.lt
  have B8 := qy
  have l1 := la.trans (ly.mono la.size)
  clear la ly qa qb qx qy
  refine opL 4 10 (v := .bool false) (w' := w1) (by kernel_rfl) (by rw [hs]; decide) ?z635 ?z636
  case z635 => (intro o ho; obtain rfl := Option.some.inj ho; exact ⟨rfl, k_assign rfl rfl⟩)
  case z636 =>
  intro a F0
  replace hs := F0.z.trans hs
  replace hd := F0.e.trans hd
  replace h4 := (F0.n 4 (by decide)).trans h4
  replace h5 := (F0.n 5 (by decide)).trans h5
  replace h6 := (F0.n 6 (by decide)).trans h6
  replace h7 := (F0.n 7 (by decide)).trans h7
  replace h8 := (F0.n 8 (by decide)).trans h8
  have h10 := F0.s
  clear F0
  refine wp_seq ?_
  refine wp_seq ?_
  refine wp_region (show wpOps _ _ _ [0, 1] _ _ from ?_)
  refine opL_call 0 16 (f := 5) (args := #[]) (R := fun v w' => v = .bool true ∧ Below w1.heap.size w1 w') (by kernel_rfl) (by rw [hs]; decide) ?z637 (awake2' w1 (hM.grown l1)) ?z638
  case z637 => (intro o ho; obtain rfl := Option.some.inj ho; exact ⟨rfl, k_callAwake rfl rfl⟩)
  case z638 =>
  rintro _ w2 a ⟨rfl, l2⟩ F0
  replace hs := F0.z.trans hs
  replace hd := F0.e.trans hd
  replace h4 := (F0.n 4 (by decide)).trans h4
  replace h5 := (F0.n 5 (by decide)).trans h5
  replace h6 := (F0.n 6 (by decide)).trans h6
  replace h7 := (F0.n 7 (by decide)).trans h7
  replace h8 := (F0.n 8 (by decide)).trans h8
  replace h10 := (F0.n 10 (by decide)).trans h10
  have h16 := F0.s
  clear F0
  replace B5 := B5.below l2 B5.lt
  replace B6 := B6.below l2 B6.lt
  replace B7 := B7.below l2 B7.lt
  replace B8 := B8.below l2 B8.lt
  have m2 := l1.trans (l2.mono l1.size)
  clear l1 l2
  refine opL 1 17 (v := .bool false) (w' := w2) (by kernel_rfl) (by rw [hs]; decide) ?z639 ?z640
  case z639 => (intro o ho; obtain rfl := Option.some.inj ho; exact ⟨rfl, o_not rfl (ev_tmp h16) rfl⟩)
  case z640 =>
  intro a F0
  replace hs := F0.z.trans hs
  replace hd := F0.e.trans hd
  replace h4 := (F0.n 4 (by decide)).trans h4
  replace h5 := (F0.n 5 (by decide)).trans h5
  replace h6 := (F0.n 6 (by decide)).trans h6
  replace h7 := (F0.n 7 (by decide)).trans h7
  replace h8 := (F0.n 8 (by decide)).trans h8
  replace h10 := (F0.n 10 (by decide)).trans h10
  clear h16
  have h17 := F0.s
  clear F0
  refine wp_cond_false (ev_tmp h17) ?_
  refine wp_skip ?_
  refine wp_seq ?_
  refine wp_seq ?_
  refine wp_region (show wpOps _ _ _ [0, 1, 2, 3, 4, 5, 6, 7] _ _ from ?_)
  refine opL 0 18 (v := .agg #[.int .u8 F, .int .u8 I, .int .u8 E, .int .u16 C, .int .u32 U, .slice AM lm.length cM, .slice AD ld.length cD, .slice AW lw.length cW, .slice AP lp.length cP]) (w' := w2) (by kernel_rfl) (by rw [hs]; decide) ?z641 ?z642
  case z641 => (intro o ho; obtain rfl := Option.some.inj ho; exact ⟨rfl, k_load9 rfl (ev_tmp h7) B7⟩)
  case z642 =>
  intro a F0
  replace hs := F0.z.trans hs
  replace hd := F0.e.trans hd
  replace h4 := (F0.n 4 (by decide)).trans h4
  replace h5 := (F0.n 5 (by decide)).trans h5
  replace h6 := (F0.n 6 (by decide)).trans h6
  replace h7 := (F0.n 7 (by decide)).trans h7
  replace h8 := (F0.n 8 (by decide)).trans h8
  replace h10 := (F0.n 10 (by decide)).trans h10
  replace h17 := (F0.n 17 (by decide)).trans h17
  have h18 := F0.s
  clear F0
  refine opL_call 1 19 (f := 6) (args := #[.agg #[.int .u8 F, .int .u8 I, .int .u8 E, .int .u16 C, .int .u32 U, .slice AM lm.length cM, .slice AD ld.length cD, .slice AW lw.length cW, .slice AP lp.length cP]]) (R := fun v w' => v = .bool (light lm ld lw lp) ∧ Below w2.heap.size w2 w') (by kernel_rfl) (by rw [hs]; decide) ?z643 (light_any _ _ _ _ _ AM AD AW AP cM cD cW cP lm ld lw lp w2 hX.lm1 hX.ld1 hX.lw1 hX.lp1) ?z644
  case z643 => (intro o ho; obtain rfl := Option.some.inj ho; exact ⟨rfl, c_Light rfl rfl (ev_tmp h18)⟩)
  case z644 =>
  rintro _ w3 a ⟨rfl, l3⟩ F0
  rw [hlx] at F0
  replace hs := F0.z.trans hs
  replace hd := F0.e.trans hd
  replace h4 := (F0.n 4 (by decide)).trans h4
  replace h5 := (F0.n 5 (by decide)).trans h5
  replace h6 := (F0.n 6 (by decide)).trans h6
  replace h7 := (F0.n 7 (by decide)).trans h7
  replace h8 := (F0.n 8 (by decide)).trans h8
  replace h10 := (F0.n 10 (by decide)).trans h10
  replace h17 := (F0.n 17 (by decide)).trans h17
  clear h18
  have h19 := F0.s
  clear F0
  replace B5 := B5.below l3 B5.lt
  replace B6 := B6.below l3 B6.lt
  replace B7 := B7.below l3 B7.lt
  replace B8 := B8.below l3 B8.lt
  have m3 := m2.trans (l3.mono m2.size)
  clear m2 l3
  refine opL 2 20 (v := .bool false) (w' := w3) (by kernel_rfl) (by rw [hs]; decide) ?z645 ?z646
  case z645 => (intro o ho; obtain rfl := Option.some.inj ho; exact ⟨rfl, o_not rfl (ev_tmp h19) rfl⟩)
  case z646 =>
  intro a F0
  replace hs := F0.z.trans hs
  replace hd := F0.e.trans hd
  replace h4 := (F0.n 4 (by decide)).trans h4
  replace h5 := (F0.n 5 (by decide)).trans h5
  replace h6 := (F0.n 6 (by decide)).trans h6
  replace h7 := (F0.n 7 (by decide)).trans h7
  replace h8 := (F0.n 8 (by decide)).trans h8
  replace h10 := (F0.n 10 (by decide)).trans h10
  replace h17 := (F0.n 17 (by decide)).trans h17
  clear h19
  have h20 := F0.s
  clear F0
  refine opL 3 21 (v := .bool false) (w' := w3) (by kernel_rfl) (by rw [hs]; decide) ?z647 ?z648
  case z647 => (intro o ho; obtain rfl := Option.some.inj ho; exact ⟨rfl, k_move rfl (ev_tmp h20)⟩)
  case z648 =>
  intro a F0
  replace hs := F0.z.trans hs
  replace hd := F0.e.trans hd
  replace h4 := (F0.n 4 (by decide)).trans h4
  replace h5 := (F0.n 5 (by decide)).trans h5
  replace h6 := (F0.n 6 (by decide)).trans h6
  replace h7 := (F0.n 7 (by decide)).trans h7
  replace h8 := (F0.n 8 (by decide)).trans h8
  replace h10 := (F0.n 10 (by decide)).trans h10
  replace h17 := (F0.n 17 (by decide)).trans h17
  clear h20
  have h21 := F0.s
  clear F0
  refine opL 4 22 (v := .agg #[.int .u8 F', .int .u8 I', .int .u8 E', .int .u16 C', .int .u32 U', .slice AM' lm'.length cM', .slice AD' ld'.length cD', .slice AW' lw'.length cW', .slice AP' lp'.length cP']) (w' := w3) (by kernel_rfl) (by rw [hs]; decide) ?z649 ?z650
  case z649 => (intro o ho; obtain rfl := Option.some.inj ho; exact ⟨wanted_at (b := false) (want := false) rfl (by kernel_rfl) h21, k_load9 rfl (ev_tmp h8) B8⟩)
  case z650 =>
  intro a F0
  replace hs := F0.z.trans hs
  replace hd := F0.e.trans hd
  replace h4 := (F0.n 4 (by decide)).trans h4
  replace h5 := (F0.n 5 (by decide)).trans h5
  replace h6 := (F0.n 6 (by decide)).trans h6
  replace h7 := (F0.n 7 (by decide)).trans h7
  replace h8 := (F0.n 8 (by decide)).trans h8
  replace h10 := (F0.n 10 (by decide)).trans h10
  replace h17 := (F0.n 17 (by decide)).trans h17
  replace h21 := (F0.n 21 (by decide)).trans h21
  have h22 := F0.s
  clear F0
  refine opL_call 5 23 (f := 6) (args := #[.agg #[.int .u8 F', .int .u8 I', .int .u8 E', .int .u16 C', .int .u32 U', .slice AM' lm'.length cM', .slice AD' ld'.length cD', .slice AW' lw'.length cW', .slice AP' lp'.length cP']]) (R := fun v w' => v = .bool (light lm' ld' lw' lp') ∧ Below w3.heap.size w3 w') (by kernel_rfl) (by rw [hs]; decide) ?z651 (light_any _ _ _ _ _ AM' AD' AW' AP' cM' cD' cW' cP' lm' ld' lw' lp' w3 hY.lm1 hY.ld1 hY.lw1 hY.lp1) ?z652
  case z651 => (intro o ho; obtain rfl := Option.some.inj ho; exact ⟨wanted_at (b := false) (want := false) rfl (by kernel_rfl) h21, c_Light rfl rfl (ev_tmp h22)⟩)
  case z652 =>
  rintro _ w4 a ⟨rfl, l4⟩ F0
  rw [hly] at F0
  replace hs := F0.z.trans hs
  replace hd := F0.e.trans hd
  replace h4 := (F0.n 4 (by decide)).trans h4
  replace h5 := (F0.n 5 (by decide)).trans h5
  replace h6 := (F0.n 6 (by decide)).trans h6
  replace h7 := (F0.n 7 (by decide)).trans h7
  replace h8 := (F0.n 8 (by decide)).trans h8
  replace h10 := (F0.n 10 (by decide)).trans h10
  replace h17 := (F0.n 17 (by decide)).trans h17
  replace h21 := (F0.n 21 (by decide)).trans h21
  clear h22
  have h23 := F0.s
  clear F0
  replace B5 := B5.below l4 B5.lt
  replace B6 := B6.below l4 B6.lt
  replace B7 := B7.below l4 B7.lt
  replace B8 := B8.below l4 B8.lt
  have m4 := m3.trans (l4.mono m3.size)
  clear m3 l4
  refine opL 6 24 (v := .bool false) (w' := w4) (by kernel_rfl) (by rw [hs]; decide) ?z653 ?z654
  case z653 => (intro o ho; obtain rfl := Option.some.inj ho; exact ⟨wanted_at (b := false) (want := false) rfl (by kernel_rfl) h21, o_not rfl (ev_tmp h23) rfl⟩)
  case z654 =>
  intro a F0
  replace hs := F0.z.trans hs
  replace hd := F0.e.trans hd
  replace h4 := (F0.n 4 (by decide)).trans h4
  replace h5 := (F0.n 5 (by decide)).trans h5
  replace h6 := (F0.n 6 (by decide)).trans h6
  replace h7 := (F0.n 7 (by decide)).trans h7
  replace h8 := (F0.n 8 (by decide)).trans h8
  replace h10 := (F0.n 10 (by decide)).trans h10
  replace h17 := (F0.n 17 (by decide)).trans h17
  replace h21 := (F0.n 21 (by decide)).trans h21
  clear h23
  have h24 := F0.s
  clear F0
  refine opL 7 25 (v := .bool false) (w' := w4) (by kernel_rfl) (by rw [hs]; decide) ?z655 ?z656
  case z655 => (intro o ho; obtain rfl := Option.some.inj ho; exact ⟨rfl, k_pick_no rfl (ev_tmp h21) (ev_tmp h24)⟩)
  case z656 =>
  intro a F0
  replace hs := F0.z.trans hs
  replace hd := F0.e.trans hd
  replace h4 := (F0.n 4 (by decide)).trans h4
  replace h5 := (F0.n 5 (by decide)).trans h5
  replace h6 := (F0.n 6 (by decide)).trans h6
  replace h7 := (F0.n 7 (by decide)).trans h7
  replace h8 := (F0.n 8 (by decide)).trans h8
  replace h10 := (F0.n 10 (by decide)).trans h10
  replace h17 := (F0.n 17 (by decide)).trans h17
  clear h21
  clear h24
  have h25 := F0.s
  clear F0
  refine wp_cond_false (ev_tmp h25) ?_
  refine wp_skip ?_
  refine wp_seq ?_
  refine wp_seq ?_
  refine wp_region (show wpOps _ _ _ [0, 1, 2] _ _ from ?_)
  refine opL 0 26 (v := .int .u8 sm) (w' := w4) (by kernel_rfl) (by rw [hs]; decide) ?z657 ?z658
  case z657 => (intro o ho; obtain rfl := Option.some.inj ho; exact ⟨rfl, k_move rfl (ev_tmp h4)⟩)
  case z658 =>
  intro a F0
  replace hs := F0.z.trans hs
  replace hd := F0.e.trans hd
  replace h4 := (F0.n 4 (by decide)).trans h4
  replace h5 := (F0.n 5 (by decide)).trans h5
  replace h6 := (F0.n 6 (by decide)).trans h6
  replace h7 := (F0.n 7 (by decide)).trans h7
  replace h8 := (F0.n 8 (by decide)).trans h8
  replace h10 := (F0.n 10 (by decide)).trans h10
  replace h17 := (F0.n 17 (by decide)).trans h17
  replace h25 := (F0.n 25 (by decide)).trans h25
  have h26 := F0.s
  clear F0
  refine opL 1 27 (v := .int .u8 (sm.tmod 3)) (w' := w4) (by kernel_rfl) (by rw [hs]; decide) ?z659 ?z660
  case z659 => (intro o ho; obtain rfl := Option.some.inj ho; exact ⟨rfl, o_remB rfl (ev_tmp h26) rfl (by decide) rfl⟩)
  case z660 =>
  intro a F0
  replace hs := F0.z.trans hs
  replace hd := F0.e.trans hd
  replace h4 := (F0.n 4 (by decide)).trans h4
  replace h5 := (F0.n 5 (by decide)).trans h5
  replace h6 := (F0.n 6 (by decide)).trans h6
  replace h7 := (F0.n 7 (by decide)).trans h7
  replace h8 := (F0.n 8 (by decide)).trans h8
  replace h10 := (F0.n 10 (by decide)).trans h10
  replace h17 := (F0.n 17 (by decide)).trans h17
  replace h25 := (F0.n 25 (by decide)).trans h25
  clear h26
  have h27 := F0.s
  clear F0
  refine opL 2 28 (v := .bool (decide (0 < sm.tmod 3))) (w' := w4) (by kernel_rfl) (by rw [hs]; decide) ?z661 ?z662
  case z661 => (intro o ho; obtain rfl := Option.some.inj ho; exact ⟨rfl, o_gtB rfl (ev_tmp h27) rfl rfl⟩)
  case z662 =>
  intro a F0
  replace hs := F0.z.trans hs
  replace hd := F0.e.trans hd
  replace h4 := (F0.n 4 (by decide)).trans h4
  replace h5 := (F0.n 5 (by decide)).trans h5
  replace h6 := (F0.n 6 (by decide)).trans h6
  replace h7 := (F0.n 7 (by decide)).trans h7
  replace h8 := (F0.n 8 (by decide)).trans h8
  replace h10 := (F0.n 10 (by decide)).trans h10
  replace h17 := (F0.n 17 (by decide)).trans h17
  replace h25 := (F0.n 25 (by decide)).trans h25
  clear h27
  have h28 := F0.s
  clear F0
  refine cut_at (OrdS w sm n d #[.int .u8 F, .int .u8 I, .int .u8 E, .int .u16 C, .int .u32 U, .slice AM lm.length cM, .slice AD ld.length cD, .slice AW lw.length cW, .slice AP lp.length cP] w.heap.size wa.heap.size wb.heap.size wx.heap.size) ?z663 ?z664
  case z663 =>
    have Yf := hY.full hly
    cases g1 : decide (0 < sm.tmod 3)
    case false =>
      rw [g1] at h28
      refine wp_cond_false (ev_tmp h28) ?_
      refine wp_skip ?_
      exact ⟨hd, hs, h4, h5, h6, h7, h8, B5, ⟨_, _, B6⟩, B7, ⟨F', I', E', C', U', AM', AD', AW', AP', cM', cD', cW', cP', lm', ld', lw', lp', B8, Yf⟩, m4⟩
    case true =>
      rw [g1] at h28
      refine wp_cond_true (ev_tmp h28) ?_
      have hx := fun Q hQ => regOrd6 a w4 Q hQ _ _ _ _ n d n' d' _ _ rfl rfl (by simp [Value.oneCell']) _ _ hd hs h4 h5 h6 h7 h8 B5 B6 B7 B8 (by omega) (by omega) (by omega) (by omega) (by omega) (fun w1 ρ o x e1 e2 e3 => k_load9 e1 e2 e3)
      refine hx _ ?z665 ?z666
      case z665 => (repeat (first | exact hQ | refine blind_then ?_ | refine blind_block ?_))
      case z666 =>
      intro a' w' e1 e2 e3 e4 e5 e6 e7 e8 e9 e10 e11 e12
      have z1 := e12 w.heap.size (by omega) (by omega)
      exact ⟨e2, e1, e3, e4, e5, e6, e7, e8, ⟨_, _, e9⟩, e10, ⟨F, I, E, C, U, AM, AD, AW, AP, cM, cD, cW, cP, lm, ld, lw, lp, e11, hX.full hlx⟩, m4.trans z1⟩
  case z664 =>
  clear hs hd B5 B6 B7 B8 m4 h4 h5 h6 h7 h8 h10 h17 h25 h28
  rintro a w5 ⟨hd, hs, h4, h5, h6, h7, h8, B5, ⟨n', d', B6⟩, B7, ⟨F', I', E', C', U', AM', AD', AW', AP', cM', cD', cW', cP', lm', ld', lw', lp', B8, Yf⟩, m5⟩
  refine wp_seq ?_
  refine wp_seq ?_
  refine wp_region (show wpOps _ _ _ [0, 1, 2] _ _ from ?_)
  refine opL 0 33 (v := .int .u8 sm) (w' := w5) (by kernel_rfl) (by rw [hs]; decide) ?z667 ?z668
  case z667 => (intro o ho; obtain rfl := Option.some.inj ho; exact ⟨rfl, k_move rfl (ev_tmp h4)⟩)
  case z668 =>
  intro a F0
  replace hs := F0.z.trans hs
  replace hd := F0.e.trans hd
  replace h4 := (F0.n 4 (by decide)).trans h4
  replace h5 := (F0.n 5 (by decide)).trans h5
  replace h6 := (F0.n 6 (by decide)).trans h6
  replace h7 := (F0.n 7 (by decide)).trans h7
  replace h8 := (F0.n 8 (by decide)).trans h8
  have h33 := F0.s
  clear F0
  refine opL 1 34 (v := .int .u8 (sm.tmod 3)) (w' := w5) (by kernel_rfl) (by rw [hs]; decide) ?z669 ?z670
  case z669 => (intro o ho; obtain rfl := Option.some.inj ho; exact ⟨rfl, o_remB rfl (ev_tmp h33) rfl (by decide) rfl⟩)
  case z670 =>
  intro a F0
  replace hs := F0.z.trans hs
  replace hd := F0.e.trans hd
  replace h4 := (F0.n 4 (by decide)).trans h4
  replace h5 := (F0.n 5 (by decide)).trans h5
  replace h6 := (F0.n 6 (by decide)).trans h6
  replace h7 := (F0.n 7 (by decide)).trans h7
  replace h8 := (F0.n 8 (by decide)).trans h8
  clear h33
  have h34 := F0.s
  clear F0
  refine opL 2 35 (v := .bool (decide (1 < sm.tmod 3))) (w' := w5) (by kernel_rfl) (by rw [hs]; decide) ?z671 ?z672
  case z671 => (intro o ho; obtain rfl := Option.some.inj ho; exact ⟨rfl, o_gtB rfl (ev_tmp h34) rfl rfl⟩)
  case z672 =>
  intro a F0
  replace hs := F0.z.trans hs
  replace hd := F0.e.trans hd
  replace h4 := (F0.n 4 (by decide)).trans h4
  replace h5 := (F0.n 5 (by decide)).trans h5
  replace h6 := (F0.n 6 (by decide)).trans h6
  replace h7 := (F0.n 7 (by decide)).trans h7
  replace h8 := (F0.n 8 (by decide)).trans h8
  clear h34
  have h35 := F0.s
  clear F0
  refine cut_at (OrdS w sm n d #[.int .u8 F, .int .u8 I, .int .u8 E, .int .u16 C, .int .u32 U, .slice AM lm.length cM, .slice AD ld.length cD, .slice AW lw.length cW, .slice AP lp.length cP] w.heap.size wa.heap.size wb.heap.size wx.heap.size) ?z673 ?z674
  case z673 =>
    cases g2 : decide (1 < sm.tmod 3)
    case false =>
      rw [g2] at h35
      refine wp_cond_false (ev_tmp h35) ?_
      refine wp_skip ?_
      exact ⟨hd, hs, h4, h5, h6, h7, h8, B5, ⟨_, _, B6⟩, B7, ⟨F', I', E', C', U', AM', AD', AW', AP', cM', cD', cW', cP', lm', ld', lw', lp', B8, Yf⟩, m5⟩
    case true =>
      rw [g2] at h35
      refine wp_cond_true (ev_tmp h35) ?_
      refine wp_seq ?_
      refine wp_region (show wpOps _ _ _ [0, 1, 2, 3] _ _ from ?_)
      refine opL 0 36 (v := .pointer (some ⟨w.heap.size, 1, none⟩)) (w' := w5) (by kernel_rfl) (by rw [hs]; decide) ?z675 ?z676
      case z675 => (intro o ho; obtain rfl := Option.some.inj ho; exact ⟨rfl, k_fieldNth1 rfl (ev_tmp h5)⟩)
      case z676 =>
      intro a F0
      replace hs := F0.z.trans hs
      replace hd := F0.e.trans hd
      replace h4 := (F0.n 4 (by decide)).trans h4
      replace h5 := (F0.n 5 (by decide)).trans h5
      replace h6 := (F0.n 6 (by decide)).trans h6
      replace h7 := (F0.n 7 (by decide)).trans h7
      replace h8 := (F0.n 8 (by decide)).trans h8
      clear h35
      have h36 := F0.s
      clear F0
      refine opL 1 37 (v := .int .i64 d) (w' := w5) (by kernel_rfl) (by rw [hs]; decide) ?z677 ?z678
      case z677 => (intro o ho; obtain rfl := Option.some.inj ho; exact ⟨rfl, k_loadI rfl (ev_tmp h36) (B5.cell 1)⟩)
      case z678 =>
      intro a F0
      replace hs := F0.z.trans hs
      replace hd := F0.e.trans hd
      replace h4 := (F0.n 4 (by decide)).trans h4
      replace h5 := (F0.n 5 (by decide)).trans h5
      replace h6 := (F0.n 6 (by decide)).trans h6
      replace h7 := (F0.n 7 (by decide)).trans h7
      replace h8 := (F0.n 8 (by decide)).trans h8
      clear h36
      have h37 := F0.s
      clear F0
      refine opL 2 38 (v := .pointer (some ⟨wa.heap.size, 1, none⟩)) (w' := w5) (by kernel_rfl) (by rw [hs]; decide) ?z679 ?z680
      case z679 => (intro o ho; obtain rfl := Option.some.inj ho; exact ⟨rfl, k_fieldNth1 rfl (ev_tmp h6)⟩)
      case z680 =>
      intro a F0
      replace hs := F0.z.trans hs
      replace hd := F0.e.trans hd
      replace h4 := (F0.n 4 (by decide)).trans h4
      replace h5 := (F0.n 5 (by decide)).trans h5
      replace h6 := (F0.n 6 (by decide)).trans h6
      replace h7 := (F0.n 7 (by decide)).trans h7
      replace h8 := (F0.n 8 (by decide)).trans h8
      replace h37 := (F0.n 37 (by decide)).trans h37
      have h38 := F0.s
      clear F0
      refine opL_store 3 (w' := (w5.setCell ⟨wa.heap.size, 1, none⟩ (.int .i64 d))) (by kernel_rfl) ?z681 ?z682
      case z681 => (intro o ho; obtain rfl := Option.some.inj ho; exact ⟨rfl, k_storeI rfl (ev_tmp h38) (ev_tmp h37) B6 (by simp)⟩)
      case z682 =>
      clear h37
      clear h38
      obtain ⟨w6, hww6⟩ : ∃ wn, wn = w5.setCell ⟨wa.heap.size, 1, none⟩ (.int .i64 d) := ⟨_, rfl⟩
      rw [← hww6]
      have C6 : Blk w6 wa.heap.size 23 #[.int .i64 n', .int .i64 d] := by rw [hww6]; exact B6.set 1 _
      have e6 : ∀ B, Exc B wa.heap.size w5 w6 := by rw [hww6]; exact exc_set w5 wa.heap.size 1 _
      clear hww6
      have C5 := B5.exc (e6 w5.heap.size) B5.lt (by omega)
      have C7 := B7.exc (e6 w5.heap.size) B7.lt (by omega)
      have C8 := B8.exc (e6 w5.heap.size) B8.lt (by omega)
      refine wp_region (show wpOps _ _ _ [0, 1, 2, 3, 4] _ _ from ?_)
      refine opL 0 39 (v := .pointer (some ⟨wx.heap.size, 1, none⟩)) (w' := w6) (by kernel_rfl) (by rw [hs]; decide) ?z683 ?z684
      case z683 => (intro o ho; obtain rfl := Option.some.inj ho; exact ⟨rfl, k_fieldR1 rfl (ev_tmp h8)⟩)
      case z684 =>
      intro a F0
      replace hs := F0.z.trans hs
      replace hd := F0.e.trans hd
      replace h4 := (F0.n 4 (by decide)).trans h4
      replace h5 := (F0.n 5 (by decide)).trans h5
      replace h6 := (F0.n 6 (by decide)).trans h6
      replace h7 := (F0.n 7 (by decide)).trans h7
      replace h8 := (F0.n 8 (by decide)).trans h8
      have h39 := F0.s
      clear F0
      refine opL 1 40 (v := .int .u8 I') (w' := w6) (by kernel_rfl) (by rw [hs]; decide) ?z685 ?z686
      case z685 => (intro o ho; obtain rfl := Option.some.inj ho; exact ⟨rfl, k_loadB rfl (ev_tmp h39) (C8.cell 1)⟩)
      case z686 =>
      intro a F0
      replace hs := F0.z.trans hs
      replace hd := F0.e.trans hd
      replace h4 := (F0.n 4 (by decide)).trans h4
      replace h5 := (F0.n 5 (by decide)).trans h5
      replace h6 := (F0.n 6 (by decide)).trans h6
      replace h7 := (F0.n 7 (by decide)).trans h7
      replace h8 := (F0.n 8 (by decide)).trans h8
      clear h39
      have h40 := F0.s
      clear F0
      refine opL 2 41 (v := .int .u8 (IntKind.u8.wrap (I' + 1))) (w' := w6) (by kernel_rfl) (by rw [hs]; decide) ?z687 ?z688
      case z687 => (intro o ho; obtain rfl := Option.some.inj ho; exact ⟨rfl, o_addB rfl (ev_tmp h40) rfl rfl⟩)
      case z688 =>
      intro a F0
      replace hs := F0.z.trans hs
      replace hd := F0.e.trans hd
      replace h4 := (F0.n 4 (by decide)).trans h4
      replace h5 := (F0.n 5 (by decide)).trans h5
      replace h6 := (F0.n 6 (by decide)).trans h6
      replace h7 := (F0.n 7 (by decide)).trans h7
      replace h8 := (F0.n 8 (by decide)).trans h8
      clear h40
      have h41 := F0.s
      clear F0
      refine opL 3 42 (v := .pointer (some ⟨wx.heap.size, 1, none⟩)) (w' := w6) (by kernel_rfl) (by rw [hs]; decide) ?z689 ?z690
      case z689 => (intro o ho; obtain rfl := Option.some.inj ho; exact ⟨rfl, k_fieldR1 rfl (ev_tmp h8)⟩)
      case z690 =>
      intro a F0
      replace hs := F0.z.trans hs
      replace hd := F0.e.trans hd
      replace h4 := (F0.n 4 (by decide)).trans h4
      replace h5 := (F0.n 5 (by decide)).trans h5
      replace h6 := (F0.n 6 (by decide)).trans h6
      replace h7 := (F0.n 7 (by decide)).trans h7
      replace h8 := (F0.n 8 (by decide)).trans h8
      replace h41 := (F0.n 41 (by decide)).trans h41
      have h42 := F0.s
      clear F0
      refine opL_store 4 (w' := (w6.setCell ⟨wx.heap.size, 1, none⟩ (.int .u8 (IntKind.u8.wrap (I' + 1))))) (by kernel_rfl) ?z691 ?z692
      case z691 => (intro o ho; obtain rfl := Option.some.inj ho; exact ⟨rfl, k_storeB rfl (ev_tmp h42) (ev_tmp h41) C8 (by simp)⟩)
      case z692 =>
      clear h41
      clear h42
      obtain ⟨w7, hww7⟩ : ∃ wn, wn = w6.setCell ⟨wx.heap.size, 1, none⟩ (.int .u8 (IntKind.u8.wrap (I' + 1))) := ⟨_, rfl⟩
      rw [← hww7]
      have D8 : Blk w7 wx.heap.size 31 #[.int .u8 F', .int .u8 (IntKind.u8.wrap (I' + 1)), .int .u8 E', .int .u16 C', .int .u32 U', .slice AM' lm'.length cM', .slice AD' ld'.length cD', .slice AW' lw'.length cW', .slice AP' lp'.length cP'] := by rw [hww7]; exact C8.set 1 _
      have e7 : ∀ B, Exc B wx.heap.size w6 w7 := by rw [hww7]; exact exc_set w6 wx.heap.size 1 _
      clear hww7
      have D5 := C5.exc (e7 w6.heap.size) C5.lt (by omega)
      have D6 := C6.exc (e7 w6.heap.size) C6.lt (by omega)
      have D7 := C7.exc (e7 w6.heap.size) C7.lt (by omega)
      have m7 := m5.trans (((e6 w.heap.size).below (by omega)).trans ((e7 w.heap.size).below (by omega)))
      have Yg : XIn w F' (IntKind.u8.wrap (I' + 1)) E' C' U' AM' AD' AW' AP' lm' ld' lw' lp' := ⟨Yf.bF, u8_wrap _, Yf.bE, Yf.bC, Yf.bU, Yf.m, Yf.d, Yf.k, Yf.p, Yf.bm, Yf.bd, Yf.bk, Yf.bp, Yf.lm1, Yf.ld1, Yf.lw1, Yf.lp1⟩
      exact ⟨hd, hs, h4, h5, h6, h7, h8, D5, ⟨_, _, D6⟩, D7, ⟨F', _, E', C', U', AM', AD', AW', AP', cM', cD', cW', cP', lm', ld', lw', lp', D8, Yg⟩, m7⟩
  case z674 =>
  clear hs hd B5 B6 B7 B8 m5 Yf h4 h5 h6 h7 h8 h35
  rintro a w8 ⟨hd, hs, h4, h5, h6, h7, h8, B5, ⟨n', d', B6⟩, B7, ⟨F', I', E', C', U', AM', AD', AW', AP', cM', cD', cW', cP', lm', ld', lw', lp', B8, Yf⟩, m8⟩
  refine wp_seq ?_
  refine wp_region (show wpOps _ _ _ [0, 1, 2, 3] _ _ from ?_)
  refine opL 0 43 (v := .agg #[.int .i64 n, .int .i64 d]) (w' := w8) (by kernel_rfl) (by rw [hs]; decide) ?z693 ?z694
  case z693 => (intro o ho; obtain rfl := Option.some.inj ho; exact ⟨rfl, k_loadNs rfl (ev_tmp h5) B5⟩)
  case z694 =>
  intro a F0
  replace hs := F0.z.trans hs
  replace hd := F0.e.trans hd
  replace h4 := (F0.n 4 (by decide)).trans h4
  replace h5 := (F0.n 5 (by decide)).trans h5
  replace h6 := (F0.n 6 (by decide)).trans h6
  replace h7 := (F0.n 7 (by decide)).trans h7
  replace h8 := (F0.n 8 (by decide)).trans h8
  have h43 := F0.s
  clear F0
  refine opL 1 44 (v := .agg #[.int .i64 n', .int .i64 d']) (w' := w8) (by kernel_rfl) (by rw [hs]; decide) ?z695 ?z696
  case z695 => (intro o ho; obtain rfl := Option.some.inj ho; exact ⟨rfl, k_loadNs rfl (ev_tmp h6) B6⟩)
  case z696 =>
  intro a F0
  replace hs := F0.z.trans hs
  replace hd := F0.e.trans hd
  replace h4 := (F0.n 4 (by decide)).trans h4
  replace h5 := (F0.n 5 (by decide)).trans h5
  replace h6 := (F0.n 6 (by decide)).trans h6
  replace h7 := (F0.n 7 (by decide)).trans h7
  replace h8 := (F0.n 8 (by decide)).trans h8
  replace h43 := (F0.n 43 (by decide)).trans h43
  have h44 := F0.s
  clear F0
  have hc := order_any' n d n' d' w8
  have hx := fun ops Q rest d a i h1 h2 h3 => opL_call (P := Tryd.prog) (ops := ops) (Q := Q) (a := a) (w := w8) (rest := rest) i d h1 h2 h3 hc
  refine hx _ _ _ 45 _ 2 ?z697a ?z697b ?z697 ?z698
  case z697a => kernel_rfl
  case z697b => (rw [hs]; decide)
  case z697 => (intro o ho; obtain rfl := Option.some.inj ho; exact ⟨rfl, c_Order rfl rfl (ev_tmp h43) (ev_tmp h44)⟩)
  case z698 =>
  rintro _ w9 a ⟨rfl, l9⟩ F0
  replace hs := F0.z.trans hs
  replace hd := F0.e.trans hd
  replace h4 := (F0.n 4 (by decide)).trans h4
  replace h5 := (F0.n 5 (by decide)).trans h5
  replace h6 := (F0.n 6 (by decide)).trans h6
  replace h7 := (F0.n 7 (by decide)).trans h7
  replace h8 := (F0.n 8 (by decide)).trans h8
  clear h43
  clear h44
  have h45 := F0.s
  clear F0
  clear hx hc
  replace B5 := B5.below l9 B5.lt
  replace B6 := B6.below l9 B6.lt
  replace B7 := B7.below l9 B7.lt
  replace B8 := B8.below l9 B8.lt
  have m9 := m8.trans (l9.mono m8.size)
  clear m8 l9
  refine opL 3 11 (v := .int .i64 (Rul.cmpN (n, d) (n', d'))) (w' := w9) (by kernel_rfl) (by rw [hs]; decide) ?z699 ?z700
  case z699 => (intro o ho; obtain rfl := Option.some.inj ho; exact ⟨rfl, k_assign rfl (ev_tmp h45)⟩)
  case z700 =>
  intro a F0
  replace hs := F0.z.trans hs
  replace hd := F0.e.trans hd
  replace h4 := (F0.n 4 (by decide)).trans h4
  replace h5 := (F0.n 5 (by decide)).trans h5
  replace h6 := (F0.n 6 (by decide)).trans h6
  replace h7 := (F0.n 7 (by decide)).trans h7
  replace h8 := (F0.n 8 (by decide)).trans h8
  clear h45
  have h11 := F0.s
  clear F0
  refine wp_seq ?_
  refine regOrd11 a w9 _ _ _ _ _ n d n' d' _ _ hd hs h5 h6 h7 h8 h11 B5 B6 ?_
  intro a' e1 e2 e3 e4 e5 e6 e7 e8
  clear hs hd h4 h5 h6 h7 h8 h11
  refine wp_seq ?_
  have hx := fun Q hQ => regOrd12 a' w9 Q hQ _ _ _ _ F I E C U AM AD AW AP cM cD cW cP lm ld lw lp F' I' E' C' U' AM' AD' AW' AP' cM' cD' cW' cP' lm' ld' lw' lp' _ _ _ e2 e1 e3 e4 e5 e6 e7 e8 B7 B8 ((hX.full hlx).below m9) (Yf.below m9)
  refine hx _ ?z701 ?z702
  case z701 => (repeat (first | exact hQ | refine blind_then ?_ | refine blind_block ?_))
  case z702 =>
  clear hx e1 e2 e3 e4 e5 e6 e7 e8
  intro a wd bp bq A1 A2 A3 A4 B1 B2 B3 B4 c1 c2 c3 c4 d1 d2 d3 d4 hs hd h5 h6 h7 h11 h12 h13 h14 Bp Bq Hp Hq ldd
  replace B5 := B5.below ldd B5.lt
  replace B6 := B6.below ldd B6.lt
  replace B7 := B7.below ldd B7.lt
  have md := m9.trans (ldd.mono m9.size)
  refine wp_seq ?_
  refine regOrd13 a wd _ _ _ _ _ _ _ _ _ _ _ _ _ _ _ _ _ _ _ _ _ _ _ _ _ _ _ _ _ _ _ _ _ _ _ _ _ _ _ _ _ hd hs h5 h6 h7 h11 h12 h13 h14 Bp Bq Hp Hq ?_
  intro a' we e1 e2 e3 e4 e5 e6 e7 e8 e9 e10 le
  replace B5 := B5.below le B5.lt
  replace B6 := B6.below le B6.lt
  replace B7 := B7.below le B7.lt
  replace Bp := Bp.below le Bp.lt
  replace Bq := Bq.below le Bq.lt
  replace Hp := Hp.below le
  replace Hq := Hq.below le
  have me := md.trans (le.mono md.size)
  refine wp_seq ?_
  have hx := fun Q hQ => regOrd14 a' we Q hQ _ _ _ _ _ n d n' d' F I E C U AM AD AW AP cM cD cW cP lm ld lw lp F' I' E' C' U' lm' ld' lw' lp' A1 A2 A3 A4 B1 B2 B3 B4 c1 c2 c3 c4 d1 d2 d3 d4 _ e2 e1 e3 e4 e5 e6 e7 e8 e9 e10 B5 B6 B7 Bp Bq Hp Hq ((hX.full hlx).below me)
  refine hx _ ?z703 ?z704
  case z703 => (repeat (first | exact hQ | refine blind_then ?_ | refine blind_block ?_))
  case z704 =>
  intro a'' wf f1 f2 lf
  refine wp_ret ?_
  exact hfin a'' wf f1 f2 (me.trans (lf.mono me.size))


theorem ruleOrders_walk (n d n' d' : Int) (F I E C U : Int) (AM AD AW AP : Option Addr) (cM cD cW cP : Nat) (lm ld : List Int) (lw : List (Int × Int)) (lp : List Int) (F' I' E' C' U' : Int) (AM' AD' AW' AP' : Option Addr) (cM' cD' cW' cP' : Nat) (lm' ld' : List Int) (lw' : List (Int × Int)) (lp' : List Int) (sm : Int) (w : World) (hM : Months w) (_ : -9223372036854775808 ≤ n ∧ n ≤ 9223372036854775807) (_ : -9223372036854775808 ≤ d ∧ d ≤ 9223372036854775807) (_ : -9223372036854775808 ≤ n' ∧ n' ≤ 9223372036854775807) (_ : -9223372036854775808 ≤ d' ∧ d' ≤ 9223372036854775807) (hX : XIn0 w F I E C U AM AD AW AP lm ld lw lp) (hY : XIn0 w F' I' E' C' U' AM' AD' AW' AP' lm' ld' lw' lp') (_ : 0 ≤ sm ∧ sm ≤ 255) :
    Calls Tryd.prog 3 #[.agg #[.int .i64 n, .int .i64 d], .agg #[.int .i64 n', .int .i64 d'], .agg #[.int .u8 F, .int .u8 I, .int .u8 E, .int .u16 C, .int .u32 U, .slice AM lm.length cM, .slice AD ld.length cD, .slice AW lw.length cW, .slice AP lp.length cP], .agg #[.int .u8 F', .int .u8 I', .int .u8 E', .int .u16 C', .int .u32 U', .slice AM' lm'.length cM', .slice AD' ld'.length cD', .slice AW' lw'.length cW', .slice AP' lp'.length cP'], .int .u8 sm] w fun e w' => e = .returned (.bool true) ∧ Below w.heap.size w w' := by
  cases hlx : light lm ld lw lp
  · exact ruleOrders_heavyx n d n' d' F I E C U AM AD AW AP cM cD cW cP lm ld lw lp F' I' E' C' U' AM' AD' AW' AP' cM' cD' cW' cP' lm' ld' lw' lp' sm w hM hX hY hlx
  · cases hly : light lm' ld' lw' lp'
    · exact ruleOrders_heavyy n d n' d' F I E C U AM AD AW AP cM cD cW cP lm ld lw lp F' I' E' C' U' AM' AD' AW' AP' cM' cD' cW' cP' lm' ld' lw' lp' sm w hM hX hY hlx hly
    · exact ruleOrders_light n d n' d' F I E C U AM AD AW AP cM cD cW cP lm ld lw lp F' I' E' C' U' AM' AD' AW' AP' cM' cD' cW' cP' lm' ld' lw' lp' sm w hM hX hY hlx hly
end Go.Proofs.YtfhhlebadmkckaaDoor
