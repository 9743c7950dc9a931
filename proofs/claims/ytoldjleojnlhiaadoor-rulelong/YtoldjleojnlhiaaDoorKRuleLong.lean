/-
  The walk of the law RuleLong, out of the contracts.
-/
import Derived.Test.YtoldjleojnlhiaaDoorLong1
namespace Go.Proofs.YtoldjleojnlhiaaDoor
open Go.RowKit
theorem OwnI.here {w : World} {base : Nat} {A : Option Addr} {cap : Nat} {L : List Int} (h : OwnI w base (.slice A L.length cap) L) : L.length ≤ maxLen ∧ IntsIn w A L := by
  obtain ⟨A', c', e, h1, -, h3⟩ := h.ints
  obtain ⟨rfl, -, -⟩ := Value.slice.inj e
  exact ⟨h1, h3⟩
theorem OwnN.here {w : World} {base : Nat} {A : Option Addr} {cap : Nat} {L : List (Int × Int)} (h : OwnN w base (.slice A L.length cap) L) : L.length ≤ maxLen ∧ NthsIn w A L := by
  obtain ⟨A', c', e, h1, -, h3⟩ := h.nths
  obtain ⟨rfl, -, -⟩ := Value.slice.inj e
  exact ⟨h1, h3⟩
theorem Blk.one {w : World} {m : Nat} (h : Blk w m 3 #[.int .i64 1]) : IntsIn w (some ⟨m, 0, none⟩) [1] := fun k hk => by
  obtain rfl : k = 0 := by simpa using hk
  exact ⟨_, rfl, h.lt, h.cell 0⟩
noncomputable def longBody : Code := Tryd.f5.body.getD .skip
set_option maxRecDepth 100000 in
set_option maxHeartbeats 1000000 in
theorem ruleLong_walk (n what : Int) (w : World) (hM : Months w) (hn : 0 ≤ n ∧ n ≤ 255) (hw : 0 ≤ what ∧ what ≤ 255) :
    Calls Tryd.prog 5 #[.int .u8 n, .int .u8 what] w fun e w' => e = .returned (.bool true) ∧ Below w.heap.size w w' := by
  obtain ⟨n0, n1⟩ := hn
  obtain ⟨w0', w1'⟩ := hw
  have eT : n.tmod 9 = n % 9 := Int.tmod_eq_emod_of_nonneg n0
  refine calls_of_wp Tryd.func5 (show Tryd.f5.body = some longBody from rfl) ?_
  generalize hA : (Act.mk (#[.int .u8 n, .int .u8 what] ++ Array.replicate (Tryd.f5.ntmps - (#[.int .u8 n, .int .u8 what] : Array Value).size) undef) []) = a
  have hs : a.tmps.size = 64 := by rw [← hA]; simp [Tryd.ntmps5]
  have hd : a.defers = [] := by rw [← hA]
  have h0 : a.tmps.getD 0 undef = .int .u8 n := by rw [← hA]; simp
  have h1 : a.tmps.getD 1 undef = .int .u8 what := by rw [← hA]; simp
  clear hA
  refine Code.wp_mono NoPanic.imp ?_
  have hQ : Blind (NoPanic (bodyPost Tryd.prog Tryd.f5 fun e w' => e = .returned (.bool true) ∧ Below w.heap.size w w')) := fun _ _ _ _ q => q.elim
  have hfin : ∀ a' w', a'.defers = [] → a'.tmps.getD 4 undef = .bool true → Below w.heap.size w w' → NoPanic (bodyPost Tryd.prog Tryd.f5 fun e w' => e = .returned (.bool true) ∧ Below w.heap.size w w') .ret a' w' := by
    intro a' w' k1 k2 k4
    exact ⟨k1, _, results_tmp rfl _ _ _, by rw [k2], k4⟩
  generalize NoPanic (bodyPost Tryd.prog Tryd.f5 fun e w' => e = .returned (.bool true) ∧ Below w.heap.size w w') = Q at hQ hfin
  unfold longBody
  conv => arg 2; whnf
  refine wp_seq ?_
  refine wp_region (show wpOps _ _ _ [0] _ _ from ?_)
  refine opL 0 4 (v := .bool false) (w' := w) (by kernel_rfl) (by rw [hs]; decide) ?z1 ?z2
  case z1 => (intro o ho; obtain rfl := Option.some.inj ho; exact ⟨rfl, k_assign rfl rfl⟩)
  case z2 =>
  intro a F0
  replace hs := F0.z.trans hs
  replace hd := F0.e.trans hd
  replace h0 := (F0.n 0 (by decide)).trans h0
  replace h1 := (F0.n 1 (by decide)).trans h1
  have h4 := F0.s
  clear F0
  refine wp_seq ?_
  refine wp_seq ?_
  refine wp_region (show wpOps _ _ _ [0, 1] _ _ from ?_)
  refine opL_call 0 7 (f := 9) (args := #[]) (R := fun v w' => v = .bool true ∧ Below w.heap.size w w') (by kernel_rfl) (by rw [hs]; decide) ?z3 (awake2' w hM) ?z4
  case z3 => (intro o ho; obtain rfl := Option.some.inj ho; exact ⟨rfl, k_callAwake rfl rfl⟩)
  case z4 =>
  rintro _ wa a ⟨rfl, ba⟩ F0
  replace hs := F0.z.trans hs
  replace hd := F0.e.trans hd
  replace h0 := (F0.n 0 (by decide)).trans h0
  replace h1 := (F0.n 1 (by decide)).trans h1
  clear h4
  have h7 := F0.s
  clear F0
  refine opL 1 8 (v := .bool false) (w' := wa) (by kernel_rfl) (by rw [hs]; decide) ?z5 ?z6
  case z5 => (intro o ho; obtain rfl := Option.some.inj ho; exact ⟨rfl, o_not rfl (ev_tmp h7) rfl⟩)
  case z6 =>
  intro a F0
  replace hs := F0.z.trans hs
  replace hd := F0.e.trans hd
  replace h0 := (F0.n 0 (by decide)).trans h0
  replace h1 := (F0.n 1 (by decide)).trans h1
  clear h7
  have h8 := F0.s
  clear F0
  refine wp_cond_false (ev_tmp h8) ?_
  refine wp_skip ?_
  refine wp_seq ?_
  refine wp_region (show wpOps _ _ _ [0, 1, 2, 3] _ _ from ?_)
  refine opL 0 9 (v := .slice (some ⟨wa.heap.size, 0, none⟩) 1 1) (w' := (wa.alloc (.cells #[.int .i64 1] 3))) (by kernel_rfl) (by rw [hs]; decide) ?z7 ?z8
  case z7 => (intro o ho; obtain rfl := Option.some.inj ho; exact ⟨rfl, k_slice1 rfl rfl⟩)
  case z8 =>
  intro a F0
  replace hs := F0.z.trans hs
  replace hd := F0.e.trans hd
  replace h0 := (F0.n 0 (by decide)).trans h0
  replace h1 := (F0.n 1 (by decide)).trans h1
  replace h8 := (F0.n 8 (by decide)).trans h8
  have h9 := F0.s
  clear F0
  obtain ⟨wb, hwb⟩ : ∃ w1, w1 = wa.alloc (.cells #[.int .i64 1] 3) := ⟨_, rfl⟩
  rw [← hwb]
  have qb : Blk wb wa.heap.size 3 #[.int .i64 1] := by rw [hwb]; exact Blk.alloc _ _ _
  have lb : Below wa.heap.size wa wb := by rw [hwb]; exact (Below.refl _ _).alloc (Nat.le_refl _) _
  have zb : wb.heap.size = wa.heap.size + 1 := by rw [hwb]; simp
  clear hwb
  refine opL 1 10 (v := .agg #[.int .i64 3, .int .i64 1, .int .i64 0, .int .i64 0, .slice (some ⟨wa.heap.size, 0, none⟩) 1 1, .slice none 0 0, .slice none 0 0, .slice none 0 0]) (w' := wb) (by kernel_rfl) (by rw [hs]; decide) ?z9 ?z10
  case z9 => (intro o ho; obtain rfl := Option.some.inj ho; exact ⟨rfl, k_buildR3 rfl rfl rfl (ev_tmp h9)⟩)
  case z10 =>
  intro a F0
  replace hs := F0.z.trans hs
  replace hd := F0.e.trans hd
  replace h0 := (F0.n 0 (by decide)).trans h0
  replace h1 := (F0.n 1 (by decide)).trans h1
  replace h8 := (F0.n 8 (by decide)).trans h8
  clear h9
  have h10 := F0.s
  clear F0
  refine opL 2 5 (v := .pointer (some ⟨wb.heap.size, 0, none⟩)) (w' := (wb.alloc (.cells #[.int .i64 0, .int .i64 0, .int .i64 0, .int .i64 0, .slice none 0 0, .slice none 0 0, .slice none 0 0, .slice none 0 0] 38))) (by kernel_rfl) (by rw [hs]; decide) ?z11 ?z12
  case z11 => (intro o ho; obtain rfl := Option.some.inj ho; exact ⟨rfl, k_allocR rfl⟩)
  case z12 =>
  intro a F0
  replace hs := F0.z.trans hs
  replace hd := F0.e.trans hd
  replace h0 := (F0.n 0 (by decide)).trans h0
  replace h1 := (F0.n 1 (by decide)).trans h1
  replace h8 := (F0.n 8 (by decide)).trans h8
  replace h10 := (F0.n 10 (by decide)).trans h10
  have h5 := F0.s
  clear F0
  obtain ⟨wc, hwc⟩ : ∃ w1, w1 = wb.alloc (.cells #[.int .i64 0, .int .i64 0, .int .i64 0, .int .i64 0, .slice none 0 0, .slice none 0 0, .slice none 0 0, .slice none 0 0] 38) := ⟨_, rfl⟩
  rw [← hwc]
  have qc : Blk wc wb.heap.size 38 #[.int .i64 0, .int .i64 0, .int .i64 0, .int .i64 0, .slice none 0 0, .slice none 0 0, .slice none 0 0, .slice none 0 0] := by rw [hwc]; exact Blk.alloc _ _ _
  have lc : Below wb.heap.size wb wc := by rw [hwc]; exact (Below.refl _ _).alloc (Nat.le_refl _) _
  have zc : wc.heap.size = wb.heap.size + 1 := by rw [hwc]; simp
  clear hwc
  refine opL_store 3 (w' := (wc.setRow wb.heap.size #[.int .i64 3, .int .i64 1, .int .i64 0, .int .i64 0, .slice (some ⟨wa.heap.size, 0, none⟩) 1 1, .slice none 0 0, .slice none 0 0, .slice none 0 0])) (by kernel_rfl) ?z13 ?z14
  case z13 => (intro o ho; obtain rfl := Option.some.inj ho; exact ⟨rfl, k_storeR rfl (ev_tmp h5) (ev_tmp h10) qc rfl rfl (by simp [Value.oneCell'])⟩)
  case z14 =>
  clear h10
  obtain ⟨wd, hwd⟩ : ∃ w1, w1 = wc.setRow wb.heap.size #[.int .i64 3, .int .i64 1, .int .i64 0, .int .i64 0, .slice (some ⟨wa.heap.size, 0, none⟩) 1 1, .slice none 0 0, .slice none 0 0, .slice none 0 0] := ⟨_, rfl⟩
  rw [← hwd]
  have hB : Blk wd wb.heap.size 38 #[.int .i64 3, .int .i64 1, .int .i64 0, .int .i64 0, .slice (some ⟨wa.heap.size, 0, none⟩) 1 1, .slice none 0 0, .slice none 0 0, .slice none 0 0] := by rw [hwd]; exact qc.setRow
  have ed : ∀ B, Exc B wb.heap.size wc wd := by rw [hwd]; exact exc_setRow wc _ _
  have zd : wd.heap.size = wc.heap.size := by rw [hwd]; simp [World.setRow]
  clear hwd
  refine wp_seq ?_
  refine wp_seq ?_
  refine wp_region (show wpOps _ _ _ [0, 1, 2, 3, 4] _ _ from ?_)
  refine opL 0 11 (v := .int .u8 n) (w' := wd) (by kernel_rfl) (by rw [hs]; decide) ?z15 ?z16
  case z15 => (intro o ho; obtain rfl := Option.some.inj ho; exact ⟨rfl, k_move rfl (ev_tmp h0)⟩)
  case z16 =>
  intro a F0
  replace hs := F0.z.trans hs
  replace hd := F0.e.trans hd
  replace h0 := (F0.n 0 (by decide)).trans h0
  replace h1 := (F0.n 1 (by decide)).trans h1
  replace h8 := (F0.n 8 (by decide)).trans h8
  replace h5 := (F0.n 5 (by decide)).trans h5
  have h11 := F0.s
  clear F0
  refine opL 1 12 (v := .int .u8 (n.tmod 9)) (w' := wd) (by kernel_rfl) (by rw [hs]; decide) ?z17 ?z18
  case z17 => (intro o ho; obtain rfl := Option.some.inj ho; exact ⟨rfl, o_remB rfl (ev_tmp h11) rfl (by decide) rfl⟩)
  case z18 =>
  intro a F0
  replace hs := F0.z.trans hs
  replace hd := F0.e.trans hd
  replace h0 := (F0.n 0 (by decide)).trans h0
  replace h1 := (F0.n 1 (by decide)).trans h1
  replace h8 := (F0.n 8 (by decide)).trans h8
  replace h5 := (F0.n 5 (by decide)).trans h5
  clear h11
  have h12 := F0.s
  clear F0
  refine opL 2 13 (v := .int .i64 (n.tmod 9)) (w' := wd) (by kernel_rfl) (by rw [hs]; decide) ?z19 ?z20
  case z19 => (intro o ho; obtain rfl := Option.some.inj ho; exact ⟨rfl, o_convBI rfl (ev_tmp h12) (wrap_small (by omega) (by omega))⟩)
  case z20 =>
  intro a F0
  replace hs := F0.z.trans hs
  replace hd := F0.e.trans hd
  replace h0 := (F0.n 0 (by decide)).trans h0
  replace h1 := (F0.n 1 (by decide)).trans h1
  replace h8 := (F0.n 8 (by decide)).trans h8
  replace h5 := (F0.n 5 (by decide)).trans h5
  clear h12
  have h13 := F0.s
  clear F0
  refine opL 3 14 (v := .int .i64 (60 + n.tmod 9)) (w' := wd) (by kernel_rfl) (by rw [hs]; decide) ?z21 ?z22
  case z21 => (intro o ho; obtain rfl := Option.some.inj ho; exact ⟨rfl, o_addI rfl rfl (ev_tmp h13) (wrap_small (by omega) (by omega))⟩)
  case z22 =>
  intro a F0
  replace hs := F0.z.trans hs
  replace hd := F0.e.trans hd
  replace h0 := (F0.n 0 (by decide)).trans h0
  replace h1 := (F0.n 1 (by decide)).trans h1
  replace h8 := (F0.n 8 (by decide)).trans h8
  replace h5 := (F0.n 5 (by decide)).trans h5
  clear h13
  have h14 := F0.s
  clear F0
  refine opL 4 15 (v := .int .i64 0) (w' := wd) (by kernel_rfl) (by rw [hs]; decide) ?z23 ?z24
  case z23 => (intro o ho; obtain rfl := Option.some.inj ho; exact ⟨rfl, k_move rfl rfl⟩)
  case z24 =>
  intro a F0
  replace hs := F0.z.trans hs
  replace hd := F0.e.trans hd
  replace h0 := (F0.n 0 (by decide)).trans h0
  replace h1 := (F0.n 1 (by decide)).trans h1
  replace h8 := (F0.n 8 (by decide)).trans h8
  replace h5 := (F0.n 5 (by decide)).trans h5
  replace h14 := (F0.n 14 (by decide)).trans h14
  have h15 := F0.s
  clear F0
  refine wp_block ?_
  have hm1 : Blk wd wa.heap.size 3 #[.int .i64 1] := ((qb.below lc (by omega)).exc (ed wc.heap.size) (by omega) (by omega))
  have Ball : Below w.heap.size w wd := (ba.trans ((lb.mono ba.size).trans (lc.mono (by have := ba.size; omega)))).trans ((ed w.heap.size).below (by have := ba.size; omega))
  have k3 : what.tmod 3 = 0 ∨ what.tmod 3 = 1 ∨ what.tmod 3 = 2 := by rw [Int.tmod_eq_emod_of_nonneg w0']; omega
  have zz := ba.size
  rcases k3 with k3 | k3 | k3
  · refine wp_loop (LInv0 wd wb.heap.size wa.heap.size wd.heap.size what (60 + n.tmod 9)) (fun a _ => ((60 + n.tmod 9) - intOf (a.tmps.getD 15 undef)).toNat) ⟨0, none, 0, [], ⟨hd, hs, h1, h5, h14, h15, by omega, by omega, hB, hm1, OwnI.nil _ _, by simp, Exc.refl _ _ _, Nat.le_refl _⟩⟩ ?_
    clear hs hd h0 h1 h5 h8 h14 h15 hB hm1 a
    intro a wx hI
    refine long_round0 wd wb.heap.size wa.heap.size wd.heap.size what (60 + n.tmod 9) (by omega) (by omega) (by omega) (by omega) k3 a wx _ (blind_block (blind_then hQ)) hI ?_
    intro i A cap L J _ a' hd' hs' h5'
    change Code.wp _ _ _ _ _
    refine wp_seq ?_
    refine twoLong a' wx _ (blind_then hQ) wb.heap.size 3 1 0 0 (some ⟨wa.heap.size, 0, none⟩) A none none 1 cap 0 0 [1] L [] [] hs' h5' J.B.rule ⟨J.M.one, J.o.here.2, (nths_nil _ _), (ints_nil _ _), by simp [maxLen], J.o.here.1, (Nat.zero_le _), (Nat.zero_le _)⟩ ?_
    intro a2 w2 h4 hd2 hb2
    refine wp_ret ?_
    have bx := (J.e.mono (B := w.heap.size) (by omega)).below (by omega)
    have zx := J.e.size
    exact hfin a2 w2 (hd2.trans hd') h4 ((Ball.trans bx).trans (hb2.mono (by omega)))
  · refine wp_loop (LInv1 wd wb.heap.size wa.heap.size wd.heap.size what (60 + n.tmod 9)) (fun a _ => ((60 + n.tmod 9) - intOf (a.tmps.getD 15 undef)).toNat) ⟨0, none, 0, [], ⟨hd, hs, h1, h5, h14, h15, by omega, by omega, hB, hm1, OwnN.nil _ _, by simp, Exc.refl _ _ _, Nat.le_refl _⟩⟩ ?_
    clear hs hd h0 h1 h5 h8 h14 h15 hB hm1 a
    intro a wx hI
    refine long_round1 wd wb.heap.size wa.heap.size wd.heap.size what (60 + n.tmod 9) (by omega) (by omega) (by omega) (by omega) k3 a wx _ hI ?_
    intro i A cap L J _ a' hd' hs' h5'
    change Code.wp _ _ _ _ _
    refine wp_seq ?_
    refine twoLong a' wx _ (blind_then hQ) wb.heap.size 3 1 0 0 (some ⟨wa.heap.size, 0, none⟩) none A none 1 0 cap 0 [1] [] L [] hs' h5' J.B.rule ⟨J.M.one, (ints_nil _ _), J.o.here.2, (ints_nil _ _), by simp [maxLen], (Nat.zero_le _), J.o.here.1, (Nat.zero_le _)⟩ ?_
    intro a2 w2 h4 hd2 hb2
    refine wp_ret ?_
    have bx := (J.e.mono (B := w.heap.size) (by omega)).below (by omega)
    have zx := J.e.size
    exact hfin a2 w2 (hd2.trans hd') h4 ((Ball.trans bx).trans (hb2.mono (by omega)))
  · refine wp_loop (LInv2 wd wb.heap.size wa.heap.size wd.heap.size what (60 + n.tmod 9)) (fun a _ => ((60 + n.tmod 9) - intOf (a.tmps.getD 15 undef)).toNat) ⟨0, none, 0, [], ⟨hd, hs, h1, h5, h14, h15, by omega, by omega, hB, hm1, OwnI.nil _ _, by simp, Exc.refl _ _ _, Nat.le_refl _⟩⟩ ?_
    clear hs hd h0 h1 h5 h8 h14 h15 hB hm1 a
    intro a wx hI
    refine long_round2 wd wb.heap.size wa.heap.size wd.heap.size what (60 + n.tmod 9) (by omega) (by omega) (by omega) (by omega) k3 a wx _ hI ?_
    intro i A cap L J _ a' hd' hs' h5'
    change Code.wp _ _ _ _ _
    refine wp_seq ?_
    refine twoLong a' wx _ (blind_then hQ) wb.heap.size 3 1 0 0 (some ⟨wa.heap.size, 0, none⟩) none none A 1 0 0 cap [1] [] [] L hs' h5' J.B.rule ⟨J.M.one, (ints_nil _ _), (nths_nil _ _), J.o.here.2, by simp [maxLen], (Nat.zero_le _), (Nat.zero_le _), J.o.here.1⟩ ?_
    intro a2 w2 h4 hd2 hb2
    refine wp_ret ?_
    have bx := (J.e.mono (B := w.heap.size) (by omega)).below (by omega)
    have zx := J.e.size
    exact hfin a2 w2 (hd2.trans hd') h4 ((Ball.trans bx).trans (hb2.mono (by omega)))
end Go.Proofs.YtoldjleojnlhiaaDoor
