/-
  Chapter 3's example: the law's Awake.
-/
import Derived.Test.YtocpmljkmdpfkaaGreatDoorRg6
import Derived.Test.YtocpmljkmdpfkaaGreatDoorOrdg
namespace Go.Proofs.YtocpmljkmdpfkaaGreatDoor
open Go.RowKit
namespace Rfc
theorem ck_ex : Rul.check 2 1 0 0 [] [] [(-1, 4)] [] = 0 := by
  have hl : ∀ {α : Type} (p : α → Bool) (c : α → α → Int), Rul.chkL p c [] = 0 := fun p c => by rw [Rul.chkL_short (by simp), Rul.step_end (by simp)]
  have hw : Rul.chkL (Rul.inW 2) Rul.cmpN [(-1, 4)] = 0 := by rw [Rul.chkL_short (by simp), Rul.step_first (by simp) (by decide), Rul.step_end (by simp)]
  unfold Rul.check Rul.lists
  rw [hl, hl, hw, hl]
  decide
theorem itoa_m1 : Lib.itoa (-1) = [45, 49] := by
  have h := Lib.itoa_neg 1 (by omega)
  rw [Lib.decDigits_one (by omega)] at h
  exact h
theorem pnum_m1 : pnum [45, 49] = some (-1) := by
  rw [pnum_ok (show Lib.atoiAll [45, 49] = .ok (-1) by decide +kernel), if_pos itoa_m1]
theorem pw_m1 : pw [45, 49, 70, 82] = some (-1, 4) := by
  have h : pwd [45, 49, 70, 82] = ((-1, 4), true) := by
    unfold pwd
    rw [pwdF, if_neg (by decide +kernel), pwdF, if_neg (by decide +kernel), pwdF, if_neg (by decide +kernel), pwdF, if_neg (by decide +kernel), pwdF, if_pos (by decide +kernel), if_neg (by decide +kernel)]
    rw [show Lib.trimSuffix [45, 49, 70, 82] (wd (0 + 1 + 1 + 1 + 1)) = [45, 49] by decide +kernel]
    have hz : pnz [45, 49] = some (-1) := by
      unfold pnz
      rw [pnum_m1]
      rfl
    rw [hz]
    rfl
  unfold pw
  rw [h]
  rfl
theorem parse_ex : parse [70, 82, 69, 81, 61, 77, 79, 78, 84, 72, 76, 89, 59, 66, 89, 68, 65, 89, 61, 45, 49, 70, 82] = .go (⟨2, 1, 0, 0, [], [], [(-1, 4)], []⟩ : Rfc.Ru) [true, false, false, false, false, false, true, false] := by
  have e1 : spl [70, 82, 69, 81, 61, 77, 79, 78, 84, 72, 76, 89, 59, 66, 89, 68, 65, 89, 61, 45, 49, 70, 82] 59 = [[70, 82, 69, 81, 61, 77, 79, 78, 84, 72, 76, 89], [66, 89, 68, 65, 89, 61, 45, 49, 70, 82]] := by decide +kernel
  have c1 : Lib.cut [70, 82, 69, 81, 61, 77, 79, 78, 84, 72, 76, 89] [61] = ([70, 82, 69, 81], [77, 79, 78, 84, 72, 76, 89], true) := by decide +kernel
  have c2 : Lib.cut [66, 89, 68, 65, 89, 61, 45, 49, 70, 82] [61] = ([66, 89, 68, 65, 89], [45, 49, 70, 82], true) := by decide +kernel
  have p1 : part [70, 82, 69, 81] = some 0 := by decide +kernel
  have p2 : part [66, 89, 68, 65, 89] = some 6 := by decide +kernel
  have f1 : pfreq [77, 79, 78, 84, 72, 76, 89] = some 2 := by decide +kernel
  have l1 : plistN [45, 49, 70, 82] = some [(-1, 4)] := by
    unfold plistN
    rw [show spl [45, 49, 70, 82] 44 = [[45, 49, 70, 82]] by decide +kernel]
    simp [mm, pw_m1]
  have s1 : stepP [70, 82, 69, 81, 61, 77, 79, 78, 84, 72, 76, 89] ⟨0, 1, 0, 0, [], [], [], []⟩ (List.replicate 8 false) = .go ⟨2, 1, 0, 0, [], [], [], []⟩ [true, false, false, false, false, false, false, false] := by
    unfold stepP
    rw [c1]
    simp [p1, setF, f1, List.replicate]
  have s2 : stepP [66, 89, 68, 65, 89, 61, 45, 49, 70, 82] ⟨2, 1, 0, 0, [], [], [], []⟩ [true, false, false, false, false, false, false, false] = .go (⟨2, 1, 0, 0, [], [], [(-1, 4)], []⟩ : Rfc.Ru) [true, false, false, false, false, false, true, false] := by
    unfold stepP
    rw [c2]
    simp [p2, setF, l1]
  have ck : Rul.check 2 1 0 0 [] [] [(-1, 4)] [] = 0 := ck_ex
  unfold parse
  rw [if_neg (by decide), e1]
  simp only [runP, s1, s2, endP]
  rw [if_neg (by decide), if_neg (by rw [ck]; decide)]
theorem text_ex : text 2 1 0 [] [] [] [(-1, 4)] [] = [70, 82, 69, 81, 61, 77, 79, 78, 84, 72, 76, 89, 59, 66, 89, 68, 65, 89, 61, 45, 49, 70, 82] := by
  have hd : days [(-1, 4)] = [45, 49, 70, 82] := by
    show Lib.join [num (-1) 0 ++ wd 4] [44] = _
    rw [Lib.join_one]
    unfold num
    rw [if_neg (by decide), itoa_m1]
    rfl
  have hn : nums [] = [] := rfl
  unfold text vals
  rw [hd, hn]
  decide +kernel
end Rfc
theorem okay_ex : Okay 2 1 0 0 [] [] [] [(-1, 4)] [] := by
  refine ⟨by decide, by decide, by decide, .inl ⟨rfl, rfl⟩, by simp, by simp, by simp, by simp, ?_, ?_, ?_, ?_⟩ <;> simp
section
variable {w : World} {ρ : Operand → Value} {o : Oper} {x y : Operand} {v u : Value}
theorem c_Parse (ho : o.op = .call ⟨.value (.func 11), #[x], #[9]⟩) (hf : ρ (.func 11) = .func (.func 11) #[] #[]) (hx : ρ x = v) : (execOp ρ o).run Tryz.prog w = .ok (.enter 11 #[v]) w := by
  simp only [execOp, ho]
  go_simp
theorem c_Print (ho : o.op = .call ⟨.value (.func 10), #[x], #[36]⟩) (hf : ρ (.func 10) = .func (.func 10) #[] #[]) (hx : ρ x = v) : (execOp ρ o).run Tryz.prog w = .ok (.enter 10 #[v]) w := by
  simp only [execOp, ho]
  go_simp
end

noncomputable def ak3Body : Code := Tryz.f7.body.getD .skip
set_option maxRecDepth 100000 in
set_option maxHeartbeats 1000000 in
theorem awake3 (w : World) (hT : Tabs w) : Calls Tryz.prog 7 #[] w fun e w' => ∃ v, e = .returned v ∧ v = .bool true ∧ Below w.heap.size w w' := by
  refine calls_of_wp Tryz.func7 (show Tryz.f7.body = some ak3Body from rfl) ?_
  generalize hAA : (Act.mk (#[] ++ Array.replicate (Tryz.f7.ntmps - (#[] : Array Value).size) undef) []) = a
  have hs : a.tmps.size = 35 := by rw [← hAA]; simp [Tryz.ntmps7]
  have hd : a.defers = [] := by rw [← hAA]
  clear hAA
  refine Code.wp_mono NoPanic.imp ?_
  have hQ : Blind (NoPanic (bodyPost Tryz.prog Tryz.f7 fun e w' => ∃ v, e = .returned v ∧ v = .bool true ∧ Below w.heap.size w w')) := fun _ _ _ _ q => q.elim
  have hfin : ∀ (a' : Act) (w' : World), a'.defers = [] → a'.tmps.getD 0 undef = .bool true → Below w.heap.size w w' → NoPanic (bodyPost Tryz.prog Tryz.f7 fun e w' => ∃ v, e = .returned v ∧ v = .bool true ∧ Below w.heap.size w w') .ret a' w' := by
    intro a' w' k1 k2 k3
    exact ⟨k1, _, results_tmp rfl _ _ _, _, rfl, k2, k3⟩
  generalize NoPanic (bodyPost Tryz.prog Tryz.f7 fun e w' => ∃ v, e = .returned v ∧ v = .bool true ∧ Below w.heap.size w w') = Q at hQ hfin
  unfold ak3Body
  conv => arg 2; whnf
  refine wp_seq ?_
  refine wp_region (show wpOps _ _ _ [0] _ _ from ?_)
  refine opL 0 0 (v := .bool false) (w' := w) (by kernel_rfl) (frZ hs) ?_ ?_
  · exact frY rfl (k_assign rfl rfl)
  refine frN0 hs hd ?_; clear hs hd; intro a hs hd h0
  refine wp_seq ?_
  refine wp_seq ?_
  refine wp_region (show wpOps _ _ _ [0, 1] _ _ from ?_)
  have hc := awake2' w hT.mon
  have hx := fun ops Q rest d a i h1 h2 h3 => opL_call (P := Tryz.prog) (ops := ops) (Q := Q) (a := a) (w := w) (rest := rest) i d h1 h2 h3 hc
  refine hx _ _ _ 3 _ 0 ?z511a ?z511b ?z511 ?z512
  case z511a => kernel_rfl
  case z511b => (rw [hs]; decide)
  case z511 => exact frY rfl (k_callAwake rfl rfl)
  case z512 =>
  rintro _ w1 a ⟨rfl, l1⟩ F0
  replace hs := F0.z.trans hs
  replace hd := F0.e.trans hd
  replace h0 := (F0.n 0 (by decide)).trans h0
  have h3 := F0.s
  clear F0
  clear hx hc
  refine opL 1 4 (v := .bool false) (w' := w1) (by kernel_rfl) (frZ hs) ?_ ?_
  · exact frY rfl (o_not rfl (ev_tmp h3) rfl)
  refine frN1 hs hd h0 ?_; clear hs hd h0 h3; intro a hs hd h0 h4
  refine wp_cond_false (ev_tmp h4) ?_
  refine wp_skip ?_
  refine wp_seq ?_
  refine wp_region (show wpOps _ _ _ [0, 1, 2, 3, 4, 5, 6] _ _ from ?_)
  have hc := parse_any [70, 82, 69, 81, 61, 77, 79, 78, 84, 72, 76, 89, 59, 66, 89, 68, 65, 89, 61, 45, 49, 70, 82] w1 (hT.below l1)
  have hx := fun ops Q rest d a i h1 h2 h3 => opL_call (P := Tryz.prog) (ops := ops) (Q := Q) (a := a) (w := w1) (rest := rest) i d h1 h2 h3 hc
  refine hx _ _ _ 6 _ 0 ?z515a ?z515b ?z515 ?z516
  case z515a => kernel_rfl
  case z515b => (rw [hs]; decide)
  case z515 => exact frY rfl (c_Parse rfl rfl rfl)
  case z516 =>
  rintro v0 w2 a ⟨hv, l2⟩ F0
  rw [Rfc.parse_ex] at hv
  obtain ⟨A1, A2, A3, A4, c1, c2, c3, c4, hv0, hPl, -⟩ := hv
  obtain ⟨gb, go, rfl, dc0, dc1⟩ : ∃ gb go, A3 = some ⟨gb, go, none⟩ ∧ w2.cell? ⟨gb, go, none⟩ = some (.int .i64 (-1)) ∧ w2.cell? ⟨gb, go + 1, none⟩ = some (.int .i64 4) := by
    rcases hPl.k with ⟨-, e⟩ | ⟨gb, go, rfl, -, hc⟩
    · cases e
    · have := hc 0 (by simp)
      exact ⟨gb, go, rfl, this.1, this.2⟩
  replace hv0 : v0 = .tuple #[.agg #[.int .i64 2, .int .i64 1, .int .i64 0, .int .i64 0, .slice A1 0 c1, .slice A2 0 c2, .slice (some ⟨gb, go, none⟩) 1 c3, .slice A4 0 c4], .int .i64 0] := hv0
  subst hv0
  replace hs := F0.z.trans hs
  replace hd := F0.e.trans hd
  replace h0 := (F0.n 0 (by decide)).trans h0
  replace h4 := (F0.n 4 (by decide)).trans h4
  have h6 := F0.s
  clear F0
  clear hx hc
  replace l2 := l1.trans (l2.mono l1.size)
  clear l1
  refine opL 1 5 (v := .tuple #[.agg #[.int .i64 2, .int .i64 1, .int .i64 0, .int .i64 0, .slice A1 0 c1, .slice A2 0 c2, .slice (some ⟨gb, go, none⟩) 1 c3, .slice A4 0 c4], .int .i64 0]) (w' := w2) (by kernel_rfl) (frZ hs) ?_ ?_
  · exact frY rfl (k_move rfl (ev_tmp h6))
  refine frN2 hs hd h0 h4 ?_; clear hs hd h0 h4 h6; intro a hs hd h0 h4 h5
  refine opL 2 7 (v := .agg #[.int .i64 2, .int .i64 1, .int .i64 0, .int .i64 0, .slice A1 0 c1, .slice A2 0 c2, .slice (some ⟨gb, go, none⟩) 1 c3, .slice A4 0 c4]) (w' := w2) (by kernel_rfl) (frZ hs) ?_ ?_
  · exact frY rfl (k_extract rfl (ev_tmp h5) rfl)
  revert hs hd h0 h4 h5; refine frM3 ?_; intro a hs hd h0 h4 h5 h7
  refine opL 3 8 (v := .int .i64 0) (w' := w2) (by kernel_rfl) (frZ hs) ?_ ?_
  · exact frY rfl (k_extract rfl (ev_tmp h5) rfl)
  revert hs hd h0 h4 h5 h7; refine frM4 ?_; intro a hs hd h0 h4 h5 h7 h8
  refine opL 4 1 (v := .pointer (some ⟨w2.heap.size, 0, none⟩)) (w' := (w2.alloc (.cells #[.int .i64 0, .int .i64 0, .int .i64 0, .int .i64 0, .slice none 0 0, .slice none 0 0, .slice none 0 0, .slice none 0 0] 36))) (by kernel_rfl) (frZ hs) ?_ ?_
  · exact frY rfl (k_allocR rfl)
  revert hs hd h0 h4 h5 h7 h8; refine frM5 ?_; intro a hs hd h0 h4 h5 h7 h8 h1
  obtain ⟨w3, hw3⟩ : ∃ wn, wn = w2.alloc (.cells #[.int .i64 0, .int .i64 0, .int .i64 0, .int .i64 0, .slice none 0 0, .slice none 0 0, .slice none 0 0, .slice none 0 0] 36) := ⟨_, rfl⟩
  rw [← hw3]
  have q3 : Blk w3 w2.heap.size 36 #[.int .i64 0, .int .i64 0, .int .i64 0, .int .i64 0, .slice none 0 0, .slice none 0 0, .slice none 0 0, .slice none 0 0] := by rw [hw3]; exact Blk.alloc _ _ _
  have l3 : Below w2.heap.size w2 w3 := by rw [hw3]; exact (Below.refl _ _).alloc (Nat.le_refl _) _
  clear hw3
  refine opL_store 5 (w' := (w3.setRow w2.heap.size #[.int .i64 2, .int .i64 1, .int .i64 0, .int .i64 0, .slice A1 0 c1, .slice A2 0 c2, .slice (some ⟨gb, go, none⟩) 1 c3, .slice A4 0 c4])) (by kernel_rfl) ?_ ?_
  · exact frY rfl (k_storeR rfl (ev_tmp h1) (ev_tmp h7) q3 rfl rfl (by simp [Value.oneCell']))
  clear h7
  obtain ⟨w4, hw4⟩ : ∃ wn, wn = w3.setRow w2.heap.size #[.int .i64 2, .int .i64 1, .int .i64 0, .int .i64 0, .slice A1 0 c1, .slice A2 0 c2, .slice (some ⟨gb, go, none⟩) 1 c3, .slice A4 0 c4] := ⟨_, rfl⟩
  rw [← hw4]
  have q4 : Blk w4 w2.heap.size 36 #[.int .i64 2, .int .i64 1, .int .i64 0, .int .i64 0, .slice A1 0 c1, .slice A2 0 c2, .slice (some ⟨gb, go, none⟩) 1 c3, .slice A4 0 c4] := by rw [hw4]; exact q3.setRow
  have l4 : Below w2.heap.size w2 w4 := by rw [hw4]; exact l3.trans ((exc_setRow w3 w2.heap.size #[.int .i64 2, .int .i64 1, .int .i64 0, .int .i64 0, .slice A1 0 c1, .slice A2 0 c2, .slice (some ⟨gb, go, none⟩) 1 c3, .slice A4 0 c4] w2.heap.size).below (Nat.le_refl _))
  clear hw4 q3 l3
  have P4 := hPl.below l4
  have d0 := cell_stays dc0 l4
  have d1 := cell_stays dc1 l4
  replace l4 := l2.trans (l4.mono l2.size)
  refine opL 6 2 (v := .int .i64 0) (w' := w4) (by kernel_rfl) (frZ hs) ?_ ?_
  · exact frY rfl (k_assign rfl (ev_tmp h8))
  refine frN4 hs hd h0 h4 h5 h1 ?_; clear hs hd h0 h4 h5 h1 h8; intro a hs hd h0 h4 h5 h1 h2
  refine wp_seq ?_
  refine wp_region (show wpOps _ _ _ [0, 1, 2, 3, 4, 5, 6, 7, 8, 9, 10, 11, 12, 13, 14, 15, 16, 17, 18, 19, 20, 21, 22, 23, 24, 25, 26] _ _ from ?_)
  refine opL 0 9 (v := .int .i64 0) (w' := w4) (by kernel_rfl) (frZ hs) ?_ ?_
  · exact frY rfl (k_move rfl (ev_tmp h2))
  revert hs hd h0 h4 h5 h1 h2; refine frM5 ?_; intro a hs hd h0 h4 h5 h1 h2 h9
  refine opL 1 10 (v := .bool true) (w' := w4) (by kernel_rfl) (frZ hs) ?_ ?_
  · exact frY rfl (o_eqE rfl (ev_tmp h9) rfl rfl)
  clear h9; revert hs hd h0 h4 h5 h1 h2; refine frM5 ?_; intro a hs hd h0 h4 h5 h1 h2 h10
  refine opL 2 11 (v := .bool true) (w' := w4) (by kernel_rfl) (frZ hs) ?_ ?_
  · exact frY rfl (k_move rfl (ev_tmp h10))
  clear h10; revert hs hd h0 h4 h5 h1 h2; refine frM5 ?_; intro a hs hd h0 h4 h5 h1 h2 h11
  refine opL 3 12 (v := .pointer (some ⟨w2.heap.size, 1, none⟩)) (w' := w4) (by kernel_rfl) (frZ hs) ?z535 ?z536
  case z535 => (intro o ho; obtain rfl := Option.some.inj ho; exact ⟨wanted_at (b := true) (want := true) rfl (by kernel_rfl) h11, k_field1 rfl (ev_tmp h1)⟩)
  case z536 =>
  refine frN6 hs hd h0 h4 h5 h1 h2 h11 ?_; clear hs hd h0 h4 h5 h1 h2 h11; intro a hs hd h0 h4 h5 h1 h2 h11 h12
  refine opL 4 13 (v := .int .i64 1) (w' := w4) (by kernel_rfl) (frZ hs) ?z537 ?z538
  case z537 => (intro o ho; obtain rfl := Option.some.inj ho; exact ⟨wanted_at (b := true) (want := true) rfl (by kernel_rfl) h11, k_loadI rfl (ev_tmp h12) (q4.cell 1)⟩)
  case z538 =>
  refine frN6 hs hd h0 h4 h5 h1 h2 h11 ?_; clear hs hd h0 h4 h5 h1 h2 h11 h12; intro a hs hd h0 h4 h5 h1 h2 h11 h13
  refine opL 5 14 (v := .bool true) (w' := w4) (by kernel_rfl) (frZ hs) ?z539 ?z540
  case z539 => (intro o ho; obtain rfl := Option.some.inj ho; exact ⟨wanted_at (b := true) (want := true) rfl (by kernel_rfl) h11, o_eqI rfl (ev_tmp h13) rfl rfl⟩)
  case z540 =>
  refine frN6 hs hd h0 h4 h5 h1 h2 h11 ?_; clear hs hd h0 h4 h5 h1 h2 h11 h13; intro a hs hd h0 h4 h5 h1 h2 h11 h14
  refine opL 6 15 (v := .bool true) (w' := w4) (by kernel_rfl) (frZ hs) ?_ ?_
  · exact frY rfl (k_pick_yes rfl (ev_tmp h11) (ev_tmp h14))
  clear h11 h14; revert hs hd h0 h4 h5 h1 h2; refine frM5 ?_; intro a hs hd h0 h4 h5 h1 h2 h15
  refine opL 7 16 (v := .bool true) (w' := w4) (by kernel_rfl) (frZ hs) ?_ ?_
  · exact frY rfl (k_move rfl (ev_tmp h15))
  clear h15; revert hs hd h0 h4 h5 h1 h2; refine frM5 ?_; intro a hs hd h0 h4 h5 h1 h2 h16
  refine opL 8 17 (v := .pointer (some ⟨w2.heap.size, 6, none⟩)) (w' := w4) (by kernel_rfl) (frZ hs) ?z545 ?z546
  case z545 => (intro o ho; obtain rfl := Option.some.inj ho; exact ⟨wanted_at (b := true) (want := true) rfl (by kernel_rfl) h16, k_field6 rfl (ev_tmp h1)⟩)
  case z546 =>
  refine frN6 hs hd h0 h4 h5 h1 h2 h16 ?_; clear hs hd h0 h4 h5 h1 h2 h16; intro a hs hd h0 h4 h5 h1 h2 h16 h17
  refine opL 9 18 (v := .slice (some ⟨gb, go, none⟩) 1 c3) (w' := w4) (by kernel_rfl) (frZ hs) ?z547 ?z548
  case z547 => (intro o ho; obtain rfl := Option.some.inj ho; exact ⟨wanted_at (b := true) (want := true) rfl (by kernel_rfl) h16, k_loadW rfl (ev_tmp h17) (q4.cell 6)⟩)
  case z548 =>
  refine frN6 hs hd h0 h4 h5 h1 h2 h16 ?_; clear hs hd h0 h4 h5 h1 h2 h16 h17; intro a hs hd h0 h4 h5 h1 h2 h16 h18
  refine opL 10 19 (v := .int .i64 1) (w' := w4) (by kernel_rfl) (frZ hs) ?z549 ?z550
  case z549 => (intro o ho; obtain rfl := Option.some.inj ho; exact ⟨wanted_at (b := true) (want := true) rfl (by kernel_rfl) h16, k_lenW rfl (ev_tmp h18)⟩)
  case z550 =>
  refine frN6 hs hd h0 h4 h5 h1 h2 h16 ?_; clear hs hd h0 h4 h5 h1 h2 h16 h18; intro a hs hd h0 h4 h5 h1 h2 h16 h19
  refine opL 11 20 (v := .bool true) (w' := w4) (by kernel_rfl) (frZ hs) ?z551 ?z552
  case z551 => (intro o ho; obtain rfl := Option.some.inj ho; exact ⟨wanted_at (b := true) (want := true) rfl (by kernel_rfl) h16, o_eqI rfl (ev_tmp h19) rfl rfl⟩)
  case z552 =>
  refine frN6 hs hd h0 h4 h5 h1 h2 h16 ?_; clear hs hd h0 h4 h5 h1 h2 h16 h19; intro a hs hd h0 h4 h5 h1 h2 h16 h20
  refine opL 12 21 (v := .bool true) (w' := w4) (by kernel_rfl) (frZ hs) ?_ ?_
  · exact frY rfl (k_pick_yes rfl (ev_tmp h16) (ev_tmp h20))
  clear h16 h20; revert hs hd h0 h4 h5 h1 h2; refine frM5 ?_; intro a hs hd h0 h4 h5 h1 h2 h21
  refine opL 13 22 (v := .bool true) (w' := w4) (by kernel_rfl) (frZ hs) ?_ ?_
  · exact frY rfl (k_move rfl (ev_tmp h21))
  clear h21; revert hs hd h0 h4 h5 h1 h2; refine frM5 ?_; intro a hs hd h0 h4 h5 h1 h2 h22
  refine opL 14 23 (v := .pointer (some ⟨w2.heap.size, 6, none⟩)) (w' := w4) (by kernel_rfl) (frZ hs) ?z557 ?z558
  case z557 => (intro o ho; obtain rfl := Option.some.inj ho; exact ⟨wanted_at (b := true) (want := true) rfl (by kernel_rfl) h22, k_field6 rfl (ev_tmp h1)⟩)
  case z558 =>
  refine frN6 hs hd h0 h4 h5 h1 h2 h22 ?_; clear hs hd h0 h4 h5 h1 h2 h22; intro a hs hd h0 h4 h5 h1 h2 h22 h23
  refine opL 15 24 (v := .slice (some ⟨gb, go, none⟩) 1 c3) (w' := w4) (by kernel_rfl) (frZ hs) ?z559 ?z560
  case z559 => (intro o ho; obtain rfl := Option.some.inj ho; exact ⟨wanted_at (b := true) (want := true) rfl (by kernel_rfl) h22, k_loadW rfl (ev_tmp h23) (q4.cell 6)⟩)
  case z560 =>
  refine frN6 hs hd h0 h4 h5 h1 h2 h22 ?_; clear hs hd h0 h4 h5 h1 h2 h22 h23; intro a hs hd h0 h4 h5 h1 h2 h22 h24
  refine opL 16 25 (v := .pointer (some ((⟨gb, go, none⟩ : Addr).add (0 * 2)))) (w' := w4) (by kernel_rfl) (frZ hs) ?z561 ?z562
  case z561 => (intro o ho; obtain rfl := Option.some.inj ho; exact ⟨wanted_at (b := true) (want := true) rfl (by kernel_rfl) h22, k_atN (i := 0) rfl (ev_tmp h24) rfl (by omega)⟩)
  case z562 =>
  refine frN6 hs hd h0 h4 h5 h1 h2 h22 ?_; clear hs hd h0 h4 h5 h1 h2 h22 h24; intro a hs hd h0 h4 h5 h1 h2 h22 h25
  refine opL 17 26 (v := .agg #[.int .i64 (-1), .int .i64 4]) (w' := w4) (by kernel_rfl) (frZ hs) ?z563 ?z564
  case z563 => (intro o ho; obtain rfl := Option.some.inj ho; exact ⟨wanted_at (b := true) (want := true) rfl (by kernel_rfl) h22, k_loadN2 rfl (ev_tmp h25) (by rw [addr_lit]; exact d0) (by rw [addr_lit, addr_lit]; exact d1)⟩)
  case z564 =>
  refine frN6 hs hd h0 h4 h5 h1 h2 h22 ?_; clear hs hd h0 h4 h5 h1 h2 h22 h25; intro a hs hd h0 h4 h5 h1 h2 h22 h26
  refine opL 18 27 (v := .agg #[.int .i64 (-1), .int .i64 4]) (w' := w4) (by kernel_rfl) (frZ hs) ?z565 ?z566
  case z565 => (intro o ho; obtain rfl := Option.some.inj ho; exact ⟨wanted_at (b := true) (want := true) rfl (by kernel_rfl) h22, k_buildN rfl rfl rfl⟩)
  case z566 =>
  refine frN7 hs hd h0 h4 h5 h1 h2 h22 h26 ?_; clear hs hd h0 h4 h5 h1 h2 h22 h26; intro a hs hd h0 h4 h5 h1 h2 h22 h26 h27
  refine opL 19 28 (v := .bool true) (w' := w4) (by kernel_rfl) (frZ hs) ?z567 ?z568
  case z567 => (intro o ho; obtain rfl := Option.some.inj ho; exact ⟨wanted_at (b := true) (want := true) rfl (by kernel_rfl) h22, o_eqN rfl (ev_tmp h26) (ev_tmp h27) rfl⟩)
  case z568 =>
  refine frN6 hs hd h0 h4 h5 h1 h2 h22 ?_; clear hs hd h0 h4 h5 h1 h2 h22 h26 h27; intro a hs hd h0 h4 h5 h1 h2 h22 h28
  refine opL 20 29 (v := .bool true) (w' := w4) (by kernel_rfl) (frZ hs) ?_ ?_
  · exact frY rfl (k_pick_yes rfl (ev_tmp h22) (ev_tmp h28))
  clear h22 h28; revert hs hd h0 h4 h5 h1 h2; refine frM5 ?_; intro a hs hd h0 h4 h5 h1 h2 h29
  refine opL 21 30 (v := .bool true) (w' := w4) (by kernel_rfl) (frZ hs) ?_ ?_
  · exact frY rfl (k_move rfl (ev_tmp h29))
  clear h29; revert hs hd h0 h4 h5 h1 h2; refine frM5 ?_; intro a hs hd h0 h4 h5 h1 h2 h30
  refine opL 22 31 (v := .agg #[.int .i64 2, .int .i64 1, .int .i64 0, .int .i64 0, .slice A1 0 c1, .slice A2 0 c2, .slice (some ⟨gb, go, none⟩) 1 c3, .slice A4 0 c4]) (w' := w4) (by kernel_rfl) (frZ hs) ?z573 ?z574
  case z573 => (intro o ho; obtain rfl := Option.some.inj ho; exact ⟨wanted_at (b := true) (want := true) rfl (by kernel_rfl) h30, k_loadR rfl (ev_tmp h1) q4.rule⟩)
  case z574 =>
  refine frN6 hs hd h0 h4 h5 h1 h2 h30 ?_; clear hs hd h0 h4 h5 h1 h2 h30; intro a hs hd h0 h4 h5 h1 h2 h30 h31
  have hc := print_any 2 1 0 0 [] A1 A2 (some ⟨gb, go, none⟩) A4 c1 c2 c3 c4 [] [] [(-1, 4)] [] w4 (hT.below l4) P4.lists okay_ex Rfc.ck_ex
  have hx := fun ops Q rest d a i h1 h2 h3 => opL_call (P := Tryz.prog) (ops := ops) (Q := Q) (a := a) (w := w4) (rest := rest) i d h1 h2 h3 hc
  refine hx _ _ _ 32 _ 23 ?z575a ?z575b ?z575 ?z576
  case z575a => kernel_rfl
  case z575b => (rw [hs]; decide)
  case z575 => (intro o ho; obtain rfl := Option.some.inj ho; exact ⟨wanted_at (b := true) (want := true) rfl (by kernel_rfl) h30, c_Print rfl rfl (ev_tmp h31)⟩)
  case z576 =>
  rintro _ w5 a ⟨rfl, l5⟩ F0
  rw [Rfc.text_ex] at F0
  replace hs := F0.z.trans hs
  replace hd := F0.e.trans hd
  replace h0 := (F0.n 0 (by decide)).trans h0
  replace h4 := (F0.n 4 (by decide)).trans h4
  replace h5 := (F0.n 5 (by decide)).trans h5
  replace h1 := (F0.n 1 (by decide)).trans h1
  replace h2 := (F0.n 2 (by decide)).trans h2
  replace h30 := (F0.n 30 (by decide)).trans h30
  clear h31
  have h32 := F0.s
  clear F0
  clear hx hc
  refine opL 24 33 (v := .bool true) (w' := w5) (by kernel_rfl) (frZ hs) ?z577 ?z578
  case z577 => (intro o ho; obtain rfl := Option.some.inj ho; exact ⟨wanted_at (b := true) (want := true) rfl (by kernel_rfl) h30, o_eqStr rfl (ev_tmp h32) rfl (by simp)⟩)
  case z578 =>
  refine frN6 hs hd h0 h4 h5 h1 h2 h30 ?_; clear hs hd h0 h4 h5 h1 h2 h30 h32; intro a hs hd h0 h4 h5 h1 h2 h30 h33
  refine opL 25 34 (v := .bool true) (w' := w5) (by kernel_rfl) (frZ hs) ?_ ?_
  · exact frY rfl (k_pick_yes rfl (ev_tmp h30) (ev_tmp h33))
  clear h30 h33; revert hs hd h0 h4 h5 h1 h2; refine frM5 ?_; intro a hs hd h0 h4 h5 h1 h2 h34
  refine opL 26 0 (v := .bool true) (w' := w5) (by kernel_rfl) (frZ hs) ?_ ?_
  · exact frY rfl (k_assign rfl (ev_tmp h34))
  clear h0 h34; revert hs hd h4 h5 h1 h2; refine frM4 ?_; intro a hs hd h4 h5 h1 h2 h0
  refine wp_ret ?_
  exact hfin a _ hd h0 (l4.trans (l5.mono l4.size))
end Go.Proofs.YtocpmljkmdpfkaaGreatDoor
