/-
  The law's Check, whole: it answers what chapter 2 says.
-/
import Derived.Test.YtoldjleojnlhiaaDoorR18
import Derived.Test.YtoldjleojnlhiaaDoorR18m
import Derived.Test.YtoldjleojnlhiaaDoorLf
namespace Go.Proofs.YtoldjleojnlhiaaDoor
open Go.RowKit

noncomputable def lawBody : Code := Tryd.f14.body.getD .skip

set_option maxRecDepth 100000 in
set_option maxHeartbeats 2000000 in
theorem lawCheck_lists (f iv c u : Int) (AM AD AW AP : Option Addr) (cM cD cW cP : Nat) (M D : List Int) (W : List (Int × Int)) (P : List Int) (w : World) (hL : ListsIn w AM AD AW AP M D W P) (h0 : 0 ≤ f) (h4 : f < 4) (h : Rul.badNum iv c u = false) (hb : (c != 0 && u != 0) = false) :
    Calls Tryd.prog 14 #[.agg #[.int .i64 f, .int .i64 iv, .int .i64 c, .int .i64 u, .slice AM M.length cM, .slice AD D.length cD, .slice AW W.length cW, .slice AP P.length cP]] w fun e w' => e = .returned (.int .i64 (Rul.tail f M D W P)) ∧ Below w.heap.size w w' := by
  have b : 1 ≤ iv ∧ iv ≤ 999 ∧ 0 ≤ c ∧ c ≤ 9999 ∧ ((u != 0) = false ∨ ((u != 0) = true ∧ 1 ≤ u ∧ u ≤ 3652059)) := by
    by_cases hu : u = 0
    · simp [Rul.badNum, Rul.btw, hu] at h ⊢; omega
    · simp [Rul.badNum, Rul.btw, hu] at h ⊢; omega
  obtain ⟨b1, b2, b3, b4, bu⟩ := b
  have LM := hL.lm; have LD := hL.ld; have LK := hL.lk; have LP := hL.lp
  unfold maxLen at LM LD LK LP
  refine calls_of_wp Tryd.func14 (show Tryd.f14.body = some lawBody from rfl) ?_
  generalize hA : (Act.mk (#[.agg #[.int .i64 f, .int .i64 iv, .int .i64 c, .int .i64 u, .slice AM M.length cM, .slice AD D.length cD, .slice AW W.length cW, .slice AP P.length cP]] ++ Array.replicate (Tryd.f14.ntmps - (#[.agg #[.int .i64 f, .int .i64 iv, .int .i64 c, .int .i64 u, .slice AM M.length cM, .slice AD D.length cD, .slice AW W.length cW, .slice AP P.length cP]] : Array Value).size) undef) []) = a
  have hs : a.tmps.size = 236 := by rw [← hA]; simp [Tryd.ntmps14]
  have hd : a.defers = [] := by rw [← hA]
  have s0 : a.tmps.getD 0 undef = .agg #[.int .i64 f, .int .i64 iv, .int .i64 c, .int .i64 u, .slice AM M.length cM, .slice AD D.length cD, .slice AW W.length cW, .slice AP P.length cP] := by rw [← hA]; simp
  clear hA
  refine Code.wp_mono NoPanic.imp ?_
  have hQ : Blind (NoPanic (bodyPost Tryd.prog Tryd.f14 fun e w' => e = .returned (.int .i64 (Rul.tail f M D W P)) ∧ Below w.heap.size w w')) := fun _ _ _ _ q => q.elim
  have hfin : ∀ (v : Int) a' w', a'.defers = [] → a'.tmps.getD 2 undef = .int .i64 v → v = Rul.tail f M D W P → Below w.heap.size w w' → NoPanic (bodyPost Tryd.prog Tryd.f14 fun e w' => e = .returned (.int .i64 (Rul.tail f M D W P)) ∧ Below w.heap.size w w') .ret a' w' := by
    intro v a' w' k1 k2 k3 k4
    exact ⟨k1, _, results_tmp rfl _ _ _, by rw [k2, k3], k4⟩
  generalize NoPanic (bodyPost Tryd.prog Tryd.f14 fun e w' => e = .returned (.int .i64 (Rul.tail f M D W P)) ∧ Below w.heap.size w w') = Q at hQ hfin
  unfold lawBody
  conv => arg 2; whnf
  refine wp_seq ?_
  refine cut_at (Fb w (IsW (w.alloc (.cells #[.int .i64 f, .int .i64 iv, .int .i64 c, .int .i64 u, .slice AM M.length cM, .slice AD D.length cD, .slice AW W.length cW, .slice AP P.length cP] 38))) Any) ?c1 ?c2
  case c1 =>
    have g0 := getD_arr s0
    go_wp2_with fail
    exact ⟨rfl, by first | rfl | exact hd, by simp [hs], by rw [set_ne (by decide), set_get (by rw [hs]; decide)], trivial⟩
  case c2 =>
  clear hs hd s0 a
  rintro a _ ⟨rfl, hd, hs, s1, -⟩
  have hB : Below w.heap.size w (w.alloc (.cells #[.int .i64 f, .int .i64 iv, .int .i64 c, .int .i64 u, .slice AM M.length cM, .slice AD D.length cD, .slice AW W.length cW, .slice AP P.length cP] 38)) := (Below.refl _ _).alloc (Nat.le_refl _) _
  have hbz : (w.alloc (.cells #[.int .i64 f, .int .i64 iv, .int .i64 c, .int .i64 u, .slice AM M.length cM, .slice AD D.length cD, .slice AW W.length cW, .slice AP P.length cP] 38)).heap.size = w.heap.size + 1 := by simp
  have C : Cells8 w (w.alloc (.cells #[.int .i64 f, .int .i64 iv, .int .i64 c, .int .i64 u, .slice AM M.length cM, .slice AD D.length cD, .slice AW W.length cW, .slice AP P.length cP] 38)) f iv c u (.slice AM M.length cM) (.slice AD D.length cD) (.slice AW W.length cW) (.slice AP P.length cP) :=
    ⟨by simp, by simp, by simp, by simp, by simp, by simp, by simp, by simp⟩
  generalize (w.alloc (.cells #[.int .i64 f, .int .i64 iv, .int .i64 c, .int .i64 u, .slice AM M.length cM, .slice AD D.length cD, .slice AW W.length cW, .slice AP P.length cP] 38)) = wb at hB hbz C
  have hLb := hL.below hB
  clear hL
  refine wp_seq ?_
  refine wp_seq ?_
  refine cut_at (Fb w (IsW wb) (SlotIs 28 (.bool false))) ?c3 ?c4
  case c3 =>
    have g1 := getD_arr s1
    have e0 := C.c0
    have hf : f = 0 ∨ f = 1 ∨ f = 2 ∨ f = 3 := by omega
    clear C hfin hLb
    rcases hf with rfl | rfl | rfl | rfl
    all_goals
      go_wp2_with fail
      exact ⟨rfl, by first | rfl | exact hd, by simp [hs], by (repeat rw [set_ne (by decide)]); exact s1, by unfold SlotIs; rw [set_get (by simp [hs])]⟩
  case c4 =>
  clear hs hd s1 a
  rintro a _ ⟨rfl, hd, hs, s1, h28⟩
  refine wp_cond_false (eval_tmp h28) ?_
  clear h28
  refine wp_skip ?_
  refine wp_seq ?_
  refine wp_seq ?_
  refine cut_at (Fb w (IsW wb) (SlotIs 61 (.bool false))) ?c5 ?c6
  case c5 =>
    have n1 : ¬ iv < 1 := by omega
    have n2 : ¬ 999 < iv := by omega
    have n3 : ¬ c < 0 := by omega
    have n4 : ¬ 9999 < c := by omega
    rcases bu with v1 | ⟨v1, v2, v3⟩
    · refine reg3_none a wb _ w.heap.size iv c u hs s1 C.c1 C.c2 C.c3 n1 n2 n3 n4 v1 ?_
      intro a' K hd' h61
      exact ⟨rfl, hd'.trans hd, K.1.trans hs, (K.2 1 (by decide) (by decide)).trans s1, h61⟩
    · refine reg3_some a wb _ w.heap.size iv c u hs s1 C.c1 C.c2 C.c3 n1 n2 n3 n4 v1 (by omega) (by omega) ?_
      intro a' K hd' h61
      exact ⟨rfl, hd'.trans hd, K.1.trans hs, (K.2 1 (by decide) (by decide)).trans s1, h61⟩
  case c6 =>
  clear hs hd s1 a
  rintro a _ ⟨rfl, hd, hs, s1, h61⟩
  refine wp_cond_false (eval_tmp h61) ?_
  clear h61
  refine wp_skip ?_
  refine wp_seq ?_
  refine wp_seq ?_
  refine cut_at (Fb w (IsW wb) (SlotIs 69 (.bool false))) ?c7 ?c8
  case c7 =>
    have g1 := getD_arr s1
    have e2 := C.c2
    have e3 := C.c3
    clear C hfin hLb
    cases v1 : (c != 0)
    · go_wp2_with fail
      exact ⟨rfl, by first | rfl | exact hd, by simp [hs], by (repeat rw [set_ne (by decide)]); exact s1, by unfold SlotIs; rw [set_get (by simp [hs])]⟩
    · have v2 : (u != 0) = false := by rw [v1] at hb; simpa using hb
      go_wp2_with fail
      exact ⟨rfl, by first | rfl | exact hd, by simp [hs], by (repeat rw [set_ne (by decide)]); exact s1, by unfold SlotIs; rw [set_get (by simp [hs])]⟩
  case c8 =>
  clear hs hd s1 a
  rintro a _ ⟨rfl, hd, hs, s1, h69⟩
  refine wp_cond_false (eval_tmp h69) ?_
  clear h69
  refine wp_skip ?_
  refine wp_seq ?_
  refine wp_seq ?_
  refine cut_at (So w 0 (IsW (wb.alloc (.cells #[.slice AM M.length cM, .slice AD D.length cD, .slice none 0 0, .slice AP P.length cP] 35))) Any) ?c9 ?c10
  case c9 =>
    have g1 := getD_arr s1
    have e4 := C.c4
    have e5 := C.c5
    have e7 := C.c7
    clear C hfin hLb
    go_wp2_with fail
    refine ⟨rfl, by first | rfl | exact hd, ⟨by simp [hs], ?_, ?_, ?_, ?_⟩, trivial⟩
    · (repeat rw [set_ne (by decide)]); exact s1
    · rw [set_ne (by decide), set_ne (by decide), set_get (by simp [hs])]
    · rw [set_ne (by decide), set_get (by simp [hs])]
    · rw [set_get (by simp [hs])]
  case c10 =>
  clear hs hd s1 a
  rintro a _ ⟨rfl, hd, F, -⟩
  have hB0 : Below w.heap.size w (wb.alloc (.cells #[.slice AM M.length cM, .slice AD D.length cD, .slice none 0 0, .slice AP P.length cP] 35)) := hB.alloc (by omega) _
  have hz0 : w.heap.size + 1 < (wb.alloc (.cells #[.slice AM M.length cM, .slice AD D.length cD, .slice none 0 0, .slice AP P.length cP] 35)).heap.size := by simp; omega
  have hL0 := hLb.below ((Below.refl wb.heap.size wb).alloc (Nat.le_refl _) (.cells #[.slice AM M.length cM, .slice AD D.length cD, .slice none 0 0, .slice AP P.length cP] 35))
  have o : ∀ i, (wb.alloc (.cells #[.slice AM M.length cM, .slice AD D.length cD, .slice none 0 0, .slice AP P.length cP] 35)).cell? ⟨w.heap.size + 1, i, none⟩ = #[Value.slice AM M.length cM, .slice AD D.length cD, .slice none 0 0, .slice AP P.length cP][i]? := by
    intro i; rw [← hbz]; exact cell_of_row _ _ _ _ _ (0, 0) (heap_alloc_new wb _)
  have x : ∀ i, (wb.alloc (.cells #[.slice AM M.length cM, .slice AD D.length cD, .slice none 0 0, .slice AP P.length cP] 35)).cell? ⟨w.heap.size, i, none⟩ = wb.cell? ⟨w.heap.size, i, none⟩ := fun i => World.cell?_alloc_lt wb _ _ (by show w.heap.size < wb.heap.size; omega)
  generalize (wb.alloc (.cells #[.slice AM M.length cM, .slice AD D.length cD, .slice none 0 0, .slice AP P.length cP] 35)) = w0 at hB0 hz0 hL0 o x
  refine outer_all w w0 w0 a _ _ hQ f AM AD AW AP cM cD cW cP M D W P h0 h4 hz0 hL0 (o 0) (o 1) (o 2) (o 3) ((x 0).trans C.c0) ((x 6).trans C.c6) F hd (Below.refl _ _) ?_ ?_
  · intro v a' w' k1 k2 k3 k4 k5 k6
    exact hfin v a' w' k1 k3 (Rul.tail_bad k5.symm k6).symm (hB0.trans (k4.mono hB0.size))
  · intro a' w' k1 k2 k4 k5
    have ht := Rul.tail_ok k5
    have hB1 : Below w.heap.size w w' := hB0.trans (k4.mono hB0.size)
    have y : ∀ i, w'.cell? ⟨w.heap.size, i, none⟩ = wb.cell? ⟨w.heap.size, i, none⟩ := fun i => (k4.cell (p := ⟨w.heap.size, i, none⟩) (show w.heap.size < w0.heap.size by omega)).trans (x i)
    have y0 := (y 0).trans C.c0
    have y4 := (y 4).trans C.c4
    have y5 := (y 5).trans C.c5
    have y6 := (y 6).trans C.c6
    have y7 := (y 7).trans C.c7
    clear x o y C hL0 hLb F hd a
    refine wp_seq ?_
    refine wp_seq ?_
    refine cut_at (So w 4 (IsW w') (SlotIs 235 (.bool (Rul.odd f M D W P)))) ?c11 ?c12
    case c11 =>
      have hs := k2.hs
      refine reg32_all a' w' _ w.heap.size f AM AD AW AP cM cD cW cP M D W P hs k2.s1 y0 y4 y5 y6 y7 ?_
      intro a'' K hd' h235
      exact ⟨rfl, hd'.trans k1, ⟨K.1.trans hs, (K.2 1 (by decide) (by decide)).trans k2.s1, (K.2 76 (by decide) (by decide)).trans k2.s76, (K.2 77 (by decide) (by decide)).trans k2.s77, (K.2 78 (by decide) (by decide)).trans k2.s78⟩, h235⟩
    case c12 =>
    clear k1 k2 a'
    rintro a _ ⟨rfl, hd, F, h235⟩
    cases ho : Rul.odd f M D W P
    · rw [ho] at h235
      rw [ho] at ht
      refine wp_cond_false (eval_tmp h235) ?_
      refine wp_skip ?_
      change Code.wp _ (Code.seq _ _) _ _ _
      refine wp_seq ?_
      refine wp_region (show wpOps _ _ _ [0] _ _ from ?_)
      refine opL 0 2 (v := .int .i64 0) (w' := w') (by kernel_rfl) (by rw [F.hs]; decide) ?q1 ?q2
      case q1 => (intro o ho; obtain rfl := Option.some.inj ho; exact ⟨rfl, rfl⟩)
      case q2 =>
      intro a' R
      refine wp_ret ?_
      exact hfin 0 a' w' (R.e.trans hd) R.s (by rw [ht]; rfl) hB1
    · rw [ho] at h235
      rw [ho] at ht
      refine wp_cond_true (eval_tmp h235) ?_
      refine wp_seq ?_
      refine wp_region (show wpOps _ _ _ [0] _ _ from ?_)
      refine opL 0 2 (v := .int .i64 6) (w' := w') (by kernel_rfl) (by rw [F.hs]; decide) ?q3 ?q4
      case q3 => (intro o ho; obtain rfl := Option.some.inj ho; exact ⟨rfl, rfl⟩)
      case q4 =>
      intro a' R
      refine wp_ret ?_
      exact hfin 6 a' w' (R.e.trans hd) R.s (by rw [ht]; rfl) hB1

theorem lawCheck_any (f iv c u : Int) (AM AD AW AP : Option Addr) (cM cD cW cP : Nat) (M D : List Int) (W : List (Int × Int)) (P : List Int) (w : World) (hL : ListsIn w AM AD AW AP M D W P) :
    Calls Tryd.prog 14 #[.agg #[.int .i64 f, .int .i64 iv, .int .i64 c, .int .i64 u, .slice AM M.length cM, .slice AD D.length cD, .slice AW W.length cW, .slice AP P.length cP]] w fun e w' => e = .returned (.int .i64 (Rul.check f iv c u M D W P)) ∧ Below w.heap.size w w' := by
  by_cases hf : f < 0 ∨ 4 ≤ f
  · have e : Rul.check f iv c u M D W P = 6 := by simp [Rul.check, Rul.noFreq, hf]
    rw [e]
    exact lawCheck_freq f iv c u AM AD AW AP cM cD cW cP M D W P w hf
  have nf : Rul.noFreq f = false := by simp [Rul.noFreq]; omega
  cases hn : Rul.badNum iv c u
  · cases hb : (c != 0 && u != 0)
    · have e : Rul.check f iv c u M D W P = Rul.tail f M D W P := by simp [Rul.check, Rul.tail, nf, Rul.nums, hn, hb]
      rw [e]
      exact lawCheck_lists f iv c u AM AD AW AP cM cD cW cP M D W P w hL (by omega) (by omega) hn hb
    · have e : Rul.check f iv c u M D W P = 7 := by simp only [Rul.check, nf, Rul.nums, hn, hb]; rfl
      rw [e]
      exact lawCheck_both f iv c u AM AD AW AP cM cD cW cP M D W P w (by omega) (by omega) hn hb
  · have e : Rul.check f iv c u M D W P = 3 := by simp only [Rul.check, nf, Rul.nums, hn]; rfl
    rw [e]
    exact lawCheck_nums f iv c u AM AD AW AP cM cD cW cP M D W P w (by omega) (by omega) hn
end Go.Proofs.YtoldjleojnlhiaaDoor
