/-
  Contracts of rule's checkLists and Check: each returns chapter 2's answer, and writes new memory alone.
-/
import Derived.Test.YtocpmljkmdpfkaaGreatDoorR5
namespace Go.Proofs.YtocpmljkmdpfkaaGreatDoor
open Go.RowKit

set_option maxHeartbeats 1000000 in
theorem checkLists_any (f iv c u : Int) (AM AD AW AP : Option Addr) (cM cD cW cP : Nat) (M D : List Int) (W : List (Int × Int)) (P : List Int) (w : World) (hL : ListsIn w AM AD AW AP M D W P) :
    Calls Tryz.prog 54 #[.agg #[.int .i64 f, .int .i64 iv, .int .i64 c, .int .i64 u, .slice AM M.length cM, .slice AD D.length cD, .slice AW W.length cW, .slice AP P.length cP]] w fun e w' => e = .returned (.int .i64 (Rul.lists f M D W P)) ∧ Below w.heap.size w w' := by
  have LM := hL.lm; have LD := hL.ld; have LK := hL.lk; have LP := hL.lp
  have hB : ∀ o, Below w.heap.size w (w.alloc o) := fun o => (Below.refl _ _).alloc (Nat.le_refl _) _
  cases h1 : (Rul.chkL Rul.inM Rul.cmpI M != 0)
  case true =>
    have E := Lib.hid (show Rul.lists f M D W P = Rul.chkL Rul.inM Rul.cmpI M by simp only [Rul.lists, h1, if_true])
    go_enter Tryz.func54, Tryz.ntmps54
    go_wp2_with fail
    refine (checkM_any _ _ _ _ (hL.m.below (hB _)) LM).mono ?_
    rintro e w' ⟨rfl, rfl⟩
    go_wp2
    go_ret
    exact ⟨ret_int E.out.symm, by go_grown⟩
  case false =>
  cases h2 : (Rul.chkL Rul.inD Rul.cmpI D != 0)
  case true =>
    have E := Lib.hid (show Rul.lists f M D W P = Rul.chkL Rul.inD Rul.cmpI D by simp only [Rul.lists, h1, h2, if_true]; rfl)
    go_enter Tryz.func54, Tryz.ntmps54
    go_wp2_with fail
    refine (checkM_any _ _ _ _ (hL.m.below (hB _)) LM).mono ?_
    rintro e w' ⟨rfl, rfl⟩
    go_wp2_with fail
    refine (checkD_any _ _ _ _ (hL.d.below (hB _)) LD).mono ?_
    rintro e w' ⟨rfl, rfl⟩
    go_wp2
    go_ret
    exact ⟨ret_int E.out.symm, by go_grown⟩
  case false =>
  have hB2 : ∀ o o', Below w.heap.size w ((w.alloc o).alloc o') := fun o o' => (hB o).alloc (by simp) _
  cases h3 : (Rul.chkL (Rul.inW f) Rul.cmpN W != 0)
  case true =>
    have E := Lib.hid (show Rul.lists f M D W P = Rul.chkL (Rul.inW f) Rul.cmpN W by simp only [Rul.lists, h1, h2, h3, if_true]; rfl)
    go_enter Tryz.func54, Tryz.ntmps54
    go_wp2_with fail
    refine (checkM_any _ _ _ _ (hL.m.below (hB _)) LM).mono ?_
    rintro e w' ⟨rfl, rfl⟩
    go_wp2_with fail
    refine (checkD_any _ _ _ _ (hL.d.below (hB _)) LD).mono ?_
    rintro e w' ⟨rfl, rfl⟩
    go_wp2_with fail
    refine (maxNth_any _ _).mono ?_
    rintro e w' ⟨rfl, rfl⟩
    go_wp2_with fail
    refine (checkW_any f _ _ _ _ _ (hL.k.below (hB2 _ _)) LK (by simp) (by simp)).mono ?_
    rintro e w3 ⟨rfl, b3⟩
    have B3 : Below w.heap.size w w3 := (hB2 _ _).trans (b3.mono (by simp; omega))
    go_wp2
    go_ret
    exact ⟨ret_int E.out.symm, B3⟩
  case false =>
    have E := Lib.hid (show Rul.lists f M D W P = Rul.chkL Rul.inP Rul.cmpI P by simp only [Rul.lists, h1, h2, h3]; rfl)
    go_enter Tryz.func54, Tryz.ntmps54
    go_wp2_with fail
    refine (checkM_any _ _ _ _ (hL.m.below (hB _)) LM).mono ?_
    rintro e w' ⟨rfl, rfl⟩
    go_wp2_with fail
    refine (checkD_any _ _ _ _ (hL.d.below (hB _)) LD).mono ?_
    rintro e w' ⟨rfl, rfl⟩
    go_wp2_with fail
    refine (maxNth_any _ _).mono ?_
    rintro e w' ⟨rfl, rfl⟩
    go_wp2_with fail
    refine (checkW_any f _ _ _ _ _ (hL.k.below (hB2 _ _)) LK (by simp) (by simp)).mono ?_
    rintro e w3 ⟨rfl, b3⟩
    have B3 : Below w.heap.size w w3 := (hB2 _ _).trans (b3.mono (by simp; omega))
    have c7 : w3.cell? ⟨w.heap.size, 7, none⟩ = some (.slice AP P.length cP) := (b3.cell (p := ⟨w.heap.size, 7, none⟩) (by simp; omega)).trans (by simp)
    clear b3
    go_wp2_with fail
    refine (checkP_any _ _ _ _ (hL.p.below B3) LP).mono ?_
    rintro e w' ⟨rfl, rfl⟩
    go_wp2
    go_ret
    exact ⟨ret_int E.out.symm, B3⟩

theorem odd_eq (f : Int) (M D : List Int) (W : List (Int × Int)) (P : List Int) : Rul.odd f M D W P = (f == 1 && decide (0 < D.length) || decide (0 < P.length) && !(some3 M D W)) := rfl

set_option maxHeartbeats 1000000 in
/-- rule.Check: chapter 2's answer -/
theorem check_any (f iv c u : Int) (AM AD AW AP : Option Addr) (cM cD cW cP : Nat) (M D : List Int) (W : List (Int × Int)) (P : List Int) (w : World) (hL : ListsIn w AM AD AW AP M D W P) :
    Calls Tryz.prog 27 #[.agg #[.int .i64 f, .int .i64 iv, .int .i64 c, .int .i64 u, .slice AM M.length cM, .slice AD D.length cD, .slice AW W.length cW, .slice AP P.length cP]] w fun e w' => e = .returned (.int .i64 (Rul.check f iv c u M D W P)) ∧ Below w.heap.size w w' := by
  have hB : ∀ o, Below w.heap.size w (w.alloc o) := fun o => (Below.refl _ _).alloc (Nat.le_refl _) _
  by_cases f0 : f < 0
  · have E := Lib.hid (show Rul.check f iv c u M D W P = 6 by simp [Rul.check, Rul.noFreq, f0])
    go_enter Tryz.func27, Tryz.ntmps27
    go_wp2
    go_ret
    exact ⟨ret_int E.out.symm, by go_grown⟩
  by_cases f4 : 4 ≤ f
  · have E := Lib.hid (show Rul.check f iv c u M D W P = 6 by simp [Rul.check, Rul.noFreq, f4])
    go_enter Tryz.func27, Tryz.ntmps27
    go_wp2
    go_ret
    exact ⟨ret_int E.out.symm, by go_grown⟩
  have hf : Rul.noFreq f = false := by simp [Rul.noFreq]; omega
  cases h1 : (Rul.nums iv c u != 0)
  case true =>
    have E := Lib.hid (show Rul.check f iv c u M D W P = Rul.nums iv c u by simp only [Rul.check, hf, h1, if_true]; rfl)
    clear hf
    go_enter Tryz.func27, Tryz.ntmps27
    go_wp2_with fail
    refine (checkNumbers_any _ _ _ _ _ _ _ _ _ _ _ _ _ _ _ _ _).mono ?_
    rintro e w1 ⟨rfl, b1⟩
    have B1 : Below w.heap.size w w1 := (hB _).trans (b1.mono (by simp))
    go_wp2
    go_ret
    exact ⟨ret_int E.out.symm, B1⟩
  case false =>
  cases h2 : (Rul.lists f M D W P != 0)
  case true =>
    have E := Lib.hid (show Rul.check f iv c u M D W P = Rul.lists f M D W P by simp only [Rul.check, hf, h1, h2, if_true]; rfl)
    clear hf
    go_enter Tryz.func27, Tryz.ntmps27
    go_wp2_with fail
    refine (checkNumbers_any _ _ _ _ _ _ _ _ _ _ _ _ _ _ _ _ _).mono ?_
    rintro e w1 ⟨rfl, b1⟩
    have B1 : Below w.heap.size w w1 := (hB _).trans (b1.mono (by simp))
    have cs : ∀ i, w1.cell? ⟨w.heap.size, i, none⟩ = (w.alloc (.cells #[.int .i64 f, .int .i64 iv, .int .i64 c, .int .i64 u, .slice AM M.length cM, .slice AD D.length cD, .slice AW W.length cW, .slice AP P.length cP] 36)).cell? ⟨w.heap.size, i, none⟩ := fun i => b1.cell (p := ⟨w.heap.size, i, none⟩) (by simp)
    have hL1 := hL.below B1
    clear b1
    go_wp2_with fail
    refine (checkLists_any _ _ _ _ _ _ _ _ _ _ _ _ _ _ _ _ _ hL1).mono ?_
    rintro e w2 ⟨rfl, b2⟩
    have B2 : Below w.heap.size w w2 := B1.trans (b2.mono B1.size)
    go_wp2
    go_ret
    exact ⟨ret_int E.out.symm, B2⟩
  case false =>
  have E : Hid (Rul.check f iv c u M D W P = if Rul.odd f M D W P then 6 else 0) := Lib.hid (by simp only [Rul.check, hf, h1, h2]; rfl)
  rw [odd_eq] at E
  clear hf
  have LM := hL.lm; have LD := hL.ld; have LK := hL.lk; have LP := hL.lp
  unfold maxLen at LM LD LK LP
  have go : ∀ (Z : Int), Hid (Rul.check f iv c u M D W P = Z) → Hid (Z = if (f == 1 && decide (0 < D.length) || decide (0 < P.length) && !(some3 M D W)) then 6 else 0) → True := fun _ _ _ => trivial
  clear go
  by_cases hD : f = 1 ∧ 0 < D.length
  · obtain ⟨rfl, hD⟩ := hD
    have E' := Lib.hid (show Rul.check 1 iv c u M D W P = 6 by rw [E.out]; simp [hD])
    clear E
    go_enter Tryz.func27, Tryz.ntmps27
    go_wp2_with fail
    refine (checkNumbers_any _ _ _ _ _ _ _ _ _ _ _ _ _ _ _ _ _).mono ?_
    rintro e w1 ⟨rfl, b1⟩
    have B1 : Below w.heap.size w w1 := (hB _).trans (b1.mono (by simp))
    have cs : ∀ i, w1.cell? ⟨w.heap.size, i, none⟩ = (w.alloc (.cells #[.int .i64 1, .int .i64 iv, .int .i64 c, .int .i64 u, .slice AM M.length cM, .slice AD D.length cD, .slice AW W.length cW, .slice AP P.length cP] 36)).cell? ⟨w.heap.size, i, none⟩ := fun i => b1.cell (p := ⟨w.heap.size, i, none⟩) (by simp)
    have hz : w.heap.size < w1.heap.size := by have := b1.size; simp at this; omega
    have hL1 := hL.below B1
    clear b1
    go_wp2_with fail
    refine (checkLists_any _ _ _ _ _ _ _ _ _ _ _ _ _ _ _ _ _ hL1).mono ?_
    rintro e w2 ⟨rfl, b2⟩
    have B2 : Below w.heap.size w w2 := B1.trans (b2.mono B1.size)
    have ds : ∀ i, w2.cell? ⟨w.heap.size, i, none⟩ = (w.alloc (.cells #[.int .i64 1, .int .i64 iv, .int .i64 c, .int .i64 u, .slice AM M.length cM, .slice AD D.length cD, .slice AW W.length cW, .slice AP P.length cP] 36)).cell? ⟨w.heap.size, i, none⟩ := fun i => (b2.cell (p := ⟨w.heap.size, i, none⟩) hz).trans (cs i)
    clear b2 cs
    go_wp2
    go_ret
    exact ⟨ret_int E'.out.symm, B2⟩
  have hQ : ((f == 1) = false) ∨ ((f == 1) = true ∧ ¬ 0 < D.length) := by
    by_cases h : f = 1
    · exact .inr ⟨by simpa using h, fun h' => hD ⟨h, h'⟩⟩
    · exact .inl (by simpa using h)
  by_cases hP : 0 < P.length
  · cases h3 : some3 M D W
    all_goals
      rcases hQ with hq | ⟨hq, hd0⟩
      all_goals
        have E' := Lib.hid (show Rul.check f iv c u M D W P = if (!(some3 M D W)) then 6 else 0 by
          rw [E.out]; simp [hq, hP]; try simp [hd0])
        rw [h3] at E'
        have H3 := Lib.hid h3
        clear E hD h3
        go_enter Tryz.func27, Tryz.ntmps27
        go_wp2_with fail
        refine (checkNumbers_any _ _ _ _ _ _ _ _ _ _ _ _ _ _ _ _ _).mono ?_
        rintro e w1 ⟨rfl, b1⟩
        have B1 : Below w.heap.size w w1 := (hB _).trans (b1.mono (by simp))
        have cs : ∀ i, w1.cell? ⟨w.heap.size, i, none⟩ = (w.alloc (.cells #[.int .i64 f, .int .i64 iv, .int .i64 c, .int .i64 u, .slice AM M.length cM, .slice AD D.length cD, .slice AW W.length cW, .slice AP P.length cP] 36)).cell? ⟨w.heap.size, i, none⟩ := fun i => b1.cell (p := ⟨w.heap.size, i, none⟩) (by simp)
        have hz : w.heap.size < w1.heap.size := by have := b1.size; simp at this; omega
        have hL1 := hL.below B1
        clear b1
        go_wp2_with fail
        refine (checkLists_any _ _ _ _ _ _ _ _ _ _ _ _ _ _ _ _ _ hL1).mono ?_
        rintro e w2 ⟨rfl, b2⟩
        have B2 : Below w.heap.size w w2 := B1.trans (b2.mono B1.size)
        have ds : ∀ i, w2.cell? ⟨w.heap.size, i, none⟩ = (w.alloc (.cells #[.int .i64 f, .int .i64 iv, .int .i64 c, .int .i64 u, .slice AM M.length cM, .slice AD D.length cD, .slice AW W.length cW, .slice AP P.length cP] 36)).cell? ⟨w.heap.size, i, none⟩ := fun i => (b2.cell (p := ⟨w.heap.size, i, none⟩) hz).trans (cs i)
        clear b2 cs
        go_wp2_with fail
        refine (lists_any _ _ _ _ _ _ _ _ _ _ _ _ _ _ _ _ _).mono ?_
        rintro e w3 ⟨rfl, b3⟩
        have B3 : Below w.heap.size w w3 := B2.trans (b3.mono B2.size)
        rw [H3.out]
        go_wp2
        go_ret
        exact ⟨ret_int E'.out.symm, B3⟩
  · rcases hQ with hq | ⟨hq, hd0⟩
    all_goals
      have E' := Lib.hid (show Rul.check f iv c u M D W P = 0 by
        rw [E.out]; simp [hq, hP]; try exact List.eq_nil_of_length_eq_zero (by omega))
      clear E hD
      go_enter Tryz.func27, Tryz.ntmps27
      go_wp2_with fail
      refine (checkNumbers_any _ _ _ _ _ _ _ _ _ _ _ _ _ _ _ _ _).mono ?_
      rintro e w1 ⟨rfl, b1⟩
      have B1 : Below w.heap.size w w1 := (hB _).trans (b1.mono (by simp))
      have cs : ∀ i, w1.cell? ⟨w.heap.size, i, none⟩ = (w.alloc (.cells #[.int .i64 f, .int .i64 iv, .int .i64 c, .int .i64 u, .slice AM M.length cM, .slice AD D.length cD, .slice AW W.length cW, .slice AP P.length cP] 36)).cell? ⟨w.heap.size, i, none⟩ := fun i => b1.cell (p := ⟨w.heap.size, i, none⟩) (by simp)
      have hz : w.heap.size < w1.heap.size := by have := b1.size; simp at this; omega
      have hL1 := hL.below B1
      clear b1
      go_wp2_with fail
      refine (checkLists_any _ _ _ _ _ _ _ _ _ _ _ _ _ _ _ _ _ hL1).mono ?_
      rintro e w2 ⟨rfl, b2⟩
      have B2 : Below w.heap.size w w2 := B1.trans (b2.mono B1.size)
      have ds : ∀ i, w2.cell? ⟨w.heap.size, i, none⟩ = (w.alloc (.cells #[.int .i64 f, .int .i64 iv, .int .i64 c, .int .i64 u, .slice AM M.length cM, .slice AD D.length cD, .slice AW W.length cW, .slice AP P.length cP] 36)).cell? ⟨w.heap.size, i, none⟩ := fun i => (b2.cell (p := ⟨w.heap.size, i, none⟩) hz).trans (cs i)
      clear b2 cs
      go_wp2
      go_ret
      exact ⟨ret_int E'.out.symm, B2⟩
end Go.Proofs.YtocpmljkmdpfkaaGreatDoor
