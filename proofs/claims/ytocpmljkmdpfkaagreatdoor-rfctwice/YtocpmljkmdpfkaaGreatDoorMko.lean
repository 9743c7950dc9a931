/-
  What Make makes may be printed.
-/
import Derived.Test.YtocpmljkmdpfkaaGreatDoorAwk3
namespace Go.Proofs.YtocpmljkmdpfkaaGreatDoor
open Go.RowKit
theorem Four.plain {w : World} {n0 : Nat} {A1 A2 A3 A4 : Option Addr} {c1 c2 c3 c4 : Nat} {M D : List Int} {K : List (Int × Int)} {P : List Int} {tD tW tP : Nat} (h : Four w n0 A1 A2 A3 A4 c1 c2 c3 c4 M D K P tD tW tP) : PlainR w A1 A2 A3 A4 M D K P :=
  ⟨h.oM.plain, h.oD.plain, h.oW.plain, h.oP.plain, h.lists.lm, h.lists.ld, h.lists.lk, h.lists.lp⟩
theorem odd_not' {f : Int} {M D : List Int} {W : List (Int × Int)} {P : List Int} (h1 : f = 1 → D = []) (h2 : P ≠ [] → 0 < M.length + D.length + W.length) : Rul.odd f M D W P = false := by
  have a1 : (f == 1 && decide (0 < D.length)) = false := by
    by_cases hf : f = 1
    · rw [h1 hf]; simp
    · simp [hf]
  have a2 : (decide (0 < P.length) && !(decide (0 < M.length) || decide (0 < D.length) || decide (0 < W.length))) = false := by
    by_cases hp : P = []
    · rw [hp]; simp
    · have h3 : 0 < M.length ∨ 0 < D.length ∨ 0 < W.length := by have := h2 hp; omega
      rcases h3 with h3 | h3 | h3
      · rw [decide_eq_true h3]; simp
      · rw [decide_eq_true h3]; simp
      · rw [decide_eq_true h3]; simp
  unfold Rul.odd
  rw [a1, a2]
  rfl
/-- what Make makes may be printed -/
theorem make_okay {w : World} {F I E C U : Int} {AM AD AW AP : Option Addr} {lm ld : List Int} {lw : List (Int × Int)} {lp : List Int} (hX : XIn w F I E C U AM AD AW AP lm ld lw lp) (h1 : lm.length ≤ 64) (h2 : ld.length ≤ 64) (h3 : lw.length ≤ 64) (h4 : lp.length ≤ 64) :
    Rul.check (F.tmod 4) (Mk.iv I) (Mk.cnt E C) (Mk.unt E U) (Mk.mon lm) (Mk.D F ld) ((Mk.W F lw).map (·.1)) (Mk.P F lm ld lw lp) = 0 ∧ (0 ≤ F.tmod 4 ∧ F.tmod 4 ≤ 3) ∧ (∀ x ∈ ((Mk.W F lw).map (·.1)), 0 ≤ x.2 ∧ x.2 ≤ 6) ∧ ∃ t, Okay (F.tmod 4) (Mk.iv I) (Mk.cnt E C) (Mk.unt E U) t (Mk.mon lm) (Mk.D F ld) ((Mk.W F lw).map (·.1)) (Mk.P F lm ld lw lp) := by
  obtain ⟨k1, k2, k3, k4, k5, k6, k7, k8, k9, k10, k11, k12, k13, k14⟩ := make_ok hX h1 h2 h3 h4
  have hf : 0 ≤ F.tmod 4 ∧ F.tmod 4 ≤ 3 := by
    rw [Int.tmod_eq_emod_of_nonneg hX.bF.1]
    omega
  have hc : 0 ≤ Mk.cnt E C ∧ Mk.cnt E C ≤ 9999 := by
    have := Int.tmod_eq_emod_of_nonneg (b := 9999) hX.bC.1
    unfold Mk.cnt; split <;> omega
  have hu : 0 ≤ Mk.unt E U ∧ Mk.unt E U ≤ 3652059 := by
    have := Int.tmod_eq_emod_of_nonneg (b := 3652059) hX.bU.1
    unfold Mk.unt; split <;> omega
  have hw : ∀ x ∈ ((Mk.W F lw).map (·.1)), (-53 ≤ x.1 ∧ x.1 ≤ 53) ∧ (0 ≤ x.2 ∧ x.2 ≤ 6) := fun x hx => by
    have := k3.i x hx
    have hm := Rul.most_bd (F.tmod 4)
    simp [Rul.inW, Rul.btw] at this
    omega
  have hck : Rul.check (F.tmod 4) (Mk.iv I) (Mk.cnt E C) (Mk.unt E U) (Mk.mon lm) (Mk.D F ld) ((Mk.W F lw).map (·.1)) (Mk.P F lm ld lw lp) = 0 := by
    have b3 : Rul.lists (F.tmod 4) (Mk.mon lm) (Mk.D F ld) ((Mk.W F lw).map (·.1)) (Mk.P F lm ld lw lp) = 0 := by
      simp only [Rul.lists, k1.chk k5, k2.chk k6, k3.chk k7, k4.chk k8]
      rfl
    unfold Rul.check Rul.nums
    rw [k9, k12, k13, b3, odd_not' k10 k11]
    rfl
  refine ⟨hck, hf, fun x hx => (hw x hx).2, ?_⟩
  have hun : ∃ t, Rfc.Un (Mk.unt E U) t := by
    by_cases h : Mk.unt E U = 0
    · exact ⟨[], .inl ⟨h, rfl⟩⟩
    · obtain ⟨y, m, d, hi⟩ := Cal.is_ex (Mk.unt E U) (by omega) hu.2
      exact ⟨_, .inr ⟨y, m, d, hi, rfl⟩⟩
  obtain ⟨t, ht⟩ := hun
  refine ⟨t, hf, by omega, by omega, ht, by omega, by omega, by omega, by omega, fun x hx => ?_, fun x hx => ?_, fun x hx => ⟨by have := hw x hx; omega, (hw x hx).2⟩, fun x hx => ?_⟩
  · have := k1.i x hx; simp [Rul.inM, Rul.btw] at this; omega
  · have := k2.i x hx; simp [Rul.inD, Rul.btw] at this; omega
  · have := k4.i x hx; simp [Rul.inP, Rul.btw] at this; omega
/-- lists of 20 at most make lists of 20 at most -/
theorem make_20 {F : Int} {lm ld : List Int} {lw : List (Int × Int)} {lp : List Int} (h1 : lm.length ≤ 20) (h2 : ld.length ≤ 20) (h3 : lw.length ≤ 20) (h4 : lp.length ≤ 20) :
    (Mk.mon lm).length ≤ 20 ∧ (Mk.D F ld).length ≤ 20 ∧ ((Mk.W F lw).map (·.1)).length ≤ 20 ∧ (Mk.P F lm ld lw lp).length ≤ 20 := by
  refine ⟨Nat.le_trans (Mk.mon_len lm) h1, Nat.le_trans (Mk.D_len F ld) h2, Nat.le_trans (Mk.W_len F lw) h3, ?_⟩
  unfold Mk.P
  split
  · exact Nat.le_trans (Mk.few_len _ _) h4
  · simp
end Go.Proofs.YtocpmljkmdpfkaaGreatDoor
