/-
  The walk of the law RuleRaw, out of the contracts.
-/
import Derived.Test.YtoldjleojnlhiaaDoorR21
import Derived.Test.YtoldjleojnlhiaaDoorR17
namespace Go.Proofs.YtoldjleojnlhiaaDoor
open Go.RowKit
set_option maxHeartbeats 1000000 in
set_option maxRecDepth 100000 in
theorem ruleRaw_walk (f iv c u : Int) (AM AD AW AP : Option Addr) (cM cD cW cP : Nat) (M D : List Int) (W : List (Int × Int)) (P : List Int) (w : World) (hM : Months w) (hL : ListsIn w AM AD AW AP M D W P) :
    Calls Tryd.prog 4 #[.agg #[.int .i64 f, .int .i64 iv, .int .i64 c, .int .i64 u, .slice AM M.length cM, .slice AD D.length cD, .slice AW W.length cW, .slice AP P.length cP]] w fun e w' => e = .returned (.bool true) ∧ Below w.heap.size w w' := by
  have LM := hL.lm; have LD := hL.ld; have LK := hL.lk; have LP := hL.lp
  unfold maxLen at LM LD LK LP
  have B0 : ∀ o, Below w.heap.size w (w.alloc o) := fun o => (Below.refl _ _).alloc (Nat.le_refl _) _
  by_cases hlen : 80 < M.length ∨ 80 < D.length ∨ 80 < W.length ∨ 80 < P.length
  · have HL := Lib.hid hlen
    clear hlen
    go_enter Tryd.func4, Tryd.ntmps4
    go_wp2_with fail
    refine (awake2 _ (hM.grown (B0 _))).mono ?_
    rintro e w1 ⟨rfl, b1⟩
    have B1 := (B0 _).trans (b1.mono (B0 _).size)
    have cs : ∀ i, w1.cell? ⟨w.heap.size, i, none⟩ = _ := fun i => b1.cell (p := ⟨w.heap.size, i, none⟩) (by simp)
    clear b1
    have h := HL.out
    clear HL
    by_cases m : 80 < M.length
    · go_wp2
      go_ret
      exact ⟨rfl, B1⟩
    by_cases d : 80 < D.length
    · go_wp2
      go_ret
      exact ⟨rfl, B1⟩
    by_cases k : 80 < W.length
    · go_wp2
      go_ret
      exact ⟨rfl, B1⟩
    · have p : 80 < P.length := by omega
      go_wp2
      go_ret
      exact ⟨rfl, B1⟩
  · obtain ⟨m, d, k, p⟩ : ¬ 80 < M.length ∧ ¬ 80 < D.length ∧ ¬ 80 < W.length ∧ ¬ 80 < P.length := by omega
    clear hlen
    go_enter Tryd.func4, Tryd.ntmps4
    refine Code.wp_mono NoPanic.imp ?_
    have hQ : Blind (NoPanic (bodyPost Tryd.prog Tryd.f4 fun e w' => e = .returned (.bool true) ∧ Below w.heap.size w w')) := fun _ _ _ _ q => q.elim
    go_wp2_with fail
    refine (awake2 _ (hM.grown (B0 _))).mono ?_
    rintro e w1 ⟨rfl, b1⟩
    have B1 := (B0 _).trans (b1.mono (B0 _).size)
    have cs : ∀ i, w1.cell? ⟨w.heap.size, i, none⟩ = _ := fun i => b1.cell (p := ⟨w.heap.size, i, none⟩) (by simp)
    have z1 : w.heap.size < w1.heap.size := Nat.lt_of_lt_of_le (by simp) b1.size
    clear b1
    go_wp2_with fail
    rename_i K hK
    refine twoRaw _ _ _ (blind_then hQ) w.heap.size f iv c u AM AD AW AP cM cD cW cP M D W P rfl rfl
      ⟨z1, (cs 0).trans (by simp), (cs 1).trans (by simp), (cs 2).trans (by simp), (cs 3).trans (by simp), (cs 4).trans (by simp), (cs 5).trans (by simp), (cs 6).trans (by simp), (cs 7).trans (by simp)⟩ (hL.below B1) ?_
    intro a' w' h2 hd' hb
    refine hK _ _ (wp_ret ?_)
    exact ⟨hd', _, results_tmp rfl _ _ _, by rw [h2], B1.trans (hb.mono B1.size)⟩
end Go.Proofs.YtoldjleojnlhiaaDoor
