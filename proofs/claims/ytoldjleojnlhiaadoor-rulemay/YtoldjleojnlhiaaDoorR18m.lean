/-
  The law's Check: its last region, whole: whether chapter 2 finds the parts at odds.
-/
import Derived.Test.YtoldjleojnlhiaaDoorR18l
namespace Go.Proofs.YtoldjleojnlhiaaDoor
open Go.RowKit
theorem reg32_all (a0 : Act) (w : World) (Q : Exit → Act → World → Prop) (b : Nat) (f : Int) (AM AD AW AP : Option Addr) (cM cD cW cP : Nat) (M D : List Int) (W : List (Int × Int)) (P : List Int) (hs0 : a0.tmps.size = 236) (h1 : a0.tmps.getD 1 undef = .pointer (some ⟨b, 0, none⟩))
    (e0 : w.cell? ⟨b, 0, none⟩ = some (.int .i64 f)) (e4 : w.cell? ⟨b, 4, none⟩ = some (.slice AM M.length cM)) (e5 : w.cell? ⟨b, 5, none⟩ = some (.slice AD D.length cD)) (e6 : w.cell? ⟨b, 6, none⟩ = some (.slice AW W.length cW)) (e7 : w.cell? ⟨b, 7, none⟩ = some (.slice AP P.length cP))
    (hR : ∀ a' : Act, Keep 203 235 235 a0.tmps a'.tmps → a'.defers = a0.defers → a'.tmps.getD 235 undef = .bool (Rul.odd f M D W P) → Q .normal a' w) :
    (Code.region 32 ops32 false).wp Tryd.prog Q a0 w := by
  have zl : ∀ n : Nat, ((n : Int) == 0) = !(decide (0 < n)) := fun n => by cases n with
    | zero => rfl
    | succ n => rw [show decide (0 < n + 1) = true by simp]; simp; omega
  have gl : ∀ n : Nat, decide ((0 : Int) < n) = decide (0 < n) := fun n => by simp
  cases gD : decide (0 < D.length)
  · cases gP : decide (0 < P.length)
    · exact reg32_n a0 w Q b f AM AD AW AP cM cD cW cP M D W P hs0 h1 e0 e4 e5 e6 e7 (by rw [gl, gD]) (by rw [gl, gP]) (fun a' k d h => hR a' k d (by rw [h]; simp only [Rul.odd, gD, gP, Bool.and_false, Bool.false_and, Bool.or_false]))
    · cases gM : decide (0 < M.length)
      · cases gW : decide (0 < W.length)
        · exact reg32_p00 a0 w Q b f AM AD AW AP cM cD cW cP M D W P hs0 h1 e0 e4 e5 e6 e7 (by rw [gl, gD]) (by rw [gl, gP]) (by rw [zl, gM]; rfl) (by rw [zl, gD]; rfl) (by rw [zl, gW]; rfl) (fun a' k d h => hR a' k d (by rw [h]; simp only [Rul.odd, gD, gP, gM, gW]; cases (f == 1) <;> rfl))
        · exact reg32_p0w a0 w Q b f AM AD AW AP cM cD cW cP M D W P hs0 h1 e0 e4 e5 e6 e7 (by rw [gl, gD]) (by rw [gl, gP]) (by rw [zl, gM]; rfl) (by rw [zl, gD]; rfl) (by rw [zl, gW]; rfl) (fun a' k d h => hR a' k d (by rw [h]; simp only [Rul.odd, gD, gP, gM, gW]; cases (f == 1) <;> rfl))
      · exact reg32_pm a0 w Q b f AM AD AW AP cM cD cW cP M D W P hs0 h1 e0 e4 e5 e6 e7 (by rw [gl, gD]) (by rw [gl, gP]) (by rw [zl, gM]; rfl) (fun a' k d h => hR a' k d (by rw [h]; simp only [Rul.odd, gD, gP, gM]; cases (f == 1) <;> rfl))
  · cases hf : (f == 1)
    · cases gP : decide (0 < P.length)
      · exact reg32_dn a0 w Q b f AM AD AW AP cM cD cW cP M D W P hs0 h1 e0 e4 e5 e6 e7 (by rw [gl, gD]) hf (by rw [gl, gP]) (fun a' k d h => hR a' k d (by rw [h]; simp only [Rul.odd, gD, gP, hf]; rfl))
      · cases gM : decide (0 < M.length)
        · exact reg32_dp0 a0 w Q b f AM AD AW AP cM cD cW cP M D W P hs0 h1 e0 e4 e5 e6 e7 (by rw [gl, gD]) hf (by rw [gl, gP]) (by rw [zl, gM]; rfl) (by rw [zl, gD]; rfl) (fun a' k d h => hR a' k d (by rw [h]; simp only [Rul.odd, gD, gP, gM, hf]; rfl))
        · exact reg32_dpm a0 w Q b f AM AD AW AP cM cD cW cP M D W P hs0 h1 e0 e4 e5 e6 e7 (by rw [gl, gD]) hf (by rw [gl, gP]) (by rw [zl, gM]; rfl) (fun a' k d h => hR a' k d (by rw [h]; simp only [Rul.odd, gD, gP, gM, hf]; rfl))
    · exact reg32_df a0 w Q b f AM AD AW AP cM cD cW cP M D W P hs0 h1 e0 e4 e5 e6 e7 (by rw [gl, gD]) hf (fun a' k d h => hR a' k d (by rw [h]; simp only [Rul.odd, gD, hf]; rfl))

end Go.Proofs.YtoldjleojnlhiaaDoor
