/-
  Letters: the less and the greater of two numbers.
-/
import Derived.Test.YtdobdmbdibnppaaGreatDoorEvT
namespace Go.Proofs.YtdobdmbdibnppaaGreatDoor
open Go Go.RowKit
def minE (x y r : Value) : OE :=
  ⟨fun o ρ => match o with
    | .call ⟨.builtin .min, ⟨[a, b]⟩, _⟩ => pq (ρ a) x && pq (ρ b) y
    | _ => false, r⟩
theorem minE_ok [Ltr] {x y r : Value} {a b c : Int} (hx : ∀ (E : Ren) z, Rel E x z → z = .int .i64 a) (hy : ∀ (E : Ren) z, Rel E y z → z = .int .i64 b) (h : (if b < a then b else a) = c) (hr : ∀ E : Ren, Rel E r (.int .i64 c)) : OEOk Tryz.prog (minE x y r) := by
  intro o ρ ρ' E hq hf w
  simp only [minE] at hf
  split at hf
  · rename_i u v t ho
    simp only [Bool.and_eq_true] at hf
    obtain ⟨h2, h4⟩ := hf
    rw [ho] at hq
    have ra := hq u (by simp [Op.operands, Call.operands])
    have rb := hq v (by simp [Op.operands, Call.operands])
    rw [pq_eq h2] at ra
    rw [pq_eq h4] at rb
    have e1 := hx E _ ra
    have e2 := hy E _ rb
    refine ⟨.int .i64 c, ?_, hr E, fun c e => by rw [ho] at e; cases e⟩
    subst h
    simp only [execOp, ho]
    go_simp
  · cases hf
end Go.Proofs.YtdobdmbdibnppaaGreatDoor
