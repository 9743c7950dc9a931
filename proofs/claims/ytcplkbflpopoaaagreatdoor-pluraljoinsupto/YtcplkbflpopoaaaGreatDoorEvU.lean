/-
  Letters: a text's length, its bytes; errors.
-/
import Derived.Test.YtcplkbflpopoaaaGreatDoorEvT
namespace Go.Proofs.YtcplkbflpopoaaaGreatDoor
open Go Go.RowKit
def lenE (t : TypeId) (x r : Value) : OE :=
  ⟨fun o ρ => match o with
    | .call ⟨.builtin .len, ⟨[a]⟩, ⟨[t']⟩⟩ => Nat.beq t' t && pq (ρ a) x
    | _ => false, r⟩
theorem lenE_ok [Ltr] {t : TypeId} {x r : Value} (h : ∀ (o : Oper) (ρ : Operand → Value) (a : Operand) (E : Ren) (w : World), o.op = .call ⟨.builtin .len, #[a], #[t]⟩ → Rel E x (ρ a) → ∃ v, (execOp ρ o).run Tryz.prog w = .ok (.value v) w ∧ Rel E r v) : OEOk Tryz.prog (lenE t x r) := by
  intro o ρ ρ' E hr hf w
  simp only [lenE] at hf
  split at hf
  · rename_i a t' ho
    simp only [Bool.and_eq_true] at hf
    obtain ⟨h2, h4⟩ := hf
    rw [ho] at hr
    have ra := hr a (by simp [Op.operands, Call.operands])
    rw [pq_eq h4] at ra
    rw [Nat.eq_of_beq_eq_true h2] at ho
    obtain ⟨v, h6, h7⟩ := h o ρ' a E w ho ra
    exact ⟨v, h6, h7, fun c e => by rw [ho] at e; cases e⟩
  · cases hf
/-- a text's length -/
theorem l_str [Ltr] {i j : Nat} {t : List UInt8} (hi : Ltr.v i = some (.string ⟨⟨t⟩⟩)) (hj : Ltr.v j = some (.int .i64 t.length)) : OEOk Tryz.prog (lenE 9 (Lt i) (Lt j)) :=
  lenE_ok fun o ρ a E w ho ha => by
    have e1 := is_ltr hi E _ ha
    refine ⟨.int .i64 t.length, ?_, .ltr hj rfl⟩
    have e : ((⟨⟨t⟩⟩ : ByteArray).size : Int) = t.length := rfl
    rw [← e]
    simp only [execOp, ho]
    go_simp
end Go.Proofs.YtcplkbflpopoaaaGreatDoor
