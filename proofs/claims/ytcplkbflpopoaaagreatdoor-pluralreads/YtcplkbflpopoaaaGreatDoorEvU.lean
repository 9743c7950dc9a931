/-
  Letters: a text's length, its bytes; errors.
-/
import Derived.Test.YtcplkbflpopoaaaGreatDoorEvT
namespace Go.Proofs.YtcplkbflpopoaaaGreatDoor
open Go Go.RowKit
def lenE (t : TypeId) (x r : Value) : OE :=
  ⟨fun o ρ => match o with
    | .call ⟨.builtin .len, ⟨[a]⟩, ⟨[t']⟩⟩ => Nat.beq t' t && pq (ρ a) x
    | _ => false, r⟩
theorem lenE_ok [Ltr] {t : TypeId} {x r : Value} (h : ∀ (o : Oper) (ρ : Operand → Value) (a : Operand) (E : Ren) (w : World), o.op = .call ⟨.builtin .len, #[a], #[t]⟩ → Rel E x (ρ a) → ∃ v, (execOp ρ o).run Tryz.prog w = .ok (.value v) w ∧ Rel E r v) : OEOk Tryz.prog (lenE t x r) := by
  intro o ρ ρ' E hr hf w
  simp only [lenE] at hf
  split at hf
  · rename_i a t' ho
    simp only [Bool.and_eq_true] at hf
    obtain ⟨h2, h4⟩ := hf
    rw [ho] at hr
    have ra := hr a (by simp [Op.operands, Call.operands])
    rw [pq_eq h4] at ra
    rw [Nat.eq_of_beq_eq_true h2] at ho
    obtain ⟨v, h6, h7⟩ := h o ρ' a E w ho ra
    exact ⟨v, h6, h7, fun c e => by rw [ho] at e; cases e⟩
  · cases hf
/-- a text's length -/
theorem l_str [Ltr] {i j : Nat} {t : List UInt8} (hi : Ltr.v i = some (.string ⟨⟨t⟩⟩)) (hj : Ltr.v j = some (.int .i64 t.length)) : OEOk Tryz.prog (lenE 9 (Lt i) (Lt j)) :=
  lenE_ok fun o ρ a E w ho ha => by
    have e1 := is_ltr hi E _ ha
    refine ⟨.int .i64 t.length, ?_, .ltr hj rfl⟩
    have e : ((⟨⟨t⟩⟩ : ByteArray).size : Int) = t.length := rfl
    rw [← e]
    simp only [execOp, ho]
    go_simp
def idxE (t : TypeId) (x y r : Value) : OE :=
  ⟨fun o ρ => match o with
    | .index t' a b => Nat.beq t' t && pq (ρ a) x && pq (ρ b) y
    | _ => false, r⟩
theorem idxE_ok [Ltr] {t : TypeId} {x y r : Value} (h : ∀ (o : Oper) (ρ : Operand → Value) (a b : Operand) (E : Ren) (w : World), o.op = .index t a b → Rel E x (ρ a) → Rel E y (ρ b) → ∃ v, (execOp ρ o).run Tryz.prog w = .ok (.value v) w ∧ Rel E r v) : OEOk Tryz.prog (idxE t x y r) := by
  intro o ρ ρ' E hr hf w
  simp only [idxE] at hf
  split at hf
  · rename_i t' a b ho
    simp only [Bool.and_eq_true] at hf
    obtain ⟨⟨h2, h4⟩, h5⟩ := hf
    rw [ho] at hr
    have ra := hr a (by simp [Op.operands])
    have rb := hr b (by simp [Op.operands])
    rw [pq_eq h4] at ra
    rw [pq_eq h5] at rb
    rw [Nat.eq_of_beq_eq_true h2] at ho
    obtain ⟨v, h6, h7⟩ := h o ρ' a b E w ho ra rb
    exact ⟨v, h6, h7, fun c e => by rw [ho] at e; cases e⟩
  · cases hf
/-- a text's byte -/
theorem i_str [Ltr] {i j k : Nat} {t : List UInt8} (hi : Ltr.v i = some (.string ⟨⟨t⟩⟩)) (hk : k < t.length) (hj : Ltr.v j = some (.int .u8 (t[k].toNat : Nat))) : OEOk Tryz.prog (idxE 9 (Lt i) (.int .i64 k) (Lt j)) :=
  idxE_ok fun o ρ a b E w ho ha hb => by
    have e1 := is_ltr hi E _ ha
    have e2 := is_flat rfl E _ hb
    refine ⟨.int .u8 (t[k].toNat : Nat), ?_, .ltr hj rfl⟩
    have hk' : k < (⟨⟨t⟩⟩ : ByteArray).size := hk
    have e : (⟨⟨t⟩⟩ : ByteArray)[k] = t[k] := rfl
    rw [← e]
    simp only [execOp, ho, e1, e2]
    go_simp
/-- an error is not nil -/
theorem e_nn [Ltr] {i : Nat} (hq : ∀ u, Ltr.q i u → ∃ t p, u = .iface t p) : OEOk Tryz.prog (binT .neq 37 37 (Qt i) .nilIface (.bool true)) :=
  binT_ok fun o ρ x y E w ho hx hy => by
    obtain ⟨t, p, e1⟩ := hq _ hx.known
    have e2 := is_flat rfl E _ hy
    refine ⟨.bool true, ?_, .same rfl⟩
    simp only [execOp, ho, e1, e2]
    go_simp
theorem b_le {n m : Nat} {b : Bool} (h : decide (n ≤ m) = b) : binX .leq (.int .u8 n) (.int .u8 m) = some (.bool b) := by
  subst h
  show some (Value.bool (decide ((n : Int) ≤ m))) = _
  rw [show decide ((n : Int) ≤ m) = decide (n ≤ m) by rw [Bool.eq_iff_iff]; simp]
theorem b_ge {n m : Nat} {b : Bool} (h : decide (m ≤ n) = b) : binX .geq (.int .u8 n) (.int .u8 m) = some (.bool b) := by
  subst h
  show some (Value.bool (decide ((n : Int) ≥ m))) = _
  rw [show decide ((n : Int) ≥ m) = decide (m ≤ n) by rw [Bool.eq_iff_iff]; simp]
end Go.Proofs.YtcplkbflpopoaaaGreatDoor
