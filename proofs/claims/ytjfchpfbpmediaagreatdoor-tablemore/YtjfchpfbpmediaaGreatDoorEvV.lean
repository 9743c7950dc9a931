/-
  Letters: a text's length, its bytes; errors.
-/
import Derived.Test.YtjfchpfbpmediaaGreatDoorEvT
namespace Go.Proofs.YtjfchpfbpmediaaGreatDoor
open Go Go.RowKit
def lenE (t : TypeId) (x r : Value) : OE :=
  ⟨fun o ρ => match o with
    | .call ⟨.builtin .len, ⟨[a]⟩, ⟨[t']⟩⟩ => Nat.beq t' t && pq (ρ a) x
    | _ => false, r⟩
theorem lenE_ok [Ltr] {t : TypeId} {x r : Value} (h : ∀ (o : Oper) (ρ : Operand → Value) (a : Operand) (E : Ren) (w : World), o.op = .call ⟨.builtin .len, #[a], #[t]⟩ → Rel E x (ρ a) → ∃ v, (execOp ρ o).run Tryz.prog w = .ok (.value v) w ∧ Rel E r v) : OEOk Tryz.prog (lenE t x r) := by
  intro o ρ ρ' E hr hf w
  simp only [lenE] at hf
  split at hf
  · rename_i a t' ho
    simp only [Bool.and_eq_true] at hf
    obtain ⟨h2, h4⟩ := hf
    rw [ho] at hr
    have ra := hr a (by simp [Op.operands, Call.operands])
    rw [pq_eq h4] at ra
    rw [Nat.eq_of_beq_eq_true h2] at ho
    obtain ⟨v, h6, h7⟩ := h o ρ' a E w ho ra
    exact ⟨v, h6, h7, fun c e => by rw [ho] at e; cases e⟩
  · cases hf
end Go.Proofs.YtjfchpfbpmediaaGreatDoor
/-
  Letters: slices of texts: length, beginning, the address of an element, what lies there.
-/
namespace Go.Proofs.YtjfchpfbpmediaaGreatDoor
open Go Go.RowKit
/-- a slice's length -/
theorem l_sl [Ltr] {i j n c : Nat} {A : Option Addr} (hi : Ltr.v i = some (.slice A n c)) (hj : Ltr.v j = some (.int .i64 n)) : OEOk Tryz.prog (lenE 37 (Lt i) (Lt j)) :=
  lenE_ok fun o ρ a E w ho ha => by
    have e1 := is_ltr hi E _ ha
    refine ⟨.int .i64 n, ?_, .ltr hj rfl⟩
    simp only [execOp, ho]
    go_simp
/-- the address of an element -/
def iaE (t : TypeId) (x y r : Value) : OE :=
  ⟨fun o ρ => match o with
    | .indexAddr t' a b => Nat.beq t' t && pq (ρ a) x && pq (ρ b) y
    | _ => false, r⟩
theorem iaE_ok [Ltr] {t : TypeId} {x y r : Value} (h : ∀ (o : Oper) (ρ : Operand → Value) (a b : Operand) (E : Ren) (w : World), o.op = .indexAddr t a b → Rel E x (ρ a) → Rel E y (ρ b) → ∃ v, (execOp ρ o).run Tryz.prog w = .ok (.value v) w ∧ Rel E r v) : OEOk Tryz.prog (iaE t x y r) := by
  intro o ρ ρ' E hr hf w
  simp only [iaE] at hf
  split at hf
  · rename_i t' a b ho
    simp only [Bool.and_eq_true] at hf
    obtain ⟨⟨h2, h4⟩, h5⟩ := hf
    rw [ho] at hr
    have ra := hr a (by simp [Op.operands])
    have rb := hr b (by simp [Op.operands])
    rw [pq_eq h4] at ra
    rw [pq_eq h5] at rb
    rw [Nat.eq_of_beq_eq_true h2] at ho
    obtain ⟨v, h6, h7⟩ := h o ρ' a b E w ho ra rb
    exact ⟨v, h6, h7, fun c e => by rw [ho] at e; cases e⟩
  · cases hf
theorem a_el [Ltr] {i j k n c d : Nat} {A : Addr} (hi : Ltr.v i = some (.slice (some A) n c)) (hk : Ltr.v k = some (.int .i64 d)) (hj : Ltr.v j = some (.pointer (some (A.add d)))) (h : d < n) : OEOk Tryz.prog (iaE 37 (Lt i) (Lt k) (Lt j)) :=
  iaE_ok fun o ρ a b E w ho ha hb => by
    have e1 := is_ltr hi E _ ha
    have e2 := is_ltr hk E _ hb
    refine ⟨.pointer (some (A.add d)), ?_, .ltr hj rfl⟩
    simp only [execOp, ho, e1]
    go_simp
/-- what lies at an address -/
def ldE (t : TypeId) (x r : Value) : OE :=
  ⟨fun o ρ => match o with
    | .load t' a => Nat.beq t' t && pq (ρ a) x
    | _ => false, r⟩
theorem l_el [Ltr] {X : Kep} {i j : Nat} {A : Addr} {s : ByteArray} (hi : Ltr.v i = some (.pointer (some A))) (hj : Ltr.v j = some (.string s)) (h : ∀ w : World, (∀ b, X b → w.heap[b]? = X.ob b) → w.cell? A = some (.string s)) : OEOkX Tryz.prog X (ldE 9 (Lt i) (Lt j)) := by
  intro o ρ ρ' E hr hf w hx
  simp only [ldE] at hf
  split at hf
  · rename_i t' a ho
    simp only [Bool.and_eq_true] at hf
    obtain ⟨h2, h4⟩ := hf
    rw [ho] at hr
    have ra := hr a (by simp [Op.operands])
    rw [pq_eq h4] at ra
    rw [Nat.eq_of_beq_eq_true h2] at ho
    have e1 := is_ltr hi E _ ra
    have hc := h w hx
    refine ⟨.string s, ?_, .ltr hj rfl, fun c e => by rw [ho] at e; cases e⟩
    simp only [execOp, ho, e1]
    go_simp
  · cases hf
end Go.Proofs.YtjfchpfbpmediaaGreatDoor
