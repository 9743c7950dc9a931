/-
  Two Spans compared; the law ExpandParts over letters.
-/
import Derived.Test.YtdobdmbdibnppaaGreatDoorXp2
import Derived.Test.YtdobdmbdibnppaaGreatDoorXp3
namespace Go.Proofs.YtdobdmbdibnppaaGreatDoor
open Go Go.RowKit
theorem period_per {f : Nat} (hf : f < 4) {a s e : Int} (h : Cal.Per f a s e) (w : World) (hT : TabsE tabs w) :
    Calls Tryz.prog 6 #[.int .i64 f, .int .i64 a] w fun r w' => r = .returned (.agg ⟨[.int .i64 s, .int .i64 e]⟩) ∧ Below w.heap.size w w' := by
  obtain ⟨y, m, n, h, rfl, rfl⟩ := h
  exact period_any f hf a y m n h w hT
/-- a period is itself -/
def spnE (t : TypeId) (a b : Nat) : OE :=
  ⟨fun o ρ => match o with
    | .binOp .neq t' x y t'' => match ρ x, ρ y with
      | .agg ⟨[u1, u2]⟩, .agg ⟨[v1, v2]⟩ => Nat.beq t' t && Nat.beq t'' t && pqs [u1, u2] [Lt a, Lt b] && pqs [v1, v2] [Lt a, Lt b]
      | _, _ => false
    | _ => false, .bool false⟩
theorem spnE_ok [Ltr] {a b : Nat} {u v : Int} (ha : Ltr.v a = some (.int .i64 u)) (hb : Ltr.v b = some (.int .i64 v)) : OEOk Tryz.prog (spnE 28 a b) := by
  intro o ρ ρ' E hr hf w
  simp only [spnE] at hf
  split at hf
  · rename_i t' x y t'' ho
    split at hf
    · rename_i u1 u2 v1 v2 h1 h2
      simp only [Bool.and_eq_true] at hf
      obtain ⟨⟨⟨k1, k2⟩, k3⟩, k4⟩ := hf
      rw [ho] at hr
      have ra := hr x (by simp [Op.operands])
      have rb := hr y (by simp [Op.operands])
      rw [h1, pqs_eq k3] at ra
      rw [h2, pqs_eq k4] at rb
      have e1 := span_of ha hb ra
      have e2 := span_of ha hb rb
      rw [Nat.eq_of_beq_eq_true k1, Nat.eq_of_beq_eq_true k2] at ho
      refine ⟨.bool false, ?_, .same rfl, fun c e => by rw [ho] at e; cases e⟩
      simp only [execOp, ho, e1, e2]
      go_simp
    · cases hf
  · cases hf
def prtO (c : Nat) (t : Bool) : List OE := [binE .rem (Lt 0) (.int .u8 (4 : Nat)) (Lt 3), cvE 5 26 (Lt 3) (.int .i64 c), binE .gtr (Lt 5) (Lt 4) (.bool false), binE .lss (Lt 6) (Lt 4) (.bool false), spnE 28 5 6, binE .eql (Lt 6) (.int .i64 3652059) (.bool t), binE .add (Lt 6) (.int .i64 1) (Lt 7), binE .eql (Lt 7) (Lt 7) (.bool true)]
def prtP (c : Nat) (t : Bool) : List (List Value × Value) := ([.int .i64 c, Lt 4], .agg ⟨[Lt 5, Lt 6]⟩) :: ([.int .i64 c, Lt 5], .agg ⟨[Lt 5, Lt 6]⟩) :: ([.int .i64 c, Lt 6], .agg ⟨[Lt 5, Lt 6]⟩) :: bif t then [] else [([.int .i64 c, Lt 7], .agg ⟨[Lt 7, Lt 8]⟩)]
theorem prt_run (c : Nat) (hc : c < 4) (t : Bool) : Sym (prtO c t) [(4, fixP (.bool true)), (5, patP [([Lt 1, Lt 2], Lt 4)]), (6, patP (prtP c t))] 60 3 [Lt 0, Lt 1, Lt 2] (.bool true) := by
  have e : c = 0 ∨ c = 1 ∨ c = 2 ∨ c = 3 := by omega
  clear hc
  rcases e with rfl | rfl | rfl | rfl <;> cases t <;> (delta Sym; show _ = _; kernel_rfl)
theorem cv_freq [Ltr] {i n : Nat} (hn : n < 4) (hi : Ltr.v i = some (.int .u8 n)) : OEOk Tryz.prog (cvE 5 26 (Lt i) (.int .i64 n)) :=
  cvE_ok fun o ρ x E w ho hx => by
    have e1 := is_ltr hi E _ hx
    refine ⟨.int .i64 n, ?_, .same rfl⟩
    have h : IntKind.i64.wrap (n : Int) = n := IntWalk.i64_in _ (by omega)
    simp only [execOp, ho, e1]
    go_simp
end Go.Proofs.YtdobdmbdibnppaaGreatDoor
