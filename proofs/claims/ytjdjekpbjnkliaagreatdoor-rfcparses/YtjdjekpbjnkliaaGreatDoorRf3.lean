/-
  A rule's values as texts: rfc.printValue.
-/
import Derived.Test.YtjdjekpbjnkliaaGreatDoorRf2
namespace Go.Proofs.YtjdjekpbjnkliaaGreatDoor
open Go.RowKit
theorem idx_hit {c : UInt8} {a b : List UInt8} (h : c ∉ a) : Lib.index (a ++ c :: b) [c] = a.length := by
  refine Lib.index_first (by simp) (by simp [Lib.occAt, List.isPrefixOf]) (fun j hj => ?_)
  have e : (a ++ c :: b).drop j = a[j] :: (a.drop (j + 1) ++ c :: b) := by
    rw [List.drop_append_of_le_length (by omega), List.drop_eq_getElem_cons hj]
    rfl
  have ne : c ≠ a[j] := fun e => h (by rw [e]; exact List.getElem_mem hj)
  unfold Lib.occAt
  rw [e]
  simp [List.isPrefixOf, ne]
theorem split_at {c : UInt8} : ∀ {s : List UInt8}, c ∈ s → ∃ a b, s = a ++ c :: b ∧ c ∉ a
  | [], h => by cases h
  | x :: s, h => by
    by_cases e : c = x
    · exact ⟨[], s, by rw [e]; rfl, by simp⟩
    · obtain ⟨a, b, h1, h2⟩ := split_at (List.mem_of_ne_of_mem e h)
      exact ⟨x :: a, b, by rw [h1]; rfl, by simp [e, h2]⟩
theorem replaceK_drop {c : UInt8} : ∀ (k : Nat) (s : List UInt8), s.count c = k → Lib.replaceK [c] [] k s = s.filter (· != c)
  | 0, s, h => by
    have : c ∉ s := List.count_eq_zero.1 h
    rw [Lib.replaceK, List.filter_eq_self.2]
    intro x hx
    simp
    exact fun e => this (e ▸ hx)
  | k + 1, s, h => by
    obtain ⟨a, b, rfl, ha⟩ := split_at (s := s) (c := c) (List.count_pos_iff.1 (by omega))
    have hb : b.count c = k := by
      rw [List.count_append, List.count_eq_zero.2 ha, List.count_cons_self] at h
      omega
    rw [Lib.replaceK_hit [c] [] k _ a.length (idx_hit ha)]
    have e1 : (a ++ c :: b).take a.length = a := by simp
    have e2 : (a ++ c :: b).drop (a.length + [c].length) = b := by
      rw [show a.length + [c].length = (a ++ [c]).length by simp, show a ++ c :: b = (a ++ [c]) ++ b by simp, List.drop_left]
    rw [e1, e2, replaceK_drop k b hb, List.filter_append, List.filter_cons]
    have e3 : a.filter (· != c) = a := List.filter_eq_self.2 (fun x hx => by simp; exact fun e => ha (e ▸ hx))
    rw [e3]
    simp
theorem replaceAll_drop (c : UInt8) (s : List UInt8) : Lib.replaceAll s [c] [] = s.filter (· != c) := by
  unfold Lib.replaceAll Lib.replace
  rw [if_neg (by simp)]
  unfold Lib.replaceNum
  rw [if_pos (.inl (by decide)), Lib.count_one]
  exact replaceK_drop _ s rfl
theorem date_of (y m d : Int) : Lib.replaceAll (txt y m d).data.toList [45] [] = Rfc.date y m d := by
  rw [replaceAll_drop]
  have ne : ∀ n : Int, (dig n != 45) = true := fun n => by
    have h := dig_toNat n
    rw [bne_iff_ne]
    intro e
    rw [e] at h
    have : (45 : UInt8).toNat = 45 := rfl
    omega
  show List.filter (· != 45) [dig (y / 1000), dig (y / 100), dig (y / 10), dig y, 45, dig (m / 10), dig m, 45, dig (d / 10), dig d] = _
  simp only [List.filter_cons, ne, if_true, List.filter_nil]
  rfl
section
variable {w : World} {ρ : Operand → Value} {o : Oper} {x y z : Operand} {v u r : Value} {n m : Int} {q : Bool}
theorem o_eqP (ho : o.op = .binOp .eql 54 x y 54) (hx : ρ x = .int .i64 n) (hy : ρ y = .int .i64 m) (hr : (n == m) = q) : (execOp ρ o).run Tryz.prog w = .ok (.value (.bool q)) w := by
  subst hr
  simp only [execOp, ho, hx, hy]
  go_simp
end
end Go.Proofs.YtjdjekpbjnkliaaGreatDoor
