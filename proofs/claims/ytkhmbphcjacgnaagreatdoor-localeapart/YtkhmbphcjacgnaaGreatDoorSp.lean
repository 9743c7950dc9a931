/-
  A text cut at one byte, plainly; it is the library's cut.
-/
import Derived.Lib.Split
namespace Go.Proofs.YtkhmbphcjacgnaaGreatDoor
/-- the pieces between one byte and the next -/
def spl1 (c : Nat) : List UInt8 → List (List UInt8)
  | [] => [[]]
  | b :: l => bif Nat.beq b.toNat c then [] :: spl1 c l else match spl1 c l with
    | x :: r => (b :: x) :: r
    | [] => [[b]]
theorem index_hit (c : UInt8) (l : List UInt8) : Lib.index (c :: l) [c] = 0 := by
  unfold Lib.index
  rw [if_pos (by simp)]
theorem index_on {b c : UInt8} (h : b ≠ c) (l : List UInt8) : Lib.index (b :: l) [c] = if Lib.index l [c] == -1 then -1 else Lib.index l [c] + 1 := by
  rw [Lib.index, if_neg (by simp; exact fun e => h e.symm)]
theorem spl1_from (c : UInt8) : ∀ (s : List UInt8) (f : Nat), s.length + 1 ≤ f → Lib.splitK [c] 0 (Lib.countFrom [c] f s) s = spl1 c.toNat s
  | [], 0, h => by simp at h
  | [], f + 1, _ => rfl
  | b :: l, 0, h => by simp at h
  | b :: l, f + 1, h => by
    have hf : l.length + 1 ≤ f := by simpa using h
    by_cases hb : b = c
    · subst hb
      have h1 : Lib.countFrom [b] (f + 1) (b :: l) = Lib.countFrom [b] f l + 1 := by
        rw [Lib.countFrom, index_hit, if_neg (by decide), Nat.add_comm]; rfl
      rw [h1, Lib.splitK, index_hit, if_neg (by decide), spl1, Nat.beq_refl, cond_true, ← spl1_from b l f hf]
      rfl
    · have hbn : Nat.beq b.toNat c.toNat = false := by
        cases hq : Nat.beq b.toNat c.toNat with
        | false => rfl
        | true => exact absurd (UInt8.toNat_inj.1 (Nat.eq_of_beq_eq_true hq)) hb
      rw [spl1, hbn, cond_false]
      have hi := index_on hb l
      by_cases hm : Lib.index l [c] = -1
      · rw [hm, if_pos (by decide)] at hi
        have h1 : Lib.countFrom [c] (f + 1) (b :: l) = 0 := by rw [Lib.countFrom, hi, if_pos (by decide)]
        have ih := spl1_from c l f hf
        have h2 : Lib.countFrom [c] f l = 0 := by
          cases f with
          | zero => omega
          | succ f => rw [Lib.countFrom, hm, if_pos (by decide)]
        rw [h2] at ih
        rw [h1, ← ih]
        rfl
      · have hn : ¬ (Lib.index l [c] == -1) = true := fun e => hm (eq_of_beq e)
        rw [if_neg hn] at hi
        have hge := Lib.index_ge l [c]
        have hn2 : ¬ (Lib.index l [c] + 1 == -1) = true := fun e => by have := eq_of_beq e; omega
        have ht : (Lib.index l [c] + 1).toNat = (Lib.index l [c]).toNat + 1 := by omega
        have h1 : Lib.countFrom [c] (f + 1) (b :: l) = Lib.countFrom [c] f (l.drop ((Lib.index l [c]).toNat + 1)) + 1 := by
          rw [Lib.countFrom, hi, if_neg hn2, ht, Nat.add_comm]
          rfl
        have h2 : Lib.countFrom [c] (f + 1) l = Lib.countFrom [c] f (l.drop ((Lib.index l [c]).toNat + 1)) + 1 := by
          rw [Lib.countFrom, if_neg hn, Nat.add_comm]
          rfl
        have ih := spl1_from c l (f + 1) (by omega)
        rw [h2, Lib.splitK, if_neg hn] at ih
        rw [h1, Lib.splitK, hi, if_neg hn2, ht, ← ih]
        rfl
theorem spl1_eq (c : UInt8) (s : List UInt8) : Lib.splitK [c] 0 (Lib.count s [c]) s = spl1 c.toNat s := spl1_from c s _ (Nat.le_refl _)
end Go.Proofs.YtkhmbphcjacgnaaGreatDoor
