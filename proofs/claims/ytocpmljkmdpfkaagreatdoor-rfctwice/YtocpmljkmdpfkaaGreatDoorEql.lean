/-
  Lists as they lie in memory, at plain addresses; the library's Equal.
-/
import Derived.Test.YtocpmljkmdpfkaaGreatDoorWk
import Derived.Test.YtocpmljkmdpfkaaGreatDoorKmk
import Derived.Test.YtocpmljkmdpfkaaGreatDoorKop
namespace Go.Proofs.YtocpmljkmdpfkaaGreatDoor
open Go.RowKit Go.Shelf Go.Lib
/-- numbers lie at a plain address -/
def PlainI (w : World) (A : Option Addr) (L : List Int) : Prop := (A = none ∧ L = []) ∨ ∃ b o, A = some ⟨b, o, none⟩ ∧ b < w.heap.size ∧ ∀ j (h : j < L.length), w.cell? ⟨b, o + j, none⟩ = some (.int .i64 L[j])
/-- weekdays lie at a plain address -/
def PlainN (w : World) (A : Option Addr) (L : List (Int × Int)) : Prop := (A = none ∧ L = []) ∨ ∃ b o, A = some ⟨b, o, none⟩ ∧ b < w.heap.size ∧ ∀ j (h : j < L.length), w.cell? ⟨b, o + j * 2, none⟩ = some (.int .i64 L[j].1) ∧ w.cell? ⟨b, o + j * 2 + 1, none⟩ = some (.int .i64 L[j].2)
theorem addr_lit (g o k : Nat) : (⟨g, o, none⟩ : Addr).add k = ⟨g, o + k, none⟩ := by simp [Addr.add]
theorem PlainI.below {w w' : World} {A : Option Addr} {L : List Int} (h : PlainI w A L) (b : Below w.heap.size w w') : PlainI w' A L := by
  rcases h with h | ⟨g, o, rfl, h1, h2⟩
  · exact .inl h
  · exact .inr ⟨g, o, rfl, Nat.lt_of_lt_of_le h1 b.size, fun j hj => (b.cell (p := ⟨g, o + j, none⟩) h1).trans (h2 j hj)⟩
theorem PlainN.below {w w' : World} {A : Option Addr} {L : List (Int × Int)} (h : PlainN w A L) (b : Below w.heap.size w w') : PlainN w' A L := by
  rcases h with h | ⟨g, o, rfl, h1, h2⟩
  · exact .inl h
  · exact .inr ⟨g, o, rfl, Nat.lt_of_lt_of_le h1 b.size, fun j hj => ⟨(b.cell (p := ⟨g, o + j * 2, none⟩) h1).trans (h2 j hj).1, (b.cell (p := ⟨g, o + j * 2 + 1, none⟩) h1).trans (h2 j hj).2⟩⟩
theorem PlainI.ints {w : World} {A : Option Addr} {L : List Int} (h : PlainI w A L) : IntsIn w A L := fun k hk => by
  rcases h with ⟨-, rfl⟩ | ⟨g, o, rfl, h1, h2⟩
  · exact absurd hk (Nat.not_lt_zero k)
  · exact ⟨_, rfl, h1, by rw [addr_lit]; exact h2 k hk⟩
theorem PlainN.nths {w : World} {A : Option Addr} {L : List (Int × Int)} (h : PlainN w A L) : NthsIn w A L := fun k hk => by
  rcases h with ⟨-, rfl⟩ | ⟨g, o, rfl, h1, h2⟩
  · exact absurd hk (Nat.not_lt_zero k)
  · exact ⟨_, rfl, h1, by rw [addr_lit]; exact (h2 k hk).1, by rw [addr_lit, addr_lit]; exact (h2 k hk).2⟩
theorem OwnI.plain {w : World} {base c : Nat} {A : Option Addr} {L : List Int} (h : OwnI w base (.slice A L.length c) L) : PlainI w A L := by
  rcases h.2 with ⟨e, hn⟩ | ⟨g, cap, cur, e, hb, hg, h1, h2, h3, h4⟩
  · obtain ⟨rfl, -, -⟩ := Value.slice.inj e
    exact .inl ⟨rfl, List.eq_nil_of_length_eq_zero hn⟩
  · obtain ⟨rfl, -, -⟩ := Value.slice.inj e
    obtain ⟨A', cap', e', -, -, hi⟩ := h.ints
    obtain ⟨rfl, -, -⟩ := Value.slice.inj e'
    refine .inr ⟨g, 0, rfl, (Array.getElem?_eq_some_iff.1 hg).1, fun j hj => ?_⟩
    obtain ⟨ad, e, -, hc⟩ := hi j hj
    obtain rfl := Option.some.inj e
    rw [addr_lit] at hc
    exact hc
theorem OwnN.plain {w : World} {base c : Nat} {A : Option Addr} {L : List (Int × Int)} (h : OwnN w base (.slice A L.length c) L) : PlainN w A L := by
  rcases h.2 with ⟨e, hn⟩ | ⟨g, cap, cur, e, hb, hg, h1, h2, h3, h4⟩
  · obtain ⟨rfl, -, -⟩ := Value.slice.inj e
    exact .inl ⟨rfl, List.eq_nil_of_length_eq_zero hn⟩
  · obtain ⟨rfl, -, -⟩ := Value.slice.inj e
    obtain ⟨A', cap', e', -, -, hi⟩ := h.nths
    obtain ⟨rfl, -, -⟩ := Value.slice.inj e'
    refine .inr ⟨g, 0, rfl, (Array.getElem?_eq_some_iff.1 hg).1, fun j hj => ?_⟩
    obtain ⟨ad, e, -, hc, hd⟩ := hi j hj
    obtain rfl := Option.some.inj e
    rw [addr_lit] at hc
    rw [addr_lit, addr_lit] at hd
    exact ⟨hc, hd⟩
theorem below_drewN' {w : World} (n : Nat) : Below w.heap.size w (w.drewN n) := below_drewN (Below.refl _ _) n
/-- a rule's lists, at plain addresses -/
structure PlainR (w : World) (A1 A2 A3 A4 : Option Addr) (M D : List Int) (K : List (Int × Int)) (P : List Int) : Prop where
  m : PlainI w A1 M
  d : PlainI w A2 D
  k : PlainN w A3 K
  p : PlainI w A4 P
  lm : M.length ≤ maxLen
  ld : D.length ≤ maxLen
  lk : K.length ≤ maxLen
  lp : P.length ≤ maxLen
theorem PlainR.below {w w' : World} {A1 A2 A3 A4 : Option Addr} {M D : List Int} {K : List (Int × Int)} {P : List Int} (h : PlainR w A1 A2 A3 A4 M D K P) (b : Below w.heap.size w w') : PlainR w' A1 A2 A3 A4 M D K P :=
  ⟨h.m.below b, h.d.below b, h.k.below b, h.p.below b, h.lm, h.ld, h.lk, h.lp⟩
theorem PlainR.lists {w : World} {A1 A2 A3 A4 : Option Addr} {M D : List Int} {K : List (Int × Int)} {P : List Int} (h : PlainR w A1 A2 A3 A4 M D K P) : ListsIn w A1 A2 A3 A4 M D K P :=
  ⟨h.m.ints, h.d.ints, h.k.nths, h.p.ints, h.lm, h.ld, h.lk, h.lp⟩
section
variable {w : World} {ρ : Operand → Value} {o : Oper} {x y : Operand} {v u : Value}
end
section
variable {P : Program} {ops : Array Oper} {Q : Exit → Act → World → Prop} {a : Act} {w : World}
end
end Go.Proofs.YtocpmljkmdpfkaaGreatDoor
