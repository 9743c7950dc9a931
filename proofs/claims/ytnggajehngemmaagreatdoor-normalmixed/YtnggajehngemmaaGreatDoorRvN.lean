/-
  slices.Reverse at a list of numbers, in place, as a known call.
-/
import Derived.Test.YtnggajehngemmaaGreatDoorOn4
import Derived.Test.YtnggajehngemmaaGreatDoorKop
import Derived.Test.YtnggajehngemmaaGreatDoorTi
namespace Go.Proofs.YtnggajehngemmaaGreatDoor
open Go Go.RowKit Go.Sort Go.Shelf Go.Lib
abbrev rvF : FuncId := 25
theorem rev_own {w : World} {base : Nat} {v : Value} {L : List Int} (h : OwnI w base v L) (hl : L.length ≤ 1000000) :
    Calls Tryz.prog rvF #[v] w fun e w' => e = .returned (.tuple #[]) ∧ OwnI w' base v L.reverse ∧ w.grownBy w' v.ownBlock := by
  rcases h.2 with ⟨rfl, hn⟩ | ⟨g, cap, cur, rfl, hb, hg, h1, h2, h3, h4⟩
  · obtain rfl : L = [] := List.eq_nil_of_length_eq_zero hn
    refine (Tryz.slices_Reverse_int_empty none 0 w).mono ?_
    rintro e w' ⟨rfl, rfl⟩
    exact ⟨rfl, OwnI.nil _ base, rfl, rfl, rfl, Nat.le_refl _, fun _ _ _ => rfl⟩
  · have hH := holds_of_blockI (ss := L) hg (by simpa using h4)
    refine (Tryz.slices_Reverse_int g 0 cap L w hH (by omega)).mono ?_
    rintro e w' ⟨rfl, n, rfl⟩
    have gb := grownBy_sortedI (w := w) (g := g) (n := n) (os := #[]) L.reverse.toArray
    have hp := heap_sortedI (n := n) (os := #[]) L.reverse.toArray hg
    rw [grow_empty] at gb hp
    refine ⟨rfl, ⟨by simp, .inr ⟨g, cap, _, by rw [List.length_reverse], hb, hp, by rw [List.length_reverse]; exact h1, h2, by simp [putCells, h3], ?_⟩⟩, gb⟩
    have ht := take_putCellsI cur L.reverse (by rw [List.length_reverse]; omega)
    simpa using ht
/-- list a, turned in place: list b -/
def revP (g : FuncId) (a b : Nat) : Prim := fun f args H => match args with
  | [v] => bif Nat.beq f g && isTok H a v then (match v with
    | .func (.via i ⟨[]⟩ _ false) ⟨[]⟩ ⟨[]⟩ => bif Nat.ble 64 i then some (.tuple ⟨[]⟩, { H with h := upd i (.tok b) H.h }) else none
    | _ => none) else none
  | _ => none
theorem revP_ok [Ltr] {G : Nat} {X : Kep} {a b t z N : Nat} {g : FuncId} {vs us : List Value} (ia : IsL a t z N vs) (ib : IsL b t z N us)
    (h : ∀ (w : World) (v : Value), w.ownsRow 0 t z v N vs → Calls Tryz.prog g #[v] w fun e w' => e = .returned (.tuple #[]) ∧ w'.ownsRow 0 t z v N us ∧ w.grownBy w' v.ownBlock) : PrimOk Tryz.prog (revP g a b) G X 64 := by
  intro f args H u H1 E w args' hR hG hr e
  unfold revP at e
  split at e
  · rename_i v
    obtain ⟨hc, e⟩ := cond_some e
    simp only [Bool.and_eq_true] at hc
    obtain ⟨c1, c2⟩ := hc
    split at e
    · rename_i i j
      obtain ⟨c4, e⟩ := cond_some e
      obtain ⟨rfl, rfl⟩ := Prod.mk.inj (Option.some.inj e)
      rw [Nat.eq_of_beq_eq_true c1]
      have hi64 := Nat.le_of_ble_eq_true c4
      cases hr with
      | @cons _ v' _ _ r1 t1 =>
      cases t1
      have hown := (isTok_at hR c2 r1).own' ia
      unfold isTok at c2
      simp only [Bool.and_eq_true] at c2
      obtain ⟨d1, d2⟩ := c2
      obtain rfl := Nat.eq_of_beq_eq_true d1
      split at d2
      · rename_i a hlk
        obtain rfl := Nat.eq_of_beq_eq_true d2
        refine (h w v' hown).mono ?_
        rintro e w' ⟨rfl, hown', h1, h2, h3, h4, h5⟩
        cases r1 with
        | same hf => cases hf
        | @tk _ _ bk k _ _ f hE hq' hs =>
          obtain ⟨q1, q2, -⟩ := (ia.s _ _ _).1 hs
          subst q1 q2
          obtain ⟨R1, K1⟩ := hR.retok (m' := b) hi64 hlk h1 h2 h3 h4 (fun b2 hb2 hne => h5 b2 hb2 fun e => hne _ (by cases e; exact hE)) (fun b2 k2 he => by
            rw [hE] at he
            obtain ⟨rfl, rfl⟩ := Prod.mk.inj (Option.some.inj he)
            rcases hown'.2 with ⟨e2, -⟩ | ⟨g, cap, cur, e2, -, hg, g1, g2, g3, g4⟩
            · cases e2
            · cases e2
              exact ⟨_, hg, (ib.o _ _).2 (RowL.of g3 g4 g1 g2)⟩)
          exact ⟨_, E, rfl, Ext.refl E, R1, K1, .same rfl⟩
        | tkn hq' hs =>
          obtain ⟨q1, -, -⟩ := (ia.s _ _ _).1 hs
          subst q1
          have e1 : vs = [] := List.eq_nil_of_length_eq_zero (by rw [ia.len]; simp)
          have e2 : us = [] := List.eq_nil_of_length_eq_zero (by rw [ib.len]; simp)
          obtain ⟨R1, K1⟩ := hR.retok (m' := b) hi64 hlk h1 h2 h3 h4 (fun b2 hb2 hne => h5 b2 hb2 (fun e => by cases e)) (fun b2 k2 he => by
            obtain ⟨y, hy, ho⟩ := hR.oke hlk he
            refine ⟨y, (h5 b2 (Array.getElem?_eq_some_iff.1 hy).1 (fun e => by cases e)).trans hy, (ib.o _ _).2 ?_⟩
            rw [e2, ← e1]
            exact (ia.o _ _).1 ho)
          exact ⟨_, E, rfl, Ext.refl E, R1, K1, .same rfl⟩
      · cases d2
    · cases e
  · cases e
end Go.Proofs.YtnggajehngemmaaGreatDoor
/-
  slices.Reverse at a list of weekdays, in place.
-/
namespace Go.Proofs.YtnggajehngemmaaGreatDoor
open Go Go.RowKit Go.Sort Go.Shelf Go.Lib
abbrev rnF : FuncId := 27
theorem revN_own {w : World} {base : Nat} {v : Value} {L : List (Int × Int)} (h : OwnN w base v L) (hl : L.length ≤ 1000000) :
    Calls Tryz.prog rnF #[v] w fun e w' => e = .returned (.tuple #[]) ∧ OwnN w' base v L.reverse ∧ w.grownBy w' v.ownBlock := by
  rcases h.2 with ⟨rfl, hn⟩ | ⟨g, cap, cur, rfl, hb, hg, h1, h2, h3, h4⟩
  · obtain rfl : L = [] := List.eq_nil_of_length_eq_zero hn
    have hc := AnyQ.slices_Reverse_empty (P := Tryz.prog) Tryz.revN none 0 w
    change Calls Tryz.prog rnF _ _ _ at hc
    refine hc.mono ?_
    rintro e w' ⟨rfl, rfl⟩
    exact ⟨rfl, OwnN.nil _ base, rfl, rfl, rfl, Nat.le_refl _, fun _ _ _ => rfl⟩
  · have hsz : L.toArray.size = L.length := by simp
    have hH : HoldsK encN 2 w g 0 L.toArray := by
      intro j hj
      have hB : Blk w g _ cur := hg
      have hj' : j < L.length * 2 := by simpa using hj
      refine ⟨?_, hB.frozen _⟩
      rw [Nat.zero_add, hB.cell j, ← Array.getElem?_toList]
      have : (cur.toList.take (L.length * 2))[j]? = (flatK encN 2 L.toArray).toList[j]? := by rw [h4, flat_atN]
      rw [List.getElem?_take_of_lt hj'] at this
      rw [this, Array.getElem?_toList, Array.getElem?_eq_getElem hj, getElem!_pos (flatK encN 2 L.toArray) j hj]
      rfl
    have hc := AnyQ.slices_Reverse Tryz.revN 2 Tryz.isAgg51 Tryz.sizeOf51 encN (fun _ => rfl) (fun x v hv => by simp [encN] at hv; rcases hv with rfl | rfl <;> rfl) g 0 cap L.toArray w hH (by rw [hsz]; omega)
    change Calls Tryz.prog rnF _ _ _ at hc
    rw [hsz] at hc
    refine hc.mono ?_
    rintro e w' ⟨rfl, n, rfl⟩
    have hrev : L.toArray.reverse = L.reverse.toArray := by simp
    rw [hrev]
    have gb := grown_put (w := w) (g := g) (n := n) (os := #[]) (flatK encN 2 L.reverse.toArray)
    have hp := heap_put (n := n) (os := #[]) (flatK encN 2 L.reverse.toArray) hg
    rw [grow_empty] at gb hp
    have hlen : L.reverse.length = L.length := List.length_reverse
    refine ⟨rfl, ⟨by rw [flat_len], .inr ⟨g, cap, _, by rw [hlen], hb, hp, by rw [hlen]; exact h1, h2, by simp [putCells, h3], ?_⟩⟩, gb⟩
    have ht := take_put cur (flatK encN 2 L.reverse.toArray) (by simp; omega)
    rw [flat_atN, show (flatK encN 2 L.reverse.toArray).size = L.reverse.length * 2 by simp] at ht
    exact ht
end Go.Proofs.YtnggajehngemmaaGreatDoor
