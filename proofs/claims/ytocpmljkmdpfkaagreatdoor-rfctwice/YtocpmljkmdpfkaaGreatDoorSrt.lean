/-
  The library's Sort, Compact, Contains at rows of the call's own.
-/
import Derived.Test.YtocpmljkmdpfkaaGreatDoorApp
import Derived.Test.YtocpmljkmdpfkaaGreatDoorShelf
import Derived.Sort.OwnSortedInts
import Derived.Laws.StructEq
namespace Go.Proofs.YtocpmljkmdpfkaaGreatDoor
open Go.RowKit Go.Sort Go.Shelf Go.Lib
theorem sort_own {w : World} {base : Nat} {v : Value} {L : List Int} (h : OwnI w base v L) (hl : L.length ≤ 1000000) :
    Calls Tryz.prog 21 #[v] w fun e w' => e = .returned (.tuple #[]) ∧ OwnI w' base v (L.mergeSort fun x y => decide (x ≤ y)) ∧ ∀ B b, B ≤ base → Exc B b w w' := by
  have hlen : (L.mergeSort fun x y => decide (x ≤ y)).length = L.length := List.length_mergeSort _
  rcases h.2 with ⟨rfl, hn⟩ | ⟨g, cap, cur, rfl, hb, hg, h1, h2, h3, h4⟩
  · obtain rfl : L = [] := List.eq_nil_of_length_eq_zero hn
    refine (Tryz.slices_Sort_int_none none 0 w).mono ?_
    rintro e w' ⟨rfl, rfl⟩
    exact ⟨rfl, by simpa using OwnI.nil _ base, fun B b _ => Exc.refl _ _ _⟩
  · have hH := holds_of_blockI (ss := L) hg (by simpa using h4)
    refine (Tryz.slices_Sort_int g 0 cap L w hH (Array.getElem?_eq_some_iff.1 hg).1 (by omega)).mono ?_
    rintro e w' ⟨rfl, n, os, rfl⟩
    refine ⟨rfl, ?_, fun B b hB => exc_grown (v := .slice (some ⟨g, 0, none⟩) L.length cap) (grownBy_sortedI _) (fun g' hg' => by cases hg'; exact Nat.le_trans hB hb) (by have := (Array.getElem?_eq_some_iff.1 hg).1; omega)⟩
    unfold OwnI
    rw [hlen]
    exact ownsRow_sortedI hlen hb hg h1 h2 h3
theorem compact_own {w : World} {base : Nat} {v : Value} {L : List Int} (h : OwnI w base v L) (hl : L.length ≤ 1000000) :
    Calls Tryz.prog 22 #[v] w fun e w' => ∃ v', e = .returned v' ∧ OwnI w' base v' (Lib.compact L) ∧ ∀ B b, B ≤ base → Exc B b w w' := by
  rcases h.2 with ⟨rfl, hn⟩ | ⟨g, cap, cur, rfl, hb, hg, h1, h2, h3, h4⟩
  · obtain rfl : L = [] := List.eq_nil_of_length_eq_zero hn
    refine (Tryz.slices_Compact_int_empty none 0 w).mono ?_
    rintro e w' ⟨rfl, rfl⟩
    exact ⟨_, rfl, OwnI.nil _ base, fun B b _ => Exc.refl _ _ _⟩
  · have hH := holds_of_blockI (ss := L) hg (by simpa using h4)
    have hle := Lib.compact_length_le L
    refine (Tryz.slices_Compact_int g 0 cap L w hH (by omega) h1).mono ?_
    rintro e w' ⟨rfl, n, rfl⟩
    have hts : (Lib.compact L ++ List.replicate (L.length - (Lib.compact L).length) 0).length = L.length := by simp; omega
    have gb := grownBy_sortedI (w := w) (g := g) (n := n) (os := #[]) (Lib.compact L ++ List.replicate (L.length - (Lib.compact L).length) 0).toArray
    have hp := heap_sortedI (n := n) (os := #[]) (Lib.compact L ++ List.replicate (L.length - (Lib.compact L).length) 0).toArray hg
    rw [grow_empty] at gb hp
    refine ⟨_, rfl, ⟨by simp, .inr ⟨g, cap, _, rfl, hb, hp, by omega, h2, by simp [putCells, h3], ?_⟩⟩, fun B b hB => exc_grown (v := .slice (some ⟨g, 0, none⟩) L.length cap) gb (fun g' hg' => by cases hg'; exact Nat.le_trans hB hb) (by have := (Array.getElem?_eq_some_iff.1 hg).1; omega)⟩
    have ht := take_putCellsI cur (Lib.compact L ++ List.replicate (L.length - (Lib.compact L).length) 0) (by rw [hts]; omega)
    have ht2 := congrArg (List.take (Lib.compact L).length) ht
    rw [List.take_take, hts, Nat.min_eq_left hle, List.map_append] at ht2
    rw [Nat.mul_one, ht2]
    simp
theorem contains_own {w : World} {base : Nat} {v : Value} {L : List Int} (x : Int) (h : OwnI w base v L) (hl : L.length ≤ 1000000) :
    Calls Tryz.prog 50 #[v, .int .i64 x] w fun e w' => e = .returned (.bool (L.contains x)) ∧ w' = w := by
  rcases h.2 with ⟨rfl, hn⟩ | ⟨g, cap, cur, rfl, hb, hg, h1, h2, h3, h4⟩
  · obtain rfl : L = [] := List.eq_nil_of_length_eq_zero hn
    exact Tryz.slices_Contains_int_empty none 0 x w
  · have hH := holds_of_blockI (ss := L) hg (by simpa using h4)
    have := Tryz.slices_Contains_int g 0 L.length cap L x w (Nat.le_refl _) (by omega) (fun j hj => by
      have := (hH j (by simpa using hj)).1
      rw [this]
      simp [hj])
    rwa [List.take_length] at this
def encN (x : Int × Int) : List Value := [.int .i64 x.1, .int .i64 x.2]
theorem eqN : EqlAt Tryz.prog 55 (fun x => .agg (encN x).toArray) (fun x y => x.1 == y.1 && x.2 == y.2) := by
  refine ⟨fun x y w => ?_, GuardAt.agg _ (by kernel_rfl)⟩
  have u3 := Tryz.underlying3
  have a3 := Tryz.isAgg3
  have z3 := Tryz.sizeOf3
  have hS : Tryz.prog.underlying 55 = some (.struct (Tryz.prog.fieldsOf 55)) := by kernel_rfl
  have hp : Tryz.prog.stoodInHeld 55 = false := by kernel_rfl
  simp only [encN]
  rw [run_eql_struct, show (10000 : Nat) = 9999 + 1 from rfl, run_equalIn_agg w 9999 55 _ _ hS hp]
  simp only [Program.fieldsOf, Tryz.underlying55]
  go_simp
  by_cases h1 : x.fst = y.fst <;> by_cases h2 : x.snd = y.snd <;> simp [h1, h2]
end Go.Proofs.YtocpmljkmdpfkaaGreatDoor
