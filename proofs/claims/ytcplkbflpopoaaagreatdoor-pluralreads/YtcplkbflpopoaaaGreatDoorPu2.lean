/-
  The law's Form, over letters: Itoa and HasSuffix by the shelf's contracts.
-/
import Derived.Test.YtcplkbflpopoaaaGreatDoorPu1
import Derived.Test.YtcplkbflpopoaaaGreatDoorShelf
import Derived.Lib.ItoaLen
namespace Go.Proofs.YtcplkbflpopoaaaGreatDoor
open Go Go.RowKit
/-- the table that Itoa reads -/
def Pow (w : World) : Prop := Lib.TabIs Tryz.prog w "internal/strconv.uint64pow10" .u64 Lib.pow10Tab
theorem Pow.keep {w w' : World} (h : Pow w) (k : ∀ b, (kep w) b → w'.heap[b]? = (kep w).ob b) : Pow w' := by
  unfold Pow Lib.TabIs World.var? at *
  cases hg : Tryz.prog.globalNamed "internal/strconv.uint64pow10" with
  | none => simp [hg] at h
  | some g =>
    simp only [hg, Option.bind_some] at h ⊢
    have hlt : g < w.heap.size := by
      rcases Nat.lt_or_ge g w.heap.size with h' | h'
      · exact h'
      · rw [Array.getElem?_eq_none h'] at h; simp at h
    rw [show w'.heap[g]? = w.heap[g]? from k g hlt]
    exact h
theorem dd_len (n : Nat) (h : n ≤ 9223372036854775807) : (Lib.decDigits n).length ≤ 21 := by
  have := Lib.itoa_length_le (n : Int) (by omega) (by omega)
  rwa [Lib.itoa_nonneg] at this
section
variable {X : Kep} {base : Nat}
theorem grow_below {w w' : World} (h : ∃ k os, w' = Go.Sort.grow (w.drewN k) os) : Below w.heap.size w w' := by
  obtain ⟨k, os, rfl⟩ := h
  exact ⟨rfl, rfl, rfl, by simp, fun i hi => Go.Sort.heap_grow_old _ _ (by simpa using hi)⟩
/-- Itoa of a letter -/
theorem pe_itoa [Ltr] {l : List (Nat × Nat)} (hl : ∀ p ∈ l, ∃ n : Nat, n ≤ 9223372036854775807 ∧ Ltr.v p.1 = some (.int .i64 n) ∧ Ltr.v p.2 = some (.string ⟨⟨Lib.decDigits n⟩⟩)) (hP : ∀ w : World, (∀ b, X b → w.heap[b]? = X.ob b) → Pow w) : PEOk Tryz.prog X base (22, patP (l.map fun p => ([Lt p.1], Lt p.2))) :=
  patP_ok fun p hp E w args' k ha => by
    obtain ⟨q, hq, rfl⟩ := List.mem_map.1 hp
    obtain ⟨n, hn, h1, h2⟩ := hl q hq
    cases ha with
    | cons r1 t1 =>
      cases t1
      rw [is_ltr h1 E _ r1]
      refine (Tryz.strconv_Itoa n (by omega) (by omega) w (hP w k)).mono fun e w' p => ⟨_, p.1, ?_, grow_below p.2⟩
      rw [Lib.itoa_nonneg]
      exact .ltr h2 rfl
/-- HasSuffix of a letter and a text -/
theorem pe_suf [Ltr] {i : Nat} {s : List UInt8} (hi : Ltr.v i = some (.string ⟨⟨s⟩⟩)) (hs : s.length ≤ 100) {l : List (List UInt8 × Bool)} (hl : ∀ p ∈ l, Lib.hasSuffix s p.1 = p.2) : PEOk Tryz.prog X base (23, patP (l.map fun p => ([Lt i, .string ⟨⟨p.1⟩⟩], .bool p.2))) :=
  patP_ok fun p hp E w args' k ha => by
    obtain ⟨q, hq, rfl⟩ := List.mem_map.1 hp
    cases ha with
    | cons r1 t1 =>
      cases t1 with
      | cons r2 t2 =>
        cases t2
        rw [is_ltr hi E _ r1, is_flat rfl E _ r2]
        refine (Tryz.strings_HasSuffix ⟨⟨s⟩⟩ ⟨⟨q.1⟩⟩ w (by show s.length ≤ _; omega)).mono fun e w' p => ⟨_, p.1, ?_, by rw [p.2]; exact Below.refl _ _⟩
        rw [show Lib.hasSuffix (⟨⟨s⟩⟩ : ByteArray).data.toList (⟨⟨q.1⟩⟩ : ByteArray).data.toList = q.2 from hl q hq]
        exact .same rfl
end
/-- two texts: the same? -/
theorem s_eq [Ltr] {i : Nat} {s t : List UInt8} {b : Bool} (hi : Ltr.v i = some (.string ⟨⟨s⟩⟩)) (h : decide (s = t) = b) : OEOk Tryz.prog (binT .eql 9 9 (Lt i) (.string ⟨⟨t⟩⟩) (.bool b)) :=
  binT_ok fun o ρ x y E w ho hx hy => by
    have e1 := is_ltr hi E _ hx
    have e2 := is_flat rfl E _ hy
    refine ⟨.bool b, ?_, .same rfl⟩
    subst h
    simp only [execOp, ho, e1, e2]
    go_simp
    rw [Bool.eq_iff_iff]
    simp
end Go.Proofs.YtcplkbflpopoaaaGreatDoor
