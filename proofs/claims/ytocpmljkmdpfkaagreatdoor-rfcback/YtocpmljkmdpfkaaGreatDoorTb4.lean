/-
  What a row of stage 3 lists of the law's own tables gives the walks' Tabs3.
-/
import Derived.Test.YtocpmljkmdpfkaaGreatDoorTb3
import Derived.Test.YtocpmljkmdpfkaaGreatDoorRb3
import Derived.Deep.Slices
namespace Go.Proofs.YtocpmljkmdpfkaaGreatDoor
open Go.ChangeShapes Go.WideShapes Go.ChangeAt Go.RowKit Go.Deep
theorem strs_slice {P : Program} {W : World} {n : String} {g t e : Nat} {zs : List (List UInt8)} (hr : Lib.VarReads P W n (.slice (zs.map fun z => .lit (.string z)) [])) (hg : P.globalNamed n = some g) (hty : (P.globals[g]?).map (·.type) = some t)
    (ht : P.underlying t = some (.slice e)) (he : P.underlying e = some .string) (hce : P.cellsOf e = 1) :
    ∃ A c, W.cell? ⟨g, 0, none⟩ = some (.slice (some A) zs.length c) ∧ ∀ i (h : i < zs.length), W.cell? (A.add i) = some (.string ⟨(zs[i]).toArray⟩) := by
  obtain ⟨g', t', cs, fuel, p, h1, h2, h3, h4⟩ := hr
  obtain rfl := Option.some.inj (hg.symm.trans h1)
  obtain rfl := Option.some.inj (hty.symm.trans h2)
  rcases open_slice1 ht hce h4 with ⟨-, e0⟩ | ⟨a, len, cap, m, n', V, D, Pl, hcs, -, hl, -, hm, hx, hi⟩
  · cases (Prod.mk.inj e0).1
  · have hx1 := (Prod.mk.inj hx).1
    injection hx1 with hD hrest
    have hlen : len = zs.length := by
      have := congrArg List.length hD
      simpa using this.symm
    subst hlen
    refine ⟨a, cap, ?_, fun i h => ?_⟩
    · rw [World.var?_cell hg h3 0, ← Array.getElem?_toList, hcs]
      rfl
    · simp only [if_true] at hm
      obtain ⟨q1, q2⟩ := hi i (by omega)
      obtain ⟨s, hc, hd, -⟩ := DataW.trod_string he q2
      have hDi := congrArg (·[i]?) hD
      simp [h] at hDi
      have hv : V i = .string s := (List.cons.inj hc).1
      rw [q1, hv]
      have hd' : DataW.lit (H := Unit) (.string s.data.toList) = .lit (.string zs[i]) := by
        rw [hDi]
        exact (Prod.mk.inj hd).1.symm
      injection hd' with hd'
      injection hd' with hd'
      rw [← hd']
theorem tabs3_of {L : List (String × DataW Unit)} {W : World} (h : laidMet Tryz.prog L W) (hT : Tabs W)
    (m4 : ("kalends/kalendslaw03.freqs", Rows.laid_kalends_kalendslaw03_freqs) ∈ L) (m7 : ("kalends/kalendslaw03.weekdays", Rows.laid_kalends_kalendslaw03_weekdays) ∈ L) : Tabs3 W where
  t := hT
  lf := by
    obtain ⟨A, c, h1, h2⟩ := strs_slice (zs := [Rfc.fq 0, Rfc.fq 1, Rfc.fq 2, Rfc.fq 3]) (g := 1) (t := 45) (Lib.laidMet.reads h m4) (by kernel_rfl) (by kernel_rfl) Tryz.underlying45 Tryz.underlying9 (by kernel_rfl)
    refine ⟨A, c, h1, fun i hi => ?_⟩
    rw [h2 i hi]
    have e : i = 0 ∨ i = 1 ∨ i = 2 ∨ i = 3 := by omega
    rcases e with rfl | rfl | rfl | rfl <;> rfl
  lw := by
    obtain ⟨A, c, h1, h2⟩ := strs_slice (zs := [Rfc.wd 0, Rfc.wd 1, Rfc.wd 2, Rfc.wd 3, Rfc.wd 4, Rfc.wd 5, Rfc.wd 6]) (g := 2) (t := 45) (Lib.laidMet.reads h m7) (by kernel_rfl) (by kernel_rfl) Tryz.underlying45 Tryz.underlying9 (by kernel_rfl)
    refine ⟨A, c, h1, fun i hi => ?_⟩
    rw [h2 i hi]
    have e : i = 0 ∨ i = 1 ∨ i = 2 ∨ i = 3 ∨ i = 4 ∨ i = 5 ∨ i = 6 := by omega
    rcases e with rfl | rfl | rfl | rfl | rfl | rfl | rfl <;> rfl
end Go.Proofs.YtocpmljkmdpfkaaGreatDoor
