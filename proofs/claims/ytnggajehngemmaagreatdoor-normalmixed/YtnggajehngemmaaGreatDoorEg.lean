/-
  What the laws over made rules of stage 5 share: the listed tables (the row's last step is Open's).
-/
import Derived.Test.YtnggajehngemmaaGreatDoorOpenX
import Derived.Test.YtnggajehngemmaaGreatDoorAw5
import Derived.Test.YtnggajehngemmaaGreatDoorEvT
import Derived.ProofKit
import Derived.OpenShut
import Derived.Deep.DeepHandedRow
import Derived.Lib.LaidTab
import Derived.Lib.LaidU8
import Derived.LaidSub
import Derived.MakeChecks
import Derived.ChangeSlices
import Derived.WideKeyArgs
import Derived.Below
import Derived.Lay
namespace Go.Proofs.YtnggajehngemmaaGreatDoor
open Go.ChangeShapes Go.WideShapes Go.ChangeAt Go.RowKit
theorem strs_of_tab {H : Type} {enc : TypeId × Value → H} {P : Program} {w : World} {base : Nat} {sp : Nat → Bool} {held : Bool} {fuel : Nat} {t e : TypeId} {n : Nat} {cs : List Value} {zs : List (List UInt8)} {p : List MemPlace}
    (ht : P.underlying t = some (.array n e)) (he : P.underlying e = some .string) (hce : P.cellsOf e = 1) (hct : P.cellsOf t = n)
    (h : DataW.trod enc P w base sp held fuel t cs = some (.agg (zs.map fun z => .lit (.string z)), p)) : cs = zs.map fun z => Value.string ⟨z.toArray⟩ := by
  cases fuel with
  | zero => simp [DataW.trod] at h
  | succ fuel =>
    simp only [DataW.trod, ht, hce, hct, Nat.mul_one] at h
    split at h
    · rename_i hl
      obtain ⟨xs, hm, hx⟩ := Option.map_eq_some_iff.1 h
      have hxs : xs.map (·.1) = zs.map fun z => (DataW.lit (.string z) : DataW H) := by
        have := congrArg Prod.fst hx
        simpa using this
      have hxl : xs.length = n := by simpa using Lib.mapM_length hm
      have hzl : zs.length = n := by
        have := congrArg List.length hxs
        simp at this
        omega
      apply List.ext_getElem?
      intro i
      by_cases hi : i < n
      · obtain ⟨b, hb, hf⟩ := Lib.mapM_at hm i i (by simp [hi])
        obtain ⟨s, hc, rfl, _⟩ := DataW.trod_string he hf
        have h1 : cs[i]? = some (.string s) := by
          have := congrArg (·[0]?) hc
          simpa [List.getElem?_take, List.getElem?_drop] using this
        have h2 : (xs.map (·.1))[i]? = some (DataW.lit (.string s.data.toList) : DataW H) := by simp [hb]
        rw [hxs] at h2
        simp only [List.getElem?_map, Option.map_eq_some_iff, DataW.lit.injEq, Lit.string.injEq] at h2
        obtain ⟨z', hz', e'⟩ := h2
        subst e'
        simp [h1, hz']
      · rw [List.getElem?_eq_none (by omega), List.getElem?_eq_none (by simp; omega)]
    · cases h
theorem strs_cell {P : Program} {W : World} {n : String} {g t e : Nat} {k : Nat} {zs : List (List UInt8)} (hr : Lib.VarReads P W n (.agg (zs.map fun z => .lit (.string z)))) (hg : P.globalNamed n = some g) (hty : (P.globals[g]?).map (·.type) = some t)
    (ht : P.underlying t = some (.array k e)) (he : P.underlying e = some .string) (hce : P.cellsOf e = 1) (hct : P.cellsOf t = k) (i : Nat) : W.cell? ⟨g, i, none⟩ = (zs[i]?).map fun z => Value.string ⟨z.toArray⟩ := by
  obtain ⟨g', t', cs, fuel, p, h1, h2, h3, h4⟩ := hr
  obtain rfl := Option.some.inj (hg.symm.trans h1)
  obtain rfl := Option.some.inj (hty.symm.trans h2)
  have hc := strs_of_tab ht he hce hct h4
  rw [World.var?_cell hg h3 i, ← Array.getElem?_toList, hc, List.getElem?_map]
theorem tab_reads {P : Program} {W : World} {n : String} {g t e : Nat} {k : Nat} {q : IntKind} {zs : List Int} (hr : Lib.VarReads P W n (Lib.tabData q zs)) (hg : P.globalNamed n = some g) (hty : (P.globals[g]?).map (·.type) = some t)
    (ht : P.underlying t = some (.array k e)) (he : P.underlying e = some (.int q)) (hce : P.cellsOf e = 1) (hct : P.cellsOf t = k) : Lib.TabIs P W n q zs := by
  obtain ⟨g', t', cs, fuel, p, h1, h2, h3, h4⟩ := hr
  obtain rfl := Option.some.inj (hg.symm.trans h1)
  obtain rfl := Option.some.inj (hty.symm.trans h2)
  unfold Lib.TabIs
  rw [h3, ← Lib.cells_of_tab ht he hce hct h4]
/-- what the laws of stage 5 want of memory -/
structure Tab7 (w : World) : Prop where
  t : TabsE tabs w
theorem strs_tab {P : Program} {W : World} {n : String} {g t e : Nat} {k : Nat} {zs : List (List UInt8)} (hr : Lib.VarReads P W n (.agg (zs.map fun z => .lit (.string z)))) (hg : P.globalNamed n = some g) (hty : (P.globals[g]?).map (·.type) = some t)
    (ht : P.underlying t = some (.array k e)) (he : P.underlying e = some .string) (hce : P.cellsOf e = 1) (hct : P.cellsOf t = k) : TabAt W g (tStr zs) := by
  intro j v hj
  rw [strs_cell hr hg hty ht he hce hct j]
  simpa [tStr] using hj
theorem ints_tab {P : Program} {W : World} {n : String} {g : Nat} {k : IntKind} {zs : List Int} (h : Lib.TabIs P W n k zs) (hg : P.globalNamed n = some g) : TabAt W g (zs.map fun z => .int k z) := by
  intro j v hj
  simp only [List.getElem?_map, Option.map_eq_some_iff] at hj
  obtain ⟨z, hz, rfl⟩ := hj
  have hlt : j < zs.length := (List.getElem?_eq_some_iff.1 hz).1
  have := h.cell hg j hlt
  rw [this]
  have e : zs.getD j 0 = z := by simp [List.getD, hz]
  simp_all
theorem tab7_of {L : List (String × DataW Unit)} {W : World} (h : laidMet Tryz.prog L W)
    (m0 : ("kalends/civil.months", Rows.laid_kalends_civil_months) ∈ L) (m1 : ("internal/strconv.uint64pow10", Rows.laid_internal_strconv_uint64pow10) ∈ L)
    (m4 : ("kalends/rfc.partNames", Rows.laid_kalends_rfc_partNames) ∈ L) (m5 : ("kalends/rfc.freqNames", Rows.laid_kalends_rfc_freqNames) ∈ L) (m6 : ("kalends/rfc.weekdayNames", Rows.laid_kalends_rfc_weekdayNames) ∈ L) : Tab7 W := by
  have p : Lib.TabIs Tryz.prog W "internal/strconv.uint64pow10" .u64 Lib.pow10Tab := tab_reads (g := 9) (t := 218) (Lib.laidMet.reads h m1) (by kernel_rfl) (by kernel_rfl) Tryz.underlying218 Tryz.underlying146 (by kernel_rfl) (by kernel_rfl)
  have q : Lib.TabIs Tryz.prog W "kalends/civil.months" .i64 [31, 28, 31, 30, 31, 30, 31, 31, 30, 31, 30, 31] := tab_reads (g := 3) (t := 178) (Lib.laidMet.reads h m0) (by kernel_rfl) (by kernel_rfl) Tryz.underlying178 Tryz.underlying3 (by kernel_rfl) (by kernel_rfl)
  refine ⟨?_⟩
  exact ac (ints_tab q (by kernel_rfl)) (ac (strs_tab (t := 98) (Lib.laidMet.reads h m4) (by kernel_rfl) (by kernel_rfl) Tryz.underlying98 Tryz.underlying9 (by kernel_rfl) (by kernel_rfl))
    (ac (strs_tab (t := 121) (Lib.laidMet.reads h m5) (by kernel_rfl) (by kernel_rfl) Tryz.underlying121 Tryz.underlying9 (by kernel_rfl) (by kernel_rfl))
      (ac (strs_tab (t := 163) (Lib.laidMet.reads h m6) (by kernel_rfl) (by kernel_rfl) Tryz.underlying163 Tryz.underlying9 (by kernel_rfl) (by kernel_rfl)) (ac (ints_tab p (by kernel_rfl)) an))))
end Go.Proofs.YtnggajehngemmaaGreatDoor
/-
  Letters: a call of any arguments by its contract; what a pair of letters is.
-/
namespace Go.Proofs.YtnggajehngemmaaGreatDoor
open Go Go.RowKit
theorem rl_nil [Ltr] : ∀ (E : Ren) (a : List Value), RelL E [] a → a = [] := fun E a h => by cases h; rfl
theorem rl_l [Ltr] {i : Nat} {u : Value} {l l' : List Value} (hi : Ltr.v i = some u) (t : ∀ (E : Ren) (a : List Value), RelL E l a → a = l') : ∀ (E : Ren) (a : List Value), RelL E (Lt i :: l) a → a = u :: l' := fun E a h => by
  cases h with
  | cons h1 t1 => rw [is_ltr hi E _ h1, t E _ t1]
theorem rl_f [Ltr] {v : Value} {l l' : List Value} (hv : flat v = true) (t : ∀ (E : Ren) (a : List Value), RelL E l a → a = l') : ∀ (E : Ren) (a : List Value), RelL E (v :: l) a → a = v :: l' := fun E a h => by
  cases h with
  | cons h1 t1 => rw [is_flat hv E _ h1, t E _ t1]
theorem pg [Ltr] {X : Kep} {f : FuncId} {l l' : List Value} {r q : Value} (hl : ∀ (E : Ren) (a : List Value), RelL E l a → a = l') (hr : ∀ E : Ren, Rel E r q) (h : ∀ w : World, (∀ b, X b → w.heap[b]? = X.ob b) → Calls Tryz.prog f ⟨l'⟩ w fun e w' => e = .returned q ∧ Below w.heap.size w w') :
    ∀ (E : Ren) (w : World) (args' : List Value), (∀ b, X b → w.heap[b]? = X.ob b) → RelL E l args' → Calls Tryz.prog f ⟨args'⟩ w fun e w' => ∃ v', e = .returned v' ∧ Rel E r v' ∧ Below w.heap.size w w' := fun E w args' k ha => by
  rw [hl E _ ha]
  exact (h w k).mono fun e w' p => ⟨_, p.1, hr E, p.2⟩
/-- one pattern -/
theorem pg1 [Ltr] {X : Kep} {base : Nat} {f : FuncId} {l l' : List Value} {r q : Value} (hl : ∀ (E : Ren) (a : List Value), RelL E l a → a = l') (hr : ∀ E : Ren, Rel E r q) (h : ∀ w : World, (∀ b, X b → w.heap[b]? = X.ob b) → Calls Tryz.prog f ⟨l'⟩ w fun e w' => e = .returned q ∧ Below w.heap.size w w') : PEOk Tryz.prog X base (f, patP [(l, r)]) :=
  patP_ok (ac (pg hl hr h) an)
theorem same_w {P : Program} {f : FuncId} {args : Array Value} {w : World} {v : Value} (h : Calls P f args w fun e w' => e = .returned v ∧ w = w') : Calls P f args w fun e w' => e = .returned v ∧ Below w.heap.size w w' :=
  h.mono fun e w' p => ⟨p.1, by rw [← p.2]; exact Below.refl _ _⟩
end Go.Proofs.YtnggajehngemmaaGreatDoor
