/-
  locale: the functions that make the tables, as known calls; the fixed call of stage 9 returns true.
-/
import Derived.Test.YtanonhannngkmaaGreatDoorLo3
import Derived.Test.YtanonhannngkmaaGreatDoorLo4
import Derived.Test.YtanonhannngkmaaGreatDoorAw8
import Derived.Test.YtanonhannngkmaaGreatDoorCards
import Derived.Test.YtanonhannngkmaaGreatDoorTie
import Derived.ProofKit
import Derived.OpenShut
import Derived.Deep.DeepHandedRow
import Derived.Lib.LaidTab
import Derived.Lib.LaidU8
import Derived.LaidSub
import Derived.MakeChecks
import Derived.ChangeSlices
import Derived.WideKeyArgs
import Derived.Below
import Derived.Lay
namespace Go.Proofs.YtanonhannngkmaaGreatDoor
open Go Go.RowKit
noncomputable def madeP (f : FuncId) (i : Nat) : Prim := stP f [] (.pointer (some ⟨0, 0, none⟩)) (Loc.tab i)
noncomputable def mkP : Prim := orP (madeP 36 0) (orP (madeP 37 1) (orP (madeP 38 2) (madeP 39 3)))
theorem st_start [Ltr] (w : World) : ∃ E0, Rep (kep w) 64 E0 ⟨64, []⟩ w ∧ Gl 64 E0 := ⟨startE 64, rep_start (T := []) an rfl, fun g hg => ⟨0, by unfold startE; rw [show Nat.blt g 64 = true by simpa [Nat.blt_eq] using hg]; rfl⟩⟩
theorem keep_of {X : Kep} {w w' : World} (hw : ∀ b, X b → w.heap[b]? = X.ob b) (hlt : ∀ b, X b → b < w.heap.size) (k : ∀ b, (kep w) b → w'.heap[b]? = (kep w).ob b) : ∀ b, X b → w'.heap[b]? = X.ob b := fun b hb => (k b (hlt b hb)).trans (hw b hb)
theorem madeP_ok {L : Ltr} {X : Kep} {base : Nat} (hm : ∀ w : World, (∀ b, X b → w.heap[b]? = X.ob b) → MaxIn w) {f : FuncId} {i : Nat} (e : keeps false 64 (callEv Tryz.prog splitP 64 (@codeQ noOrc Tryz.prog splitP 64 64 400 false) f [] ⟨64, []⟩) Loc.tabK (.pointer (some ⟨0, 0, none⟩)) (Loc.tab i) = true) : @PrimOk L Tryz.prog (madeP f i) 64 X base :=
  @stP_ok noLtr L noOrc false (fun h => by cases h) Tryz.prog splitP 64 64 base X mixed (fun w _ => @noOrc_ok noLtr _ _ _ _) 400 f [] ⟨64, []⟩ Loc.tabK _ _ (fun w k => ⟨@st_start noLtr w, @splitP_ok noLtr _ _ _ fun w' k' => (hm w k).keep k'⟩) rfl e
theorem mkP_ok {L : Ltr} {X : Kep} {base : Nat} (hm : ∀ w : World, (∀ b, X b → w.heap[b]? = X.ob b) → MaxIn w) : @PrimOk L Tryz.prog mkP 64 X base :=
  @orP_ok L _ _ _ _ _ (madeP_ok hm lo_made0) (@orP_ok L _ _ _ _ _ (madeP_ok hm lo_made1) (@orP_ok L _ _ _ _ _ (madeP_ok hm lo_made2) (madeP_ok hm lo_made3)))
noncomputable def aw9P : Prim := orP (prL [(18, fixP (.bool true))]) mkP
set_option maxRecDepth 100000 in
theorem comes9 : (callEv Tryz.prog aw9P 64 (@codeQ (orcG 64 64 [] [] []) Tryz.prog aw9P 64 64 200 false) 13 [] ⟨64, []⟩).map (·.1) = some (.bool true) := by kernel_rfl
theorem awk9 (w : World) (hT : TabsE tabs w) (hM : MaxIn w) : Calls Tryz.prog 13 #[] w fun e w' => e = .returned (.bool true) ∧ Below w.heap.size w w' :=
  symP noLtr 200 an an an (@orP_ok noLtr _ _ _ _ _ (@prL_ok _ _ _ noLtr _ _ (ac (@fixP_ok _ _ _ noLtr _ _ rfl fun w' k => awk8 w' (hT.keep k)) an)) (mkP_ok fun _ k => hM.keep k)) (@RelL.nil noLtr _) rfl comes9
end Go.Proofs.YtanonhannngkmaaGreatDoor
/-
  What all laws of the seat share: the listed tables, the row's last step.
-/
namespace Go.Proofs.YtanonhannngkmaaGreatDoor
open Go.ChangeShapes Go.WideShapes Go.ChangeAt Go.RowKit
theorem own : ownKnob Tryz.prog.godebug = none := by kernel_rfl
theorem laidOut : laidOutB Tryz.prog = true := by kernel_rfl
section
variable {H : Type} {enc : TypeId × Value → H}
theorem trodAll_stays {W W' : World} {sp : Nat → Bool} : ∀ (ts : List TypeId) (vs : List Value) (ds : List (DataW H)) (ps : List MemPlace), (∀ t ∈ ts, Tryz.prog.readableRec t = true ∧ t < Tryz.prog.types.size) →
    DataW.TrodAll enc Tryz.prog W 0 (fun _ => true) true ts vs ds ps → (∀ p ∈ ps, W.sameAt W' p) → (∀ p ∈ ps, sp p.block = true) → DataW.TrodAll enc Tryz.prog W' 0 sp true ts vs ds ps
  | [], _, _, _, _, h, _, _ => by
    obtain ⟨rfl, rfl, rfl⟩ := trodAll_nil h
    exact trodAll_mk0
  | t :: ts, _, _, _, ht, h, hs, hp => by
    obtain ⟨v, vs', d, ds', p, q, rfl, rfl, rfl, h1, h2⟩ := trodAll_cons h
    have hr := ht t (List.mem_cons_self)
    exact trodAll_cons_mk (WideElems.Trod_stays laidOut hr.1 hr.2 h1 (fun p hp' => hs p (List.mem_append_left _ hp')) (fun x hx => hp x (List.mem_append_left _ hx)))
      (trodAll_stays ts vs' ds' q (fun u hu => ht u (List.mem_cons_of_mem _ hu)) h2 (fun x hx => hs x (List.mem_append_right _ hx)) (fun x hx => hp x (List.mem_append_right _ hx)))

/-- THE LAST STEP of every law: true; new memory alone. -/
theorem law_all {f : Func} {s : ChangeSpec} {W W' : World} {args : Array Value} {v : Value} {ds : List (DataW H)} {before : List MemPlace}
    (hW : DataW.Whole enc Tryz.prog f.params.toList s.vars false W args.toList ds [] before) (hv : s.vars = [])
    (hr0 : (f.params.toList.all fun t => Tryz.prog.readableRec t && decide (t < Tryz.prog.types.size)) = true)
    (hres : DataW.TrodAll enc Tryz.prog W' W.heap.size (fun _ => false) false f.resultTypes.toList (v.resultList f.resultTypes.size) (s.fn H (ds ++ [])).results [])
    (ha : (s.fn H (ds ++ [])).args = ds) (hg : (s.fn H (ds ++ [])).vars = []) (hb : Below W.heap.size W W') :
    s.post enc Tryz.prog f false true false false W args v W' := by
  have hr : ∀ t ∈ f.params.toList, Tryz.prog.readableRec t = true ∧ t < Tryz.prog.types.size := fun t ht => by
    have := List.all_eq_true.1 hr0 t ht
    simpa using this
  have hW' := hW
  have hlt := hW.lt
  obtain ⟨p, q, hA, hV, rfl, -, -⟩ := hW
  refine ⟨ds, [], p ++ q, [], p, [], hW', hres, ?_, ?_, hb.frame _, fun h => by cases h⟩
  · rw [ha]
    exact trodAll_stays _ _ _ _ hr hA (fun x hx => hb.same (hlt x (List.mem_append_left _ hx))) (fun x hx => by simpa using hlt x (List.mem_append_left _ hx))
  · rw [hv, hg]
    rfl

end
theorem strs_of_tab {H : Type} {enc : TypeId × Value → H} {P : Program} {w : World} {base : Nat} {sp : Nat → Bool} {held : Bool} {fuel : Nat} {t e : TypeId} {n : Nat} {cs : List Value} {zs : List (List UInt8)} {p : List MemPlace}
    (ht : P.underlying t = some (.array n e)) (he : P.underlying e = some .string) (hce : P.cellsOf e = 1) (hct : P.cellsOf t = n)
    (h : DataW.trod enc P w base sp held fuel t cs = some (.agg (zs.map fun z => .lit (.string z)), p)) : cs = zs.map fun z => Value.string ⟨z.toArray⟩ := by
  cases fuel with
  | zero => simp [DataW.trod] at h
  | succ fuel =>
    simp only [DataW.trod, ht, hce, hct, Nat.mul_one] at h
    split at h
    · rename_i hl
      obtain ⟨xs, hm, hx⟩ := Option.map_eq_some_iff.1 h
      have hxs : xs.map (·.1) = zs.map fun z => (DataW.lit (.string z) : DataW H) := by
        have := congrArg Prod.fst hx
        simpa using this
      have hxl : xs.length = n := by simpa using Lib.mapM_length hm
      have hzl : zs.length = n := by
        have := congrArg List.length hxs
        simp at this
        omega
      apply List.ext_getElem?
      intro i
      by_cases hi : i < n
      · obtain ⟨b, hb, hf⟩ := Lib.mapM_at hm i i (by simp [hi])
        obtain ⟨s, hc, rfl, _⟩ := DataW.trod_string he hf
        have h1 : cs[i]? = some (.string s) := by
          have := congrArg (·[0]?) hc
          simpa [List.getElem?_take, List.getElem?_drop] using this
        have h2 : (xs.map (·.1))[i]? = some (DataW.lit (.string s.data.toList) : DataW H) := by simp [hb]
        rw [hxs] at h2
        simp only [List.getElem?_map, Option.map_eq_some_iff, DataW.lit.injEq, Lit.string.injEq] at h2
        obtain ⟨z', hz', e'⟩ := h2
        subst e'
        simp [h1, hz']
      · rw [List.getElem?_eq_none (by omega), List.getElem?_eq_none (by simp; omega)]
    · cases h
theorem strs_cell {P : Program} {W : World} {n : String} {g t e : Nat} {k : Nat} {zs : List (List UInt8)} (hr : Lib.VarReads P W n (.agg (zs.map fun z => .lit (.string z)))) (hg : P.globalNamed n = some g) (hty : (P.globals[g]?).map (·.type) = some t)
    (ht : P.underlying t = some (.array k e)) (he : P.underlying e = some .string) (hce : P.cellsOf e = 1) (hct : P.cellsOf t = k) (i : Nat) : W.cell? ⟨g, i, none⟩ = (zs[i]?).map fun z => Value.string ⟨z.toArray⟩ := by
  obtain ⟨g', t', cs, fuel, p, h1, h2, h3, h4⟩ := hr
  obtain rfl := Option.some.inj (hg.symm.trans h1)
  obtain rfl := Option.some.inj (hty.symm.trans h2)
  have hc := strs_of_tab ht he hce hct h4
  rw [World.var?_cell hg h3 i, ← Array.getElem?_toList, hc, List.getElem?_map]
theorem tab_reads {P : Program} {W : World} {n : String} {g t e : Nat} {k : Nat} {q : IntKind} {zs : List Int} (hr : Lib.VarReads P W n (Lib.tabData q zs)) (hg : P.globalNamed n = some g) (hty : (P.globals[g]?).map (·.type) = some t)
    (ht : P.underlying t = some (.array k e)) (he : P.underlying e = some (.int q)) (hce : P.cellsOf e = 1) (hct : P.cellsOf t = k) : Lib.TabIs P W n q zs := by
  obtain ⟨g', t', cs, fuel, p, h1, h2, h3, h4⟩ := hr
  obtain rfl := Option.some.inj (hg.symm.trans h1)
  obtain rfl := Option.some.inj (hty.symm.trans h2)
  unfold Lib.TabIs
  rw [h3, ← Lib.cells_of_tab ht he hce hct h4]
/-- what the laws of stage 9 want of memory -/
structure Tab7 (w : World) : Prop where
  t : TabsE tabs w
  m : MaxIn w
theorem strs_tab {P : Program} {W : World} {n : String} {g t e : Nat} {k : Nat} {zs : List (List UInt8)} (hr : Lib.VarReads P W n (.agg (zs.map fun z => .lit (.string z)))) (hg : P.globalNamed n = some g) (hty : (P.globals[g]?).map (·.type) = some t)
    (ht : P.underlying t = some (.array k e)) (he : P.underlying e = some .string) (hce : P.cellsOf e = 1) (hct : P.cellsOf t = k) : TabAt W g (tStr zs) := by
  intro j v hj
  rw [strs_cell hr hg hty ht he hce hct j]
  simpa [tStr] using hj
theorem ints_tab {P : Program} {W : World} {n : String} {g : Nat} {k : IntKind} {zs : List Int} (h : Lib.TabIs P W n k zs) (hg : P.globalNamed n = some g) : TabAt W g (zs.map fun z => .int k z) := by
  intro j v hj
  simp only [List.getElem?_map, Option.map_eq_some_iff] at hj
  obtain ⟨z, hz, rfl⟩ := hj
  have hlt : j < zs.length := (List.getElem?_eq_some_iff.1 hz).1
  have := h.cell hg j hlt
  rw [this]
  have e : zs.getD j 0 = z := by simp [List.getD, hz]
  simp_all
theorem tab7_of {L : List (String × DataW Unit)} {W : World} (h : laidMet Tryz.prog L W) (hsh : W.ShapedOpen Tryz.prog)
    (m0 : ("kalends/civil.months", Rows.laid_kalends_civil_months) ∈ L) (m1 : ("internal/strconv.uint64pow10", Rows.laid_internal_strconv_uint64pow10) ∈ L)
    (m4 : ("kalends/rfc.partNames", Rows.laid_kalends_rfc_partNames) ∈ L) (m5 : ("kalends/rfc.freqNames", Rows.laid_kalends_rfc_freqNames) ∈ L) (m6 : ("kalends/rfc.weekdayNames", Rows.laid_kalends_rfc_weekdayNames) ∈ L) : Tab7 W := by
  have p : Lib.TabIs Tryz.prog W "internal/strconv.uint64pow10" .u64 Lib.pow10Tab := tab_reads (g := 9) (t := 257) (Lib.laidMet.reads h m1) (by kernel_rfl) (by kernel_rfl) Tryz.underlying257 Tryz.underlying227 (by kernel_rfl) (by kernel_rfl)
  have q : Lib.TabIs Tryz.prog W "kalends/civil.months" .i64 [31, 28, 31, 30, 31, 30, 31, 31, 30, 31, 30, 31] := tab_reads (g := 2) (t := 131) (Lib.laidMet.reads h m0) (by kernel_rfl) (by kernel_rfl) Tryz.underlying131 Tryz.underlying3 (by kernel_rfl) (by kernel_rfl)
  refine ⟨?_, Go.Proofs.cell_of_shapedOpen_int (zero := #[.int .i64 0]) (t := 3) hsh (of_decide_eq_true (by kernel_rfl)) (by kernel_rfl) rfl (by kernel_rfl) (by kernel_rfl) Tryz.underlying3⟩
  exact ac (ints_tab q (by kernel_rfl)) (ac (strs_tab (t := 150) (Lib.laidMet.reads h m4) (by kernel_rfl) (by kernel_rfl) Tryz.underlying150 Tryz.underlying9 (by kernel_rfl) (by kernel_rfl))
    (ac (strs_tab (t := 178) (Lib.laidMet.reads h m5) (by kernel_rfl) (by kernel_rfl) Tryz.underlying178 Tryz.underlying9 (by kernel_rfl) (by kernel_rfl))
      (ac (strs_tab (t := 203) (Lib.laidMet.reads h m6) (by kernel_rfl) (by kernel_rfl) Tryz.underlying203 Tryz.underlying9 (by kernel_rfl) (by kernel_rfl)) (ac (ints_tab p (by kernel_rfl)) an))))
end Go.Proofs.YtanonhannngkmaaGreatDoor
