/-
  An argument that is a rule by small numbers, opened; one that is a weekday.
-/
import Derived.Test.YtkcolbeemmnolaaGreatDoorOpen
import Derived.Test.YtkcolbeemmnolaaGreatDoorLaws0
import Derived.Test.YtkcolbeemmnolaaGreatDoorAw5
import Derived.Test.YtkcolbeemmnolaaGreatDoorEvT
import Derived.ProofKit
import Derived.OpenShut
import Derived.Deep.DeepHandedRow
import Derived.Lib.LaidTab
import Derived.Lib.LaidU8
import Derived.LaidSub
import Derived.MakeChecks
import Derived.ChangeSlices
import Derived.WideKeyArgs
import Derived.Below
import Derived.Lay
namespace Go.Proofs.YtkcolbeemmnolaaGreatDoor
open Go.ChangeShapes Go.WideShapes Go.ChangeAt Go.RowKit Go.Deep
section
variable {H : Type} {enc : TypeId × Value → H}
theorem int_fieldX {W : World} {t : TypeId} {n : Nat} {c : Value} {y : DataW H × List MemPlace} {k : IntKind} (ht : Tryz.prog.underlying t = some (.int k)) (h : DataW.trod enc Tryz.prog W 0 (fun _ => true) true n t [c] = some y) :
    ∃ x : Int, c = .int k x ∧ (Lit.int k x).wf = true := by
  obtain ⟨x, e, -, hw⟩ := DataW.trod_int ht h
  exact ⟨x, (List.cons.inj e).1, hw⟩
set_option maxRecDepth 100000 in
theorem wks_of {W : World} {n : Nat} {v : Value} {y : DataW H × List MemPlace}
    (h : DataW.trod enc Tryz.prog W 0 (fun _ => true) true n 26 [v] = some y) :
    ∃ (A : Option Addr) (L : List (Int × Int)) (cap : Nat), v = .slice A L.length cap ∧ L.length ≤ maxLen ∧ (∀ x ∈ L, (Lit.int .i8 x.1).wf = true ∧ (Lit.int .u8 x.2).wf = true) ∧ WksIn W A L := by
  rcases open_slice Tryz.underlying26 h with ⟨h0, -⟩ | ⟨a, len, cap, m, n', D, Pl, h0, -, hl, hm, hz, -, hi⟩
  · obtain rfl : v = _ := (List.cons.inj h0).1
    exact ⟨none, [], 0, rfl, Nat.zero_le _, fun x hx => (by cases hx), fun i hi => absurd hi (Nat.not_lt_zero i)⟩
  · obtain rfl : v = _ := (List.cons.inj h0).1
    simp only [if_true] at hz
    have hc2 : Tryz.prog.cellsOf 58 = 2 := by kernel_rfl
    have each : ∀ i, i < len → ∃ x : Int × Int, (Lit.int .i8 x.1).wf = true ∧ (Lit.int .u8 x.2).wf = true ∧ W.cell? (a.add (i * 2)) = some (.int .i8 x.1) ∧ W.cell? ((a.add (i * 2)).add 1) = some (.int .u8 x.2) := by
      intro i hi'
      obtain ⟨cs', hc, htr⟩ := hi i (by omega)
      rw [hc2] at hc
      obtain ⟨-, hcl, hat⟩ := World.cells?_some hc
      obtain ⟨xs, n2, -, -, -, hxl, hg⟩ := DataW.trod_struct Tryz.underlying58 htr
      match cs', hcl with
      | [c0, c1], _ =>
        have g0 := hg 0 _ rfl
        have g1 := hg 1 _ rfl
        have hx0 : xs[0]? = some (xs[0]'(by rw [hxl]; decide)) := List.getElem?_eq_getElem _
        have hx1 : xs[1]? = some (xs[1]'(by rw [hxl]; decide)) := List.getElem?_eq_getElem _
        rw [hx0] at g0
        rw [hx1] at g1
        obtain ⟨n0, e0, -, w0⟩ := DataW.trod_int Tryz.underlying55 g0
        obtain ⟨m0, e1, -, w1⟩ := DataW.trod_int Tryz.underlying5 g1
        have k1 : Tryz.prog.cellsOf 55 = 1 := by kernel_rfl
        have k2 : Tryz.prog.cellsOf 5 = 1 := by kernel_rfl
        simp [k1] at e0
        simp [k2] at e1
        have z0 := hat 0 (by omega)
        have z1 := hat 1 (by omega)
        refine ⟨(n0, m0), w0, w1, ?_, ?_⟩
        · rw [addr_zero] at z0
          simpa [e0] using z0
        · simpa [e1] using z1
    obtain ⟨L, hL, hp⟩ := list_of len each
    refine ⟨some a, L, cap, by rw [hL], by omega, fun x hx => ?_, fun i hi' => ?_⟩
    · obtain ⟨i, hi', rfl⟩ := List.getElem_of_mem hx
      exact ⟨(hp i hi').1, (hp i hi').2.1⟩
    · obtain ⟨-, -, q1, q2⟩ := hp i hi'
      have hb := World.block_lt_of_cell? _ _ q1
      rw [block_add] at hb
      exact ⟨a, rfl, hb, q1, q2⟩
set_option maxRecDepth 100000 in
theorem x_of {W : World} {base : Nat} {v : Value} {d : DataW H} {p : List MemPlace} (hv : Value.okWide Tryz.prog W .any base 29 v) (h : DataW.Trod enc Tryz.prog W 0 (fun _ => true) true 29 v d p) :
    ∃ (F I E C U : Int) (AM AD AW AP : Option Addr) (cM cD cW cP : Nat) (lm ld : List Int) (lw : List (Int × Int)) (lp : List Int),
      v = .agg #[.int .u8 F, .int .u8 I, .int .u8 E, .int .u16 C, .int .u32 U, .slice AM lm.length cM, .slice AD ld.length cD, .slice AW lw.length cW, .slice AP lp.length cP] ∧ XIn0 W F I E C U AM AD AW AP lm ld lw lp := by
  obtain ⟨cs, n, rfl, hsz, hf⟩ := fields_of Tryz.underlying29 (by kernel_rfl) (by kernel_rfl) hv h
  obtain ⟨l⟩ := cs
  match l, hsz with
  | [c0, c1, c2, c3, c4, c5, c6, c7, c8], _ =>
    obtain ⟨_, y0, e0, t0⟩ := hf 0 _ rfl
    obtain rfl := Option.some.inj e0
    obtain ⟨_, y1, e1, t1⟩ := hf 1 _ rfl
    obtain rfl := Option.some.inj e1
    obtain ⟨_, y2, e2, t2⟩ := hf 2 _ rfl
    obtain rfl := Option.some.inj e2
    obtain ⟨_, y3, e3, t3⟩ := hf 3 _ rfl
    obtain rfl := Option.some.inj e3
    obtain ⟨_, y4, e4, t4⟩ := hf 4 _ rfl
    obtain rfl := Option.some.inj e4
    obtain ⟨_, y5, e5, t5⟩ := hf 5 _ rfl
    obtain rfl := Option.some.inj e5
    obtain ⟨_, y6, e6, t6⟩ := hf 6 _ rfl
    obtain rfl := Option.some.inj e6
    obtain ⟨_, y7, e7, t7⟩ := hf 7 _ rfl
    obtain rfl := Option.some.inj e7
    obtain ⟨_, y8, e8, t8⟩ := hf 8 _ rfl
    obtain rfl := Option.some.inj e8
    obtain ⟨F, rfl, b0⟩ := int_fieldX Tryz.underlying5 t0
    obtain ⟨I, rfl, b1⟩ := int_fieldX Tryz.underlying5 t1
    obtain ⟨E, rfl, b2⟩ := int_fieldX Tryz.underlying5 t2
    obtain ⟨C, rfl, b3⟩ := int_fieldX Tryz.underlying22 t3
    obtain ⟨U, rfl, b4⟩ := int_fieldX Tryz.underlying23 t4
    obtain ⟨AM, lm, cM, rfl, l5, b5, i5⟩ := nums_of Tryz.underlying24 Tryz.underlying5 (by kernel_rfl) t5
    obtain ⟨AD, ld, cD, rfl, l6, b6, i6⟩ := nums_of Tryz.underlying25 Tryz.underlying55 (by kernel_rfl) t6
    obtain ⟨AW, lw, cW, rfl, l7, b7, i7⟩ := wks_of t7
    obtain ⟨AP, lp, cP, rfl, l8, b8, i8⟩ := nums_of Tryz.underlying27 Tryz.underlying64 (by kernel_rfl) t8
    exact ⟨F, I, E, C, U, AM, AD, AW, AP, cM, cD, cW, cP, lm, ld, lw, lp, rfl, ⟨bounds_u8 b0, bounds_u8 b1, bounds_u8 b2, bounds_u16 b3, bounds_u32 b4, i5, i6, i7, i8, fun x hx => bounds_u8 (b5 x hx), fun x hx => bounds_i8 (b6 x hx), fun x hx => ⟨bounds_i8 (b7 x hx).1, bounds_u8 (b7 x hx).2⟩, fun x hx => bounds_i16 (b8 x hx), l5, l6, l7, l8⟩⟩
set_option maxRecDepth 100000 in
theorem nth_of {W : World} {base : Nat} {v : Value} {d : DataW H} {p : List MemPlace} (hv : Value.okWide Tryz.prog W .any base 60 v) (h : DataW.Trod enc Tryz.prog W 0 (fun _ => true) true 60 v d p) :
    ∃ x y : Int, v = .agg #[.int .i64 x, .int .i64 y] ∧ (Lit.int .i64 x).wf = true ∧ (Lit.int .i64 y).wf = true := by
  obtain ⟨cs, n, rfl, hsz, hf⟩ := fields_of Tryz.underlying60 (by kernel_rfl) (by kernel_rfl) hv h
  obtain ⟨l⟩ := cs
  match l, hsz with
  | [c0, c1], _ =>
    obtain ⟨_, y0, e0, t0⟩ := hf 0 _ rfl
    obtain rfl := Option.some.inj e0
    obtain ⟨_, y1, e1, t1⟩ := hf 1 _ rfl
    obtain rfl := Option.some.inj e1
    obtain ⟨x, rfl, b0⟩ := int_fieldX Tryz.underlying3 t0
    obtain ⟨y, rfl, b1⟩ := int_fieldX Tryz.underlying3 t1
    exact ⟨x, y, rfl, b0, b1⟩
end
end Go.Proofs.YtkcolbeemmnolaaGreatDoor
/-
  What the laws over made rules of stage 5 share: the listed tables (the row's last step is Open's).
-/
namespace Go.Proofs.YtkcolbeemmnolaaGreatDoor
open Go.ChangeShapes Go.WideShapes Go.ChangeAt Go.RowKit
theorem strs_of_tab {H : Type} {enc : TypeId × Value → H} {P : Program} {w : World} {base : Nat} {sp : Nat → Bool} {held : Bool} {fuel : Nat} {t e : TypeId} {n : Nat} {cs : List Value} {zs : List (List UInt8)} {p : List MemPlace}
    (ht : P.underlying t = some (.array n e)) (he : P.underlying e = some .string) (hce : P.cellsOf e = 1) (hct : P.cellsOf t = n)
    (h : DataW.trod enc P w base sp held fuel t cs = some (.agg (zs.map fun z => .lit (.string z)), p)) : cs = zs.map fun z => Value.string ⟨z.toArray⟩ := by
  cases fuel with
  | zero => simp [DataW.trod] at h
  | succ fuel =>
    simp only [DataW.trod, ht, hce, hct, Nat.mul_one] at h
    split at h
    · rename_i hl
      obtain ⟨xs, hm, hx⟩ := Option.map_eq_some_iff.1 h
      have hxs : xs.map (·.1) = zs.map fun z => (DataW.lit (.string z) : DataW H) := by
        have := congrArg Prod.fst hx
        simpa using this
      have hxl : xs.length = n := by simpa using Lib.mapM_length hm
      have hzl : zs.length = n := by
        have := congrArg List.length hxs
        simp at this
        omega
      apply List.ext_getElem?
      intro i
      by_cases hi : i < n
      · obtain ⟨b, hb, hf⟩ := Lib.mapM_at hm i i (by simp [hi])
        obtain ⟨s, hc, rfl, _⟩ := DataW.trod_string he hf
        have h1 : cs[i]? = some (.string s) := by
          have := congrArg (·[0]?) hc
          simpa [List.getElem?_take, List.getElem?_drop] using this
        have h2 : (xs.map (·.1))[i]? = some (DataW.lit (.string s.data.toList) : DataW H) := by simp [hb]
        rw [hxs] at h2
        simp only [List.getElem?_map, Option.map_eq_some_iff, DataW.lit.injEq, Lit.string.injEq] at h2
        obtain ⟨z', hz', e'⟩ := h2
        subst e'
        simp [h1, hz']
      · rw [List.getElem?_eq_none (by omega), List.getElem?_eq_none (by simp; omega)]
    · cases h
theorem strs_cell {P : Program} {W : World} {n : String} {g t e : Nat} {k : Nat} {zs : List (List UInt8)} (hr : Lib.VarReads P W n (.agg (zs.map fun z => .lit (.string z)))) (hg : P.globalNamed n = some g) (hty : (P.globals[g]?).map (·.type) = some t)
    (ht : P.underlying t = some (.array k e)) (he : P.underlying e = some .string) (hce : P.cellsOf e = 1) (hct : P.cellsOf t = k) (i : Nat) : W.cell? ⟨g, i, none⟩ = (zs[i]?).map fun z => Value.string ⟨z.toArray⟩ := by
  obtain ⟨g', t', cs, fuel, p, h1, h2, h3, h4⟩ := hr
  obtain rfl := Option.some.inj (hg.symm.trans h1)
  obtain rfl := Option.some.inj (hty.symm.trans h2)
  have hc := strs_of_tab ht he hce hct h4
  rw [World.var?_cell hg h3 i, ← Array.getElem?_toList, hc, List.getElem?_map]
theorem tab_reads {P : Program} {W : World} {n : String} {g t e : Nat} {k : Nat} {q : IntKind} {zs : List Int} (hr : Lib.VarReads P W n (Lib.tabData q zs)) (hg : P.globalNamed n = some g) (hty : (P.globals[g]?).map (·.type) = some t)
    (ht : P.underlying t = some (.array k e)) (he : P.underlying e = some (.int q)) (hce : P.cellsOf e = 1) (hct : P.cellsOf t = k) : Lib.TabIs P W n q zs := by
  obtain ⟨g', t', cs, fuel, p, h1, h2, h3, h4⟩ := hr
  obtain rfl := Option.some.inj (hg.symm.trans h1)
  obtain rfl := Option.some.inj (hty.symm.trans h2)
  unfold Lib.TabIs
  rw [h3, ← Lib.cells_of_tab ht he hce hct h4]
/-- what the laws of stage 5 want of memory -/
structure Tab7 (w : World) : Prop where
  t : TabsE tabs w
theorem strs_tab {P : Program} {W : World} {n : String} {g t e : Nat} {k : Nat} {zs : List (List UInt8)} (hr : Lib.VarReads P W n (.agg (zs.map fun z => .lit (.string z)))) (hg : P.globalNamed n = some g) (hty : (P.globals[g]?).map (·.type) = some t)
    (ht : P.underlying t = some (.array k e)) (he : P.underlying e = some .string) (hce : P.cellsOf e = 1) (hct : P.cellsOf t = k) : TabAt W g (tStr zs) := by
  intro j v hj
  rw [strs_cell hr hg hty ht he hce hct j]
  simpa [tStr] using hj
theorem ints_tab {P : Program} {W : World} {n : String} {g : Nat} {k : IntKind} {zs : List Int} (h : Lib.TabIs P W n k zs) (hg : P.globalNamed n = some g) : TabAt W g (zs.map fun z => .int k z) := by
  intro j v hj
  simp only [List.getElem?_map, Option.map_eq_some_iff] at hj
  obtain ⟨z, hz, rfl⟩ := hj
  have hlt : j < zs.length := (List.getElem?_eq_some_iff.1 hz).1
  have := h.cell hg j hlt
  rw [this]
  have e : zs.getD j 0 = z := by simp [List.getD, hz]
  simp_all
theorem tab7_of {L : List (String × DataW Unit)} {W : World} (h : laidMet Tryz.prog L W)
    (m0 : ("kalends/civil.months", Rows.laid_kalends_civil_months) ∈ L) (m1 : ("internal/strconv.uint64pow10", Rows.laid_internal_strconv_uint64pow10) ∈ L)
    (m4 : ("kalends/rfc.partNames", Rows.laid_kalends_rfc_partNames) ∈ L) (m5 : ("kalends/rfc.freqNames", Rows.laid_kalends_rfc_freqNames) ∈ L) (m6 : ("kalends/rfc.weekdayNames", Rows.laid_kalends_rfc_weekdayNames) ∈ L) : Tab7 W := by
  have p : Lib.TabIs Tryz.prog W "internal/strconv.uint64pow10" .u64 Lib.pow10Tab := tab_reads (g := 9) (t := 246) (Lib.laidMet.reads h m1) (by kernel_rfl) (by kernel_rfl) Tryz.underlying246 Tryz.underlying119 (by kernel_rfl) (by kernel_rfl)
  have q : Lib.TabIs Tryz.prog W "kalends/civil.months" .i64 [31, 28, 31, 30, 31, 30, 31, 31, 30, 31, 30, 31] := tab_reads (g := 0) (t := 100) (Lib.laidMet.reads h m0) (by kernel_rfl) (by kernel_rfl) Tryz.underlying100 Tryz.underlying3 (by kernel_rfl) (by kernel_rfl)
  refine ⟨?_⟩
  exact ac (ints_tab q (by kernel_rfl)) (ac (strs_tab (t := 137) (Lib.laidMet.reads h m4) (by kernel_rfl) (by kernel_rfl) Tryz.underlying137 Tryz.underlying9 (by kernel_rfl) (by kernel_rfl))
    (ac (strs_tab (t := 172) (Lib.laidMet.reads h m5) (by kernel_rfl) (by kernel_rfl) Tryz.underlying172 Tryz.underlying9 (by kernel_rfl) (by kernel_rfl))
      (ac (strs_tab (t := 200) (Lib.laidMet.reads h m6) (by kernel_rfl) (by kernel_rfl) Tryz.underlying200 Tryz.underlying9 (by kernel_rfl) (by kernel_rfl)) (ac (ints_tab p (by kernel_rfl)) an))))
end Go.Proofs.YtkcolbeemmnolaaGreatDoor
