/-
  What the laws of stage 10 want of memory; an argument that is a slice of bytes, opened.
-/
import Derived.Test.YtanonhannngkmaaGreatDoorBs9
import Derived.Test.YtanonhannngkmaaGreatDoorFdb
namespace Go.Proofs.YtanonhannngkmaaGreatDoor
open Go.ChangeShapes Go.WideShapes Go.ChangeAt Go.RowKit
/-- what the laws of stage 10 want of memory -/
structure TabA (w : World) : Prop where
  t : TabsE tabs w
  m : MaxIn w
  u : UT w
theorem first_is : Rows.laid_unicode_utf8_first = Lib.firstData := by kernel_rfl
theorem accept_is : (Rows.laid_unicode_utf8_acceptRanges : DataW Unit) = Lib.acceptData := by kernel_rfl
theorem tabA_of {L : List (String × DataW Unit)} {W : World} (h : laidMet Tryz.prog L W) (hsh : W.ShapedOpen Tryz.prog)
    (m0 : ("kalends/civil.months", Rows.laid_kalends_civil_months) ∈ L) (m1 : ("internal/strconv.uint64pow10", Rows.laid_internal_strconv_uint64pow10) ∈ L)
    (m4 : ("kalends/rfc.partNames", Rows.laid_kalends_rfc_partNames) ∈ L) (m5 : ("kalends/rfc.freqNames", Rows.laid_kalends_rfc_freqNames) ∈ L) (m6 : ("kalends/rfc.weekdayNames", Rows.laid_kalends_rfc_weekdayNames) ∈ L)
    (u0 : ("unicode/utf8.first", Rows.laid_unicode_utf8_first) ∈ L) (u1 : ("unicode/utf8.acceptRanges", Rows.laid_unicode_utf8_acceptRanges) ∈ L) : TabA W := by
  have h7 := tab7_of h hsh m0 m1 m4 m5 m6
  rw [first_is] at u0
  rw [accept_is] at u1
  exact ⟨h7.t, h7.m, Go.Proofs.utf8Tabs_of_reads (ρ := Tryz.lays260_ren) Tryz.lays260 ⟨by kernel_rfl, by kernel_rfl, by kernel_rfl, by kernel_rfl, by kernel_rfl, by kernel_rfl, by kernel_rfl⟩ (Lib.laidMet.reads h u0) (Lib.laidMet.reads h u1)⟩
section
variable {H : Type} {enc : TypeId × Value → H}
set_option maxRecDepth 100000 in
theorem bytes_arg {W : World} {b0 : Nat} {v : Value} {d : DataW H} {p : List MemPlace} (hval : Value.okWide Tryz.prog W .any b0 22 v) (h : DataW.Trod enc Tryz.prog W 0 (fun _ => true) true 22 v d p) :
    ∃ (A : Option Addr) (L : List UInt8) (c : Nat), v = .slice A L.length c ∧ BytesAt W A L := by
  obtain ⟨A, len, cap, rfl⟩ := okWide_slice Tryz.underlying22 hval
  obtain ⟨fuel, hf⟩ := h
  have hf' : DataW.trod enc Tryz.prog W 0 (fun _ => true) true fuel 22 [.slice A len cap] = some (d, p) := hf
  rcases open_ints Tryz.underlying22 Tryz.underlying5 (by kernel_rfl) hf' with ⟨h0, hx⟩ | ⟨a, len', cap', zs, h0, hb, hl, hm, hlen, hx, hcell, hwf⟩
  · obtain ⟨rfl, rfl, rfl⟩ := Value.slice.inj (List.cons.inj h0).1
    exact ⟨none, [], 0, rfl, fun j x hj => by simp at hj⟩
  · obtain ⟨rfl, rfl, rfl⟩ := Value.slice.inj (List.cons.inj h0).1
    simp only [if_true] at hlen
    have hL : ((zs.take len).map fun n => UInt8.ofNat n.toNat).length = len := by rw [List.length_map, List.length_take]; omega
    refine ⟨some a, (zs.take len).map fun n => UInt8.ofNat n.toNat, cap, by rw [hL], fun j x hj => ⟨a, rfl, ?_⟩⟩
    rw [List.getElem?_map] at hj
    cases hz : (zs.take len)[j]? with
    | none => rw [hz] at hj; cases hj
    | some z =>
      rw [hz] at hj
      obtain rfl := Option.some.inj hj
      have hz2 : zs[j]? = some z := by
        rw [List.getElem?_take] at hz
        split at hz
        · exact hz
        · cases hz
      have hjl : j < zs.length := (List.getElem?_eq_some_iff.1 hz2).1
      have hc := hcell j hjl
      have e1 : zs.getD j 0 = z := by simp [List.getD, hz2]
      rw [e1] at hc
      have hw := hwf z (List.mem_of_getElem? hz2)
      have hb : 0 ≤ z ∧ z < 256 := by
        simp [Lit.wf] at hw
        have e1 : IntKind.u8.min = 0 := rfl
        have e2 : IntKind.u8.max = 255 := rfl
        omega
      rw [hc, UInt8.toNat_ofNat_of_lt' (by show z.toNat < 256; omega)]
      congr 2
      omega
end
end Go.Proofs.YtanonhannngkmaaGreatDoor
