/-
  An argument that is a slice of texts, opened: where they lie, how much they weigh.
-/
import Derived.Test.YtcplkbflpopoaaaGreatDoorBs7
import Derived.Test.YtcplkbflpopoaaaGreatDoorKPluralJoins
import Derived.SliceStrings
namespace Go.Proofs.YtcplkbflpopoaaaGreatDoor
open Go.ChangeShapes Go.WideShapes Go.ChangeAt Go.RowKit
section
variable {H : Type} {enc : TypeId × Value → H}
theorem bulk_strs : ∀ l : List ByteArray, Rows.uptoBulkAll (strs (H := H) l) = flen (l.map (·.data.toList)) + l.length
  | [] => by simp [strs, Rows.uptoBulkAll, flen]
  | x :: l => by
    have ih := bulk_strs l
    simp only [strs, List.map_cons, Rows.uptoBulkAll, Rows.uptoBulk, flen, List.length_cons] at ih ⊢
    omega
set_option maxRecDepth 100000 in
theorem strs_arg {W : World} {b0 : Nat} {v : Value} {d : DataW H} {p : List MemPlace} (hval : Value.okWide Tryz.prog W .any b0 41 v) (h : DataW.Trod enc Tryz.prog W 0 (fun _ => true) true 41 v d p) :
    ∃ (A : Option Addr) (L : List (List UInt8)) (c : Nat), v = .slice A L.length c ∧ L.length ≤ c ∧ StrsIn W A L ∧ flen L + L.length ≤ Rows.uptoBulk d := by
  obtain ⟨A, len, cap, rfl⟩ := okWide_slice Tryz.underlying41 hval
  obtain ⟨fuel, hf⟩ := h
  have hf' : DataW.trod enc Tryz.prog W 0 (fun _ => true) true fuel 41 [.slice A len cap] = some (d, p) := hf
  rcases open_strings Tryz.underlying41 Tryz.underlying9 (by kernel_rfl) hf' with ⟨h0, hx⟩ | ⟨a, len', cap', ss, h0, hb, hl, hm, hlen, hx, hcell, -⟩
  · obtain ⟨rfl, rfl, rfl⟩ := Value.slice.inj (List.cons.inj h0).1
    exact ⟨none, [], 0, rfl, Nat.le_refl _, fun i hi => absurd hi (Nat.not_lt_zero i), Nat.zero_le _⟩
  · obtain ⟨rfl, rfl, rfl⟩ := Value.slice.inj (List.cons.inj h0).1
    simp only [if_true] at hlen
    have hL : ((ss.take len).map (·.data.toList)).length = len := by rw [List.length_map, List.length_take]; omega
    refine ⟨some a, (ss.take len).map (·.data.toList), cap, by rw [hL], by omega, fun i hi => ?_, ?_⟩
    · have hi' : i < len := by omega
      have his : i < ss.length := by omega
      have hc := hcell i his
      have e1 : ss.getD i ByteArray.empty = ss[i] := by simp [List.getD, his]
      rw [e1] at hc
      obtain ⟨b, o, sp⟩ := a
      cases sp with
      | none =>
        rw [Lib.add_plain] at hc
        refine ⟨b, o, rfl, ?_⟩
        rw [hc]
        simp
      | some q =>
        exfalso
        have h0 := hcell 0 (by omega)
        have hsp : ((⟨b, o, some q⟩ : Addr).add 0) = ⟨b, o, some q⟩ := by simp [Addr.add]
        rw [hsp] at h0
        unfold World.cell? at h0
        split at h0 <;> simp at h0
    · have hd : d = .slice (strs (ss.take len)) (strs (ss.drop len)) := (Prod.mk.inj hx).1
      rw [hd]
      have := bulk_strs (H := H) (ss.take len)
      simp only [Rows.uptoBulk]
      rw [this, List.length_map]
      omega
end
end Go.Proofs.YtcplkbflpopoaaaGreatDoor
