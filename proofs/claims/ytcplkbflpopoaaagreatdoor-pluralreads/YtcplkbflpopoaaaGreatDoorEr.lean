/-
  Errors of Atoi; plural's Read of any text.
-/
import Derived.Test.YtcplkbflpopoaaaGreatDoorPu4
import Derived.Test.YtcplkbflpopoaaaGreatDoorPl4
import Derived.Test.YtcplkbflpopoaaaGreatDoorEvU
namespace Go.Proofs.YtcplkbflpopoaaaGreatDoor
open Go Go.RowKit
/-- what the errors' variables hold -/
structure Errs (w : World) : Prop where
  s : ∃ v, w.cell? ⟨0, 0, none⟩ = some v ∧ (v = .nilIface ∨ ∃ te pe, v = .iface te pe)
  r : ∃ v, w.cell? ⟨1, 0, none⟩ = some v ∧ (v = .nilIface ∨ ∃ te pe, v = .iface te pe)
theorem cell_keep {w w' : World} {g o : Nat} {v : Value} (h : w.cell? ⟨g, o, none⟩ = some v) (k : ∀ b, (kep w) b → w'.heap[b]? = (kep w).ob b) : w'.cell? ⟨g, o, none⟩ = some v := by
  have hb : g < w.heap.size := World.block_lt_of_cell? _ _ h
  have h2 : w'.heap[g]? = w.heap[g]? := k g hb
  rw [← h]
  simp only [World.cell?, h2]
theorem Errs.keep {w w' : World} (h : Errs w) (k : ∀ b, (kep w) b → w'.heap[b]? = (kep w).ob b) : Errs w' := by
  obtain ⟨⟨v, h1, h2⟩, ⟨u, h3, h4⟩⟩ := h
  exact ⟨⟨v, cell_keep h1 k, h2⟩, ⟨u, cell_keep h3 k, h4⟩⟩
theorem atoi_err (t : List UInt8) (ht : t.length ≤ 1000) (h : ∀ v, Lib.atoiAll t ≠ .ok v) (w : World) (hE : Errs w) : Calls Tryz.prog 15 #[.string ⟨⟨t⟩⟩] w fun e w' => ∃ k u, e = .returned (.tuple ⟨[.int .i64 k, u]⟩) ∧ (∃ tt p, u = .iface tt p) ∧ Below w.heap.size w w' := by
  have hz : (⟨⟨t⟩⟩ : ByteArray).size ≤ 281474976710656 := by show t.length ≤ _; omega
  cases ha : Lib.atoiAll t with
  | ok v => exact absurd ha (h v)
  | «syntax» =>
    obtain ⟨v, hv, hev⟩ := hE.s
    refine (Tryz.strconv_Atoi_syntax ⟨⟨t⟩⟩ hz ha v w hv hev).mono fun e w' p => ?_
    obtain ⟨N, p1, _, _, p4⟩ := p
    exact ⟨_, _, p1, ⟨_, _, rfl⟩, p4⟩
  | range =>
    obtain ⟨v, hv, hev⟩ := hE.r
    refine (Tryz.strconv_Atoi_range ⟨⟨t⟩⟩ hz ha v w hv hev).mono fun e w' p => ?_
    obtain ⟨N, p1, _, _, p4⟩ := p
    exact ⟨_, _, p1, ⟨_, _, rfl⟩, p4⟩
theorem read_no (s : Nat) (t : List UInt8) (most : Nat) (hs : s < 3) (ht : t.length ≤ 1000) (hv : ∀ v, Lib.atoiAll (t.take (Plu.lead t)) ≠ .ok v) (w : World) (hE : Errs w) : Calls Tryz.prog 13 #[.int .i64 s, .string ⟨⟨t⟩⟩, .int .i64 most] w fun e w' => e = .returned (.tuple ⟨[.int .i64 0, .bool false]⟩) ∧ Below w.heap.size w w' := by
  have key : ∀ s : Nat, s < 3 → Sym [cutE 9 (Lt 0) (Lt 1) (Lt 2), binT .neq 37 37 (Qt 0) .nilIface (.bool true)] [(25, patP [([Lt 0], Lt 1)]), (15, patP [([Lt 2], .tuple ⟨[Qt 1, Qt 0]⟩)])] 40 13 [.int .i64 s, Lt 0, Lt 3] (.tuple ⟨[.int .i64 0, .bool false]⟩) := by
    intro s hs
    have e : s = 0 ∨ s = 1 ∨ s = 2 := by omega
    clear hs
    rcases e with rfl | rfl | rfl <;> (delta Sym; show _ = _; kernel_rfl)
  have hl := Plu.lead_le t
  let _ : Ltr := ltrQ [.string ⟨⟨t⟩⟩, .int .i64 (Plu.lead t), .string ⟨⟨t.take (Plu.lead t)⟩⟩, .int .i64 most] fun i u => (i = 0 ∧ ∃ tt p, u = .iface tt p) ∨ (i = 1 ∧ ∃ k, u = .int .i64 k)
  refine symJ 40 (ac (s_take rfl rfl rfl hl) (ac (e_nn fun u h => ?_) an))
    (ac (pe_oneL rfl rfl rfl fun w' _ => (lead_any ⟨⟨t⟩⟩ w' (by show t.length ≤ _; omega)).mono fun e w2 p => ⟨p.1, by rw [← p.2]; exact Below.refl _ _⟩) (ac (patP_ok (ac (fun E w' args' k ha => ?_) an)) an))
    (.cons (.same rfl) (.cons (.ltr rfl rfl) (.cons (.ltr rfl rfl) .nil))) rfl (key s hs)
  · rcases h with ⟨_, h⟩ | ⟨h, _⟩
    · exact h
    · cases h
  · cases ha with
    | cons r1 t1 =>
      cases t1
      rw [is_ltr (u := .string ⟨⟨t.take (Plu.lead t)⟩⟩) rfl E _ r1]
      refine (atoi_err (t.take (Plu.lead t)) (by simp; omega) hv w' (hE.keep k)).mono fun e w2 p => ?_
      obtain ⟨n, u, rfl, ⟨tt, q, rfl⟩, b⟩ := p
      exact ⟨_, rfl, .tuple (.cons (.prd (.inr ⟨rfl, n, rfl⟩) rfl) (.cons (.prd (.inl ⟨rfl, tt, q, rfl⟩) rfl) .nil)), b⟩
/-- the number that a text begins with; 0 if there is none -/
def numv (t : List UInt8) : Nat := match Lib.atoiAll (t.take (Plu.lead t)) with
  | .ok v => v.toNat
  | _ => 0
/-- does Read find a number? -/
def rdok (s most : Nat) (t : List UInt8) : Bool := (match Lib.atoiAll (t.take (Plu.lead t)) with
  | .ok _ => true
  | _ => false) && decide (1 ≤ numv t) && decide (numv t ≤ most) && decide (Plu.ord s (numv t) = t)
theorem read_any (s : Nat) (t : List UInt8) (most : Nat) (hs : s < 3) (ht : t.length ≤ 1000) (hm : most ≤ 9223372036854775807) (w : World) (hP : Pow w) (hE : Errs w) : Calls Tryz.prog 13 #[.int .i64 s, .string ⟨⟨t⟩⟩, .int .i64 most] w fun e w' => e = .returned (bif rdok s most t then .tuple ⟨[.int .i64 (numv t), .bool true]⟩ else .tuple ⟨[.int .i64 0, .bool false]⟩) ∧ Below w.heap.size w w' := by
  by_cases h : ∃ v, Lib.atoiAll (t.take (Plu.lead t)) = .ok v
  · obtain ⟨v, hv⟩ := h
    obtain ⟨n, rfl⟩ := Plu.atoi_nat (Plu.lead_isd t) hv
    have hn : numv t = n := by unfold numv; rw [hv]; simp
    refine (read_ok s t n most hs ht hv hm w hP).mono fun e w' p => ⟨p.1.trans ?_, p.2⟩
    unfold rdv rdok
    rw [hn, hv]
    by_cases h1 : n < 1
    · have : ¬ 1 ≤ n := by omega
      simp [h1, this]
    · have h1' : 1 ≤ n := by omega
      by_cases h2 : most < n
      · have : ¬ n ≤ most := by omega
        simp [h1, h2, this]
      · have h2' : n ≤ most := by omega
        by_cases h3 : Plu.ord s n = t <;> simp [h1, h1', h2, h2', h3]
  · have hv : ∀ v, Lib.atoiAll (t.take (Plu.lead t)) ≠ .ok v := fun v e => h ⟨v, e⟩
    refine (read_no s t most hs ht hv w hE).mono fun e w' p => ⟨p.1.trans ?_, p.2⟩
    have : rdok s most t = false := by
      unfold rdok
      cases ha : Lib.atoiAll (t.take (Plu.lead t)) with
      | ok v => exact absurd ha (hv v)
      | _ => rfl
    rw [this]
    rfl
end Go.Proofs.YtcplkbflpopoaaaGreatDoor
