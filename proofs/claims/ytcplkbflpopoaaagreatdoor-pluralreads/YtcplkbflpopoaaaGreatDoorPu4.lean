/-
  Contract of plural's digits: how many digits a text begins with.
-/
import Derived.Test.YtcplkbflpopoaaaGreatDoorPu3
import Derived.Test.YtcplkbflpopoaaaGreatDoorPl3
import Derived.WalkLawsBesides
import Derived.Lib.SmallJoins
import Derived.Lib.Hide
namespace Go.Proofs.YtcplkbflpopoaaaGreatDoor
open Go.RowKit
set_option maxHeartbeats 1000000 in
theorem lead_any (s : ByteArray) (w : World) (hs : s.size ≤ 1000000) : Calls Tryz.prog 25 #[.string s] w fun e w' => e = .returned (.int .i64 (Plu.lead s.data.toList)) ∧ w = w' := by
  have hl : Plu.lead s.data.toList ≤ s.size := Plu.lead_le _
  have HA := Lib.hid (fun (k : Nat) (h : k < Plu.lead s.data.toList) (h' : k < s.size) => (show 48 ≤ s[k].toNat ∧ s[k].toNat ≤ 57 by
    have : Plu.isd s[k] = true := Plu.lead_at h h'
    simp only [Plu.isd, Bool.and_eq_true, decide_eq_true_eq] at this
    exact this))
  have HE := Lib.hid (fun (h : Plu.lead s.data.toList < s.size) => (show ¬ (48 ≤ s[Plu.lead s.data.toList].toNat ∧ s[Plu.lead s.data.toList].toNat ≤ 57) by
    have := Plu.lead_end (l := s.data.toList) h
    intro hh
    have e : Plu.isd s[Plu.lead s.data.toList] = true := by simp [Plu.isd, hh.1, hh.2]
    rw [show s[Plu.lead s.data.toList] = s.data.toList[Plu.lead s.data.toList]'h from rfl, this] at e
    cases e))
  generalize Plu.lead s.data.toList = m at *
  go_enter Tryz.func25, Tryz.ntmps25
  go_wp2
  go_loop [3] (fun i => ∃ k : Nat, k ≤ m ∧ i = .int .i64 k) (fun i => m - (intOf i).toNat)
  case atStart => exact ⟨0, Nat.zero_le _, rfl⟩
  case round =>
    obtain ⟨k, hk, rfl⟩ := hrel
    by_cases hlt : k < m
    · have hks : k < s.size := by omega
      obtain ⟨c1, c2⟩ := HA.out k hlt hks
      go_wp2
      go_round
      case rel => exact ⟨k + 1, by omega, by go_num⟩
      case measure => simp [intOf]; omega
    · obtain rfl : k = m := by omega
      by_cases hks : k < s.size
      · have hn := HE.out hks
        by_cases c1 : 48 ≤ s[k].toNat
        · have c2 : 57 < s[k].toNat := by omega
          clear hn
          go_wp2
          go_ret
          exact ⟨rfl, rfl⟩
        · clear hn
          go_wp2
          go_ret
          exact ⟨rfl, rfl⟩
      · go_wp2
        go_ret
        exact ⟨rfl, rfl⟩
open Go
/-- a text's beginning, as long as a letter says -/
theorem s_take [Ltr] {i j k d : Nat} {t : List UInt8} (hi : Ltr.v i = some (.string ⟨⟨t⟩⟩)) (hk : Ltr.v k = some (.int .i64 d)) (hj : Ltr.v j = some (.string ⟨⟨t.take d⟩⟩)) (h : d ≤ t.length) : OEOk Tryz.prog (cutE 9 (Lt i) (Lt k) (Lt j)) :=
  cutE_ok fun o ρ a b E w ho ha hb => by
    have e1 := is_ltr hi E _ ha
    have e2 := is_ltr hk E _ hb
    refine ⟨.string ⟨⟨t.take d⟩⟩, ?_, .ltr hj rfl⟩
    have e : (⟨⟨t⟩⟩ : ByteArray).extract 0 d = ⟨⟨t.take d⟩⟩ := by
      have h := Lib.extract_from_zero ⟨⟨t⟩⟩ d
      apply ByteArray.ext
      apply Array.ext'
      rw [h]
    have hz : d ≤ (⟨⟨t⟩⟩ : ByteArray).size := h
    rw [← e]
    simp only [execOp, ho, e1]
    go_simp
theorem s_ne [Ltr] {i j : Nat} {s t : List UInt8} {b : Bool} (hi : Ltr.v i = some (.string ⟨⟨s⟩⟩)) (hj : Ltr.v j = some (.string ⟨⟨t⟩⟩)) (h : decide (s ≠ t) = b) : OEOk Tryz.prog (binT .neq 9 9 (Lt i) (Lt j) (.bool b)) :=
  binT_ok fun o ρ x y E w ho hx hy => by
    have e1 := is_ltr hi E _ hx
    have e2 := is_ltr hj E _ hy
    refine ⟨.bool b, ?_, .same rfl⟩
    subst h
    simp only [execOp, ho, e1, e2]
    go_simp
    rw [Bool.eq_iff_iff]
    simp
/-- what Read answers where the digits are a number -/
def rdv (s v most : Nat) (t : List UInt8) : Value := bif decide (v < 1) || decide (most < v) || decide (Plu.ord s v ≠ t) then .tuple ⟨[.int .i64 0, .bool false]⟩ else .tuple ⟨[.int .i64 v, .bool true]⟩
theorem read_ok (s : Nat) (t : List UInt8) (v most : Nat) (hs : s < 3) (ht : t.length ≤ 1000) (hv : Lib.atoiAll (t.take (Plu.lead t)) = .ok (v : Int)) (_hm : most ≤ 9223372036854775807) (w : World) (hP : Pow w) : Calls Tryz.prog 13 #[.int .i64 s, .string ⟨⟨t⟩⟩, .int .i64 most] w fun e w' => e = .returned (rdv s v most t) ∧ Below w.heap.size w w' := by
  have key : ∀ s : Nat, s < 3 → ∀ a b c : Bool, Sym [cutE 9 (Lt 0) (Lt 1) (Lt 2), binE .lss (Lt 3) (.int .i64 1) (.bool a), binE .gtr (Lt 3) (Lt 4) (.bool b), binT .neq 9 9 (Lt 5) (Lt 0) (.bool c)]
      [(25, patP [([Lt 0], Lt 1)]), (15, patP [([Lt 2], .tuple ⟨[Lt 3, .nilIface]⟩)]), (12, patP [([.int .i64 s, Lt 3], Lt 5)])] 40 13 [.int .i64 s, Lt 0, Lt 4]
      (bif a || b || c then .tuple ⟨[.int .i64 0, .bool false]⟩ else .tuple ⟨[Lt 3, .bool true]⟩) := by
    intro s hs a b c
    have e : s = 0 ∨ s = 1 ∨ s = 2 := by omega
    clear hs
    rcases e with rfl | rfl | rfl <;> cases a <;> cases b <;> cases c <;> (delta Sym; show _ = _; kernel_rfl)
  have hvm := Lib.atoiAll_bounds hv
  have hl := Plu.lead_le t
  let L : List Value := [.string ⟨⟨t⟩⟩, .int .i64 (Plu.lead t), .string ⟨⟨t.take (Plu.lead t)⟩⟩, .int .i64 v, .int .i64 most, .string ⟨⟨Plu.ord s v⟩⟩]
  let _ : Ltr := ltrL L
  refine (symI (n := 40) (ac (s_take rfl rfl rfl hl) (ac (binE_num (is_ltr rfl) (is_flat rfl) (x_lt (m := 1) rfl) (to_flat rfl)) (ac (binE_num (is_ltr rfl) (is_ltr rfl) (x_gt rfl) (to_flat rfl)) (ac (s_ne rfl rfl rfl) an))))
    (ac (pe_oneL rfl rfl rfl fun w' _ => (lead_any ⟨⟨t⟩⟩ w' (by show t.length ≤ _; omega)).mono fun e w2 p => ⟨p.1, by rw [← p.2]; exact Below.refl _ _⟩)
      (ac (patP_ok (ac (fun E w' args' k ha => ?_) an)) (ac (patP_ok (ac (pat_two rfl rfl rfl fun w' k => ord_any s v hs (by omega) w' (hP.keep k)) an)) an)))
    (.cons (.same rfl) (.cons (.ltr rfl rfl) (.cons (.ltr rfl rfl) .nil))) (key s hs _ _ _)).mono fun e w' p => ?_
  · cases ha with
    | cons r1 t1 =>
      cases t1
      rw [is_ltr (u := .string ⟨⟨t.take (Plu.lead t)⟩⟩) rfl E _ r1]
      refine (Tryz.strconv_Atoi_ok ⟨⟨t.take (Plu.lead t)⟩⟩ (by show (t.take _).length ≤ _; simp; omega) v hv w').mono fun e w2 p => ⟨_, p.1, .tuple (.cons (.ltr rfl rfl) (.cons (.same rfl) .nil)), ?_⟩
      rcases p.2 with rfl | ⟨t, rfl⟩
      · exact Below.refl _ _
      · exact Go.Joins.below_bytesWorld _ _ _ _ (Nat.le_refl _)
  · obtain ⟨v', F, rfl, r, b⟩ := p
    refine ⟨?_, b⟩
    unfold rdv
    generalize (decide (v < 1) || decide (most < v) || decide (Plu.ord s v ≠ t)) = q at r ⊢
    cases q with
    | true => rw [fl3_eq rfl r]; rfl
    | false =>
      have r' : Rel F (.tuple ⟨[Lt 3, .bool true]⟩) v' := r
      cases r' with
      | same hf => cases hf
      | tuple h =>
        cases h with
        | cons h1 t1 =>
          cases t1 with
          | cons h2 t2 =>
            cases t2
            rw [is_ltr (u := .int .i64 v) rfl F _ h1, h2.bool]
            rfl
end Go.Proofs.YtcplkbflpopoaaaGreatDoor
