/-
  The law PluralReads: every call of it returns true, from a world that holds the tables and the errors.
-/
import Derived.Test.YtcplkbflpopoaaaGreatDoorKr1
import Derived.Test.YtcplkbflpopoaaaGreatDoorKr2
import Derived.Test.YtcplkbflpopoaaaGreatDoorKr3
import Derived.Test.YtcplkbflpopoaaaGreatDoorBs8
namespace Go.Proofs.YtcplkbflpopoaaaGreatDoor
open Go Go.RowKit
theorem pluralReads_walk (t : List UInt8) (y q : Nat) (_hy : y ≤ 255) (hq : q ≤ 65535) (w : World) (hT : Tab7 w) (hE : Errs w) : Calls Tryz.prog 5 #[.string ⟨⟨t⟩⟩, .int .u8 y, .int .u16 q] w fun e w' => e = .returned (.bool true) ∧ Below w.heap.size w w' := by
  have keyA : ∀ m : Nat, m = 0 ∨ (10 ≤ m ∧ m ≤ 20) → ∀ e : Nat, e < 3 → Sym (baseO ++ (rnds m ++ lst m e)) (basel false) 100 5 [Lt 0, Lt 1, Lt 2] (.bool true) := by
    intro m hm e he
    have h : m = 0 ∨ m = 10 ∨ m = 11 ∨ m = 12 ∨ m = 13 ∨ m = 14 ∨ m = 15 ∨ m = 16 ∨ m = 17 ∨ m = 18 ∨ m = 19 ∨ m = 20 := by omega
    clear hm
    rcases h with rfl | rfl | rfl | rfl | rfl | rfl | rfl | rfl | rfl | rfl | rfl | rfl
    · exact key_0 e he
    · exact key_10 e he
    · exact key_11 e he
    · exact key_12 e he
    · exact key_13 e he
    · exact key_14 e he
    · exact key_15 e he
    · exact key_16 e he
    · exact key_17 e he
    · exact key_18 e he
    · exact key_19 e he
    · exact key_20 e he
  have keyB : ∀ m : Nat, 1 ≤ m → m ≤ 9 → ∀ a b c : Bool, (a || b || c) = true → ∀ e : Nat, e < 3 → Sym (baseO ++ (rnds m ++ lst m e) ++ tailO m a b c) (basel false ++ [(15, patP [([Lt 4], .tuple ⟨[Lt 5, .nilIface]⟩)])]) 100 5 [Lt 0, Lt 1, Lt 2] (.bool true) := by
    intro m h1 h9 a b c h e he
    have hm : m = 1 ∨ m = 2 ∨ m = 3 ∨ m = 4 ∨ m = 5 ∨ m = 6 ∨ m = 7 ∨ m = 8 ∨ m = 9 := by omega
    clear h1 h9
    rcases hm with rfl | rfl | rfl | rfl | rfl | rfl | rfl | rfl | rfl
    · exact key_1 a b c h e he
    · exact key_2 a b c h e he
    · exact key_3 a b c h e he
    · exact key_4 a b c h e he
    · exact key_5 a b c h e he
    · exact key_6 a b c h e he
    · exact key_7 a b c h e he
    · exact key_8 a b c h e he
    · exact key_9 a b c h e he
  have hk : y % 3 < 3 := Nat.mod_lt _ (by omega)
  have hv : numv t ≤ 9223372036854775807 := by
    unfold numv
    split
    · rename_i v h
      have := Lib.atoiAll_bounds h
      omega
    · omega
  let L : List Value := [.string ⟨⟨t⟩⟩, .int .u8 y, .int .u16 q, .int .i64 t.length, .string ⟨⟨t.take (Plu.lead t)⟩⟩, .int .i64 (numv t), .int .i64 q, .string ⟨⟨Plu.ord (y % 3) (numv t)⟩⟩, .int .u8 (y % 3 : Nat), .int .i64 (y % 3 : Nat)] ++ t.map fun c => .int .u8 (c.toNat : Nat)
  let _ : Ltr := ltrL L
  have aw : PEOk Tryz.prog (kep w) 64 (9, fixP (.bool true)) := fixP_ok rfl fun w' k => awk7 w' (hT.t.keep k)
  have args : RelL (startE 64) [Lt 0, Lt 1, Lt 2] [.string ⟨⟨t⟩⟩, .int .u8 y, .int .u16 q] := .cons (.ltr rfl rfl) (.cons (.ltr rfl rfl) (.cons (.ltr rfl rfl) .nil))
  by_cases hlen : 20 < t.length
  · exact symJ 60 (ac (l_str rfl rfl) (ac (binE_num (is_ltr rfl) (is_flat rfl) (x_gt (m := 20) (decide_eq_true hlen)) (to_flat rfl)) an)) (ac aw an) args rfl key_long
  have hbase : ∀ e ∈ baseO, OEOk Tryz.prog e := ac (l_str rfl rfl) (ac (binE_num (is_ltr rfl) (is_flat rfl) (x_gt (m := 20) (decide_eq_false hlen)) (to_flat rfl)) (ac (binE_num (is_ltr rfl) (is_flat rfl) (x_rem8 (m := 3) (by omega)) (to_ltr rfl rfl)) (ac (cv_st (by omega) rfl rfl) (ac (cv_u16 hq rfl rfl) an))))
  have hbl : ∀ e ∈ basel (rdok (y % 3) q t), PEOk Tryz.prog (kep w) 64 e := by
    refine ac aw (ac (patP_ok (ac (pat_LLL rfl rfl rfl (fun E => ?_) fun w' k => read_any (y % 3) t q hk (by omega) (by omega) w' (hT.p.keep k) (hE.keep k)) an)) (ac (patP_ok (ac (pat_LL rfl rfl (to_ltr rfl rfl) fun w' k => lord_any (y % 3) (numv t) hk hv w' (hT.p.keep k)) an)) an))
    cases rdok (y % 3) q t
    · exact fl3_rel rfl
    · exact .tuple (.cons (.ltr rfl rfl) (.cons (.same rfl) .nil))
  cases hok : rdok (y % 3) q t with
  | true =>
    rw [hok] at hbl
    unfold rdok at hok
    simp only [Bool.and_eq_true, decide_eq_true_eq] at hok
    obtain ⟨⟨⟨_, h1⟩, h2⟩, h3⟩ := hok
    refine symJ 60 (fun e he => ?_) hbl args rfl key_ok
    rcases List.mem_append.1 he with he | he
    · exact hbase e he
    · exact (ac (binE_num (is_ltr rfl) (is_flat rfl) (x_ge (m := 1) (decide_eq_true h1)) (to_flat rfl)) (ac (binE_num (is_ltr rfl) (is_ltr rfl) (x_le (decide_eq_true h2)) (to_flat rfl)) (ac (s_eq2 rfl rfl (decide_eq_true h3)) an))) e he
  | false =>
    rw [hok] at hbl
    have hl := Plu.lead_le t
    have chr : ∀ (i : Nat) (h : i < t.length), Ltr.v (10 + i) = some (.int .u8 (t[i].toNat : Nat)) := by
      intro i h
      show ([_, _, _, _, _, _, _, _, _, _] ++ t.map fun c => Value.int .u8 (c.toNat : Nat))[10 + i]? = _
      rw [List.getElem?_append_right (by simp)]
      simp [h]
    have hr : ∀ m, m ≤ Plu.lead t → ∀ e ∈ rnds m, OEOk Tryz.prog e := by
      intro m
      induction m with
      | zero => intro _ e he; cases he
      | succ m ih =>
        intro hm e he
        rcases List.mem_append.1 he with he | he
        · exact ih (by omega) e he
        · have hmt : m < t.length := by omega
          have hd := Plu.lead_at (l := t) (i := m) (by omega) hmt
          simp only [Plu.isd, Bool.and_eq_true, decide_eq_true_eq] at hd
          exact (ac (binE_num (is_flat rfl) (is_ltr rfl) (x_lt (decide_eq_true hmt)) (to_flat rfl)) (ac (i_str rfl hmt (chr m hmt)) (ac (binE_num (is_ltr (chr m hmt)) (is_flat rfl) (b_ge (m := 48) (decide_eq_true hd.1)) (to_flat rfl)) (ac (binE_num (is_ltr (chr m hmt)) (is_flat rfl) (b_le (m := 57) (decide_eq_true hd.2)) (to_flat rfl)) an)))) e he
    have hlst : ∃ e, e < 3 ∧ ∀ x ∈ lst (Plu.lead t) e, OEOk Tryz.prog x := by
      by_cases h0 : Plu.lead t < t.length
      · have hd := Plu.lead_end (l := t) h0
        by_cases h1 : 48 ≤ t[Plu.lead t].toNat
        · have h2 : ¬ t[Plu.lead t].toNat ≤ 57 := fun h2 => by simp [Plu.isd, h1, h2] at hd
          exact ⟨2, by omega, ac (binE_num (is_flat rfl) (is_ltr rfl) (x_lt (decide_eq_true h0)) (to_flat rfl)) (ac (i_str rfl h0 (chr _ h0)) (ac (binE_num (is_ltr (chr _ h0)) (is_flat rfl) (b_ge (m := 48) (decide_eq_true h1)) (to_flat rfl)) (ac (binE_num (is_ltr (chr _ h0)) (is_flat rfl) (b_le (m := 57) (decide_eq_false h2)) (to_flat rfl)) an)))⟩
        · exact ⟨1, by omega, ac (binE_num (is_flat rfl) (is_ltr rfl) (x_lt (decide_eq_true h0)) (to_flat rfl)) (ac (i_str rfl h0 (chr _ h0)) (ac (binE_num (is_ltr (chr _ h0)) (is_flat rfl) (b_ge (m := 48) (decide_eq_false h1)) (to_flat rfl)) an))⟩
      · exact ⟨0, by omega, ac (binE_num (is_flat rfl) (is_ltr rfl) (x_lt (decide_eq_false h0)) (to_flat rfl)) an⟩
    obtain ⟨e, he, hle⟩ := hlst
    have hO : ∀ x ∈ baseO ++ (rnds (Plu.lead t) ++ lst (Plu.lead t) e), OEOk Tryz.prog x := by
      intro x hx
      rcases List.mem_append.1 hx with hx | hx
      · exact hbase x hx
      · rcases List.mem_append.1 hx with hx | hx
        · exact hr _ (Nat.le_refl _) x hx
        · exact hle x hx
    by_cases hm : Plu.lead t = 0 ∨ 10 ≤ Plu.lead t
    · exact symJ 100 hO hbl args rfl (keyA (Plu.lead t) (by omega) e he)
    · obtain ⟨v, hat⟩ := Plu.atoi_digs (s := t.take (Plu.lead t)) (fun e0 => by have := Plu.take_len t; rw [e0] at this; simp at this; omega) (by rw [Plu.take_len]; omega) (Plu.lead_isd t)
      have hnv : numv t = v := by unfold numv; rw [hat]; simp
      have habc : (decide (numv t < 1) || decide (q < numv t) || decide (Plu.ord (y % 3) (numv t) ≠ t)) = true := by
        unfold rdok at hok
        rw [hat] at hok
        by_cases h1 : numv t < 1
        · simp [h1]
        · by_cases h2 : q < numv t
          · simp [h2]
          · by_cases h3 : Plu.ord (y % 3) (numv t) = t
            · have h1' : 1 ≤ numv t := by omega
              have h2' : numv t ≤ q := by omega
              simp [h1', h2', h3] at hok
            · simp [h3]
      refine symJ 100 (fun x hx => ?_) (fun x hx => ?_) args rfl (keyB (Plu.lead t) (by omega) (by omega) (decide (numv t < 1)) (decide (q < numv t)) (decide (Plu.ord (y % 3) (numv t) ≠ t)) habc e he)
      · rcases List.mem_append.1 hx with hx | hx
        · exact hO x hx
        · exact (ac (s_takeN rfl rfl hl) (ac (binE_num (is_ltr rfl) (is_flat rfl) (x_lt (m := 1) rfl) (to_flat rfl)) (ac (binE_num (is_ltr rfl) (is_ltr rfl) (x_gt rfl) (to_flat rfl)) (ac (s_ne rfl rfl rfl) an)))) x hx
      · rcases List.mem_append.1 hx with hx | hx
        · exact hbl x hx
        · obtain rfl := List.mem_singleton.1 hx
          refine patP_ok (ac (fun E w' args' k ha => ?_) an)
          cases ha with
          | cons r1 t1 =>
            cases t1
            rw [is_ltr (u := .string ⟨⟨t.take (Plu.lead t)⟩⟩) rfl E _ r1]
            refine (Tryz.strconv_Atoi_ok ⟨⟨t.take (Plu.lead t)⟩⟩ (by show (t.take _).length ≤ _; simp; omega) v hat w').mono fun e w2 p => ⟨_, p.1, .tuple (.cons (.ltr (by rw [← hnv]; rfl) rfl) (.cons (.same rfl) .nil)), ?_⟩
            rcases p.2 with rfl | ⟨t, rfl⟩
            · exact Below.refl _ _
            · exact Go.Joins.below_bytesWorld _ _ _ _ (Nat.le_refl _)
end Go.Proofs.YtcplkbflpopoaaaGreatDoor
