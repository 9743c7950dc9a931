/-
  The law's Check answers what chapter 2 says.
-/
import Derived.Test.YtjdjekpbjnkliaaGreatDoorCk10
import Derived.Test.YtjdjekpbjnkliaaGreatDoorCk6
import Derived.Test.YtjdjekpbjnkliaaGreatDoorCk7
import Derived.Test.YtjdjekpbjnkliaaGreatDoorCk8
import Derived.Test.YtjdjekpbjnkliaaGreatDoorCk9
namespace Go.Proofs.YtjdjekpbjnkliaaGreatDoor
open Go Go.RowKit
namespace Ck
theorem ap {L : Ltr} {X : Kep} {O O' : List OE} (h1 : ∀ e ∈ O, @OEOkX L Tryz.prog X e) (h2 : ∀ e ∈ O', @OEOkX L Tryz.prog X e) : ∀ e ∈ O ++ O', @OEOkX L Tryz.prog X e := fun e he => (List.mem_append.1 he).elim (h1 e) (h2 e)
theorem mostW_eq {f : Nat} (hf : f < 4) : Rul.most f = mostW f := by
  have : f = 0 ∨ f = 1 ∨ f = 2 ∨ f = 3 := by omega
  rcases this with rfl | rfl | rfl | rfl <;> rfl
section
variable {w : World} {f : Nat} {iv c u : Int} {AM AD AW AP : Option Addr} {cM cD cW cP : Nat} {M D : List Int} {W : List (Int × Int)} {P : List Int}
theorem way_of {L : Ltr} {X : Kep} (hf : f < 4) {x z : Int} (h16 : L.v 16 = some (.int .i64 x)) (h19 : L.v 19 = some (.int .i64 z)) : ∃ j, j < 5 ∧ (∀ e ∈ way j, @OEOkX L Tryz.prog X e) ∧ (∀ e ∈ wayP f j, @PEOk L Tryz.prog X 64 e) ∧ bad j = !(Rul.inW f (x, z)) := by
  have a : ∀ t, decide (z < 0) = t → @OEOkX L Tryz.prog X (binE .lss (Lt 19) (.int .i64 0) (.bool t)) := fun t h => (@li L _ 19 _ _ _ _ h19 rfl (xi_lt h) (@to_flat L _ rfl)).x
  have b : ∀ t, decide (z > 6) = t → @OEOkX L Tryz.prog X (binE .gtr (Lt 19) (.int .i64 6) (.bool t)) := fun t h => (@li L _ 19 _ _ _ _ h19 rfl (xi_gt h) (@to_flat L _ rfl)).x
  have n : ∀ t, decide (x ≠ 0) = t → @OEOkX L Tryz.prog X (binE .neq (Lt 16) (.int .i64 0) (.bool t)) := fun t h => (@li L _ 16 _ _ _ _ h16 rfl (xi_ne h) (@to_flat L _ rfl)).x
  have hm := mostW_eq hf
  have hb := Rul.most_bd f
  have p : ∀ t, out x (mostW f) = t → ∀ e ∈ pe (mostW f) t, @PEOk L Tryz.prog X 64 e := fun t h =>
    ac (@pg1 L _ _ _ _ _ _ _ (@rl_l L 16 _ _ _ h16 (@rl_f L _ _ _ rfl (@rl_nil L))) (@to_flat L _ rfl) fun w2 _ => same_w (by rw [← h]; exact outside_any _ _ w2 (by omega) (by omega))) an
  by_cases h1 : z < 0
  · exact ⟨0, by omega, ac (a _ (decide_eq_true h1)) an, an, by simp [bad, Rul.inW, Rul.btw]; omega⟩
  · have A := a _ (decide_eq_false h1)
    by_cases h2 : z > 6
    · exact ⟨1, by omega, ac A (ac (b _ (decide_eq_true h2)) an), an, by simp [bad, Rul.inW, Rul.btw]; omega⟩
    · have B := b _ (decide_eq_false h2)
      by_cases h3 : x = 0
      · exact ⟨2, by omega, ac A (ac B (ac (n _ (decide_eq_false (by simpa using h3))) an)), an, by simp [bad, Rul.inW, Rul.btw]; omega⟩
      · have N := n _ (decide_eq_true h3)
        cases h4 : out x (mostW f) with
        | false =>
          refine ⟨3, by omega, ac A (ac B (ac N an)), p _ h4, ?_⟩
          have h5 := of_decide_eq_false h4
          simp [bad, Rul.inW, Rul.btw, hm]
          omega
        | true =>
          refine ⟨4, by omega, ac A (ac B (ac N an)), p _ h4, ?_⟩
          have h5 := of_decide_eq_true h4
          simp [bad, Rul.inW, Rul.btw, hm]
          omega
theorem ah_of {L : Ltr} {X : Kep} {x z y y2 : Int} (h16 : L.v 16 = some (.int .i64 x)) (h19 : L.v 19 = some (.int .i64 z)) (h21 : L.v 21 = some (.int .i64 y)) (h23 : L.v 23 = some (.int .i64 y2)) : ∃ j, j < 4 ∧ (∀ e ∈ ah j, @OEOkX L Tryz.prog X e) ∧ late j = decide (0 ≤ Rul.cmpN (y, y2) (x, z)) := by
  have a : ∀ t, decide (y > x) = t → @OEOkX L Tryz.prog X (binE .gtr (Lt 21) (Lt 16) (.bool t)) := fun t h => (@ll L _ 21 16 _ _ _ _ h21 h16 (xi_gt h) (@to_flat L _ rfl)).x
  have b : ∀ t, decide (y = x) = t → @OEOkX L Tryz.prog X (binE .eql (Lt 21) (Lt 16) (.bool t)) := fun t h => (@ll L _ 21 16 _ _ _ _ h21 h16 (xi_eq h) (@to_flat L _ rfl)).x
  have d : ∀ t, decide (y2 ≥ z) = t → @OEOkX L Tryz.prog X (binE .geq (Lt 23) (Lt 19) (.bool t)) := fun t h => (@ll L _ 23 19 _ _ _ _ h23 h19 (xi_ge h) (@to_flat L _ rfl)).x
  have hc := @Rul.cmpN_neg (y, y2) (x, z)
  dsimp only at hc
  by_cases h1 : y > x
  · exact ⟨0, by omega, ac (a _ (decide_eq_true h1)) an, (decide_eq_true (by omega)).symm⟩
  · have A := a _ (decide_eq_false h1)
    by_cases h2 : y = x
    · have B := b _ (decide_eq_true h2)
      by_cases h3 : y2 ≥ z
      · exact ⟨3, by omega, ac A (ac B (ac (d _ (decide_eq_true h3)) an)), (decide_eq_true (by omega)).symm⟩
      · exact ⟨2, by omega, ac A (ac B (ac (d _ (decide_eq_false h3)) an)), (decide_eq_false (by omega)).symm⟩
    · exact ⟨1, by omega, ac A (ac (b _ (decide_eq_false h2)) an), (decide_eq_false (by omega)).symm⟩
theorem later {f j i : Nat} (hf : f < 4) (hj : j < 5) (hi : i < 4) : wR f (w1 true ++ w2 ++ way j ++ ah i) (wayP f j) (bad j) (late i) = true := by
  have : f = 0 ∨ f = 1 ∨ f = 2 ∨ f = 3 := by omega
  rcases this with rfl | rfl | rfl | rfl
  · exact List.all_eq_true.1 (List.all_eq_true.1 (List.all_eq_true.1 runw_0 0 (by simp)) j (List.mem_range.2 hj)) i (List.mem_range.2 hi)
  · exact List.all_eq_true.1 (List.all_eq_true.1 (List.all_eq_true.1 runw_0 1 (by simp)) j (List.mem_range.2 hj)) i (List.mem_range.2 hi)
  · exact List.all_eq_true.1 (List.all_eq_true.1 (List.all_eq_true.1 runw_2 2 (by simp)) j (List.mem_range.2 hj)) i (List.mem_range.2 hi)
  · exact List.all_eq_true.1 (List.all_eq_true.1 (List.all_eq_true.1 runw_2 3 (by simp)) j (List.mem_range.2 hj)) i (List.mem_range.2 hi)
set_option maxRecDepth 4000 in
theorem day_ce (hf : f < 4) (hl : W.length ≤ maxLen) (hI : NthsIn w AW W) {x0 z0 y0 y20 : Int} {A0 : Option Addr} {st0 : Nat} :
    @CEOk (lt f iv c u AM AD AW AP cM cD cW cP M D W P A0 st0 0 x0 z0 y0 y20) Tryz.prog 64 (kep w) 64 (ceW f (res (Rul.step (Rul.inW f) Rul.cmpN W 0))) := by
  unfold maxLen at hl
  refine @ce_of Tryz.prog 64 (kep w) 64 (lt f iv c u AM AD AW AP cM cD cW cP M D W P A0 st0 0 x0 z0 y0 y20) Nat (fun i => lt f iv c u AM AD AW AP cM cD cW cP M D W P AW 2 i (W.getD i (0, 0)).1 (W.getD i (0, 0)).2 (W.getD (i - 1) (0, 0)).1 (W.getD (i - 1) (0, 0)).2) (fun _ => head (.int .i64 f) 2) (fun i => W.length - i) (fun i => i ≤ W.length ∧ Rul.step (Rul.inW f) Rul.cmpN W 0 = Rul.step (Rul.inW f) Rul.cmpN W i) (ceW f (res (Rul.step (Rul.inW f) Rul.cmpN W 0))) lp rfl ?_ 0 ⟨Nat.zero_le _, rfl⟩ rfl (traL_ok (ac (fl_go rfl rfl rfl) (ids_ok ?_)) an an) an
  · rintro i ⟨hi, hst⟩ ro kk E a w' h
    let L : Ltr := lt f iv c u AM AD AW AP cM cD cW cP M D W P AW 2 i (W.getD i (0, 0)).1 (W.getD i (0, 0)).2 (W.getD (i - 1) (0, 0)).1 (W.getD (i - 1) (0, 0)).2
    by_cases hlt : i < W.length
    · obtain ⟨hA, hc0, hc1⟩ := nths_at hI hlt
      have hsl : L.v 6 = some (.slice (some (AW.getD ⟨0, 0, none⟩)) W.length cW) := by rw [← hA]; rfl
      have hx : ∀ pp, decide (0 < i) = pp → ∀ e ∈ w1 pp, @OEOkX L Tryz.prog (kep w) e := by
        intro pp hpp
        exact ac (@ll L _ 12 10 _ _ _ _ rfl rfl (xi_lt (decide_eq_true (by omega))) (@to_flat L _ rfl)).x (ac (@a_elN L 6 15 12 _ _ _ _ hsl rfl rfl hlt).x (ac (@ld_nth L (kep w) 15 16 19 _ _ _ rfl rfl rfl fun w2 q => ⟨cell_keep hc0 q, cell_keep hc1 q⟩)
          (ac (@li L _ 12 _ _ _ _ rfl rfl (xi_gt (by rw [← hpp]; simp)) (@to_flat L _ rfl)).x (ac (@li L _ 12 _ _ _ _ rfl rfl (xi_add (c := ((i + 1 : Nat) : Int)) (by omega) (by omega)) (@to_ltr L 13 _ rfl rfl)).x an))))
      have hy : 0 < i → ∀ e ∈ w2, @OEOkX L Tryz.prog (kep w) e := by
        intro h0
        obtain ⟨-, hd0, hd1⟩ := nths_at hI (i := i - 1) (by omega)
        exact ac (@li L _ 12 _ _ _ _ rfl rfl (xi_sub (c := ((i - 1 : Nat) : Int)) (by omega) (by omega)) (@to_ltr L 14 _ rfl rfl)).x (ac (@a_elN L 6 17 14 _ _ _ _ hsl rfl rfl (by omega)).x (ac (@fa_nth0 L 17 20 _ rfl rfl).x (ac (@ld_ok L (kep w) _ 20 _ _ _ (by kernel_rfl) rfl (@to_ltr L 21 _ rfl rfl) fun w2 q => cell_keep hd0 q)
          (ac (@fa_nth1 L 17 22 _ rfl rfl).x (ac (@ld_ok L (kep w) _ 22 _ _ _ (by kernel_rfl) rfl (@to_ltr L 23 _ rfl rfl) fun w2 q => cell_keep hd1 q) an)))))
      have hgd : W.getD i (0, 0) = W[i] := by simp [hlt]
      obtain ⟨j, hj, hwO, hwP, hbad⟩ := @way_of f L (kep w) hf _ _ (show L.v 16 = some (.int .i64 (W.getD i (0, 0)).1) from rfl) (show L.v 19 = some (.int .i64 (W.getD i (0, 0)).2) from rfl)
      have hbad' : bad j = !(Rul.inW f W[i]) := by rw [hbad, ← hgd]
      have tr : ∀ q ∈ wnxt, ∀ (E E' : Ren) (x : Value), @Rel L E q.1 x → @Rel (lt f iv c u AM AD AW AP cM cD cW cP M D W P AW 2 (i + 1) (W.getD (i + 1) (0, 0)).1 (W.getD (i + 1) (0, 0)).2 (W.getD (i + 1 - 1) (0, 0)).1 (W.getD (i + 1 - 1) (0, 0)).2) E' q.2 x :=
        ac (lt_go rfl) (ids_ok (ac rfl (ac rfl (ac rfl (ac rfl (ac rfl (ac rfl (ac rfl (ac rfl (ac rfl (ac rfl (ac rfl an))))))))))))
      by_cases h0 : 0 < i
      · obtain ⟨q, hq, haO, hlate⟩ := @ah_of L (kep w) _ _ _ _ (show L.v 16 = some (.int .i64 (W.getD i (0, 0)).1) from rfl) (show L.v 19 = some (.int .i64 (W.getD i (0, 0)).2) from rfl) (show L.v 21 = some (.int .i64 (W.getD (i - 1) (0, 0)).1) from rfl) (show L.v 23 = some (.int .i64 (W.getD (i - 1) (0, 0)).2) from rfl)
        have hg1 : W.getD (i - 1) (0, 0) = W[i - 1]'(by omega) := by rw [List.getD_eq_getElem?_getD, List.getElem?_eq_getElem (by omega)]; rfl
        have hlate' : late q = decide (0 ≤ Rul.cmpN (W[i - 1]'(by omega)) W[i]) := by rw [hlate, ← hgd, ← hg1]
        have hO := ap (ap (ap (hx true (decide_eq_true h0)) (hy h0)) hwO) haO
        have e := later hf hj hq
        unfold wR at e
        cases hb : bad j with
        | true =>
          rw [hb] at e hbad'
          have hr : Rul.step (Rul.inW f) Rul.cmpN W i = 3 := Rul.step_range hlt (by simpa using hbad'.symm)
          rw [hst, hr]
          exact r_out (by intro h; cases h) (toldG L hO (ins1 L) an hwP (traL_ok an an an) an e h)
        | false =>
          rw [hb] at e hbad'
          have hin : Rul.inW f W[i] = true := by simpa using hbad'.symm
          cases hl2 : late q with
          | true =>
            rw [hl2] at e hlate'
            have hr : Rul.step (Rul.inW f) Rul.cmpN W i = 4 := Rul.step_order hlt hin h0 (of_decide_eq_true hlate'.symm)
            rw [hst, hr]
            exact r_out (by intro h; cases h) (toldG L hO (ins1 L) an hwP (traL_ok an an an) an e h)
          | false =>
            rw [hl2] at e hlate'
            have hr : Rul.step (Rul.inW f) Rul.cmpN W i = Rul.step (Rul.inW f) Rul.cmpN W (i + 1) := Rul.step_next hlt hin h0 (by have := of_decide_eq_false hlate'.symm; omega)
            exact r_on (i + 1) (toldG L hO (ins1 L) an hwP (traL_ok tr an an) an e h) ⟨hlt, hst.trans hr⟩ (by show W.length - (i + 1) < W.length - i; omega)
      · have hi0 : i = 0 := by omega
        have e := List.all_eq_true.1 (List.all_eq_true.1 runw_first f (List.mem_range.2 hf)) j (List.mem_range.2 hj)
        have hO := ap (hx false (decide_eq_false h0)) hwO
        unfold wR at e
        cases hb : bad j with
        | true =>
          rw [hb] at e hbad'
          have hr : Rul.step (Rul.inW f) Rul.cmpN W i = 3 := Rul.step_range hlt (by simpa using hbad'.symm)
          rw [hst, hr]
          exact r_out (by intro h; cases h) (toldG L hO (ins1 L) an hwP (traL_ok an an an) an e h)
        | false =>
          rw [hb] at e hbad'
          have hin : Rul.inW f W[i] = true := by simpa using hbad'.symm
          have hr : Rul.step (Rul.inW f) Rul.cmpN W i = Rul.step (Rul.inW f) Rul.cmpN W (i + 1) := by
            subst hi0
            exact Rul.step_first hlt hin
          exact r_on (i + 1) (toldG L hO (ins1 L) an hwP (traL_ok tr an an) an e h) ⟨hlt, hst.trans hr⟩ (by show W.length - (i + 1) < W.length - i; omega)
    · have hr : Rul.step (Rul.inW f) Rul.cmpN W i = 0 := Rul.step_end hlt
      rw [hst, hr]
      have e := List.all_eq_true.1 runw_end f (List.mem_range.2 hf)
      refine r_out (by intro h; cases h) (toldG L (ac (@ll L _ 12 10 _ _ _ _ rfl rfl (xi_lt (decide_eq_false (by omega))) (@to_flat L _ rfl)).x an) (ins1 L) an an (traL_ok (ids_ok ?_) an an) an e h)
      exact ac rfl (ac rfl (ac rfl (ac rfl (ac rfl (ac rfl (ac rfl (ac rfl (ac rfl (ac rfl (ac rfl an))))))))))
  · exact ac rfl (ac rfl (ac rfl (ac rfl (ac rfl (ac rfl (ac rfl (ac rfl (ac rfl (ac rfl (ac rfl an))))))))))
end
theorem top_eq {O : List OE} {C : List CE} {f : Value} {n : Nat} (h : top O C f n = true) : SymG O [] C [] 200 24 (args f) (.int .i64 n) := by
  unfold top at h
  delta SymG
  split at h
  · rename_i m K e
    rw [e]
    rw [← ibeq_eq] at h
    rw [eq_of_beq h]
    rfl
  · cases h
end Ck
namespace Ck
theorem f4 {p : Nat → Prop} {f : Nat} (hf : f < 4) (h0 : p 0) (h1 : p 1) (h2 : p 2) (h3 : p 3) : p f := by
  have : f = 0 ∨ f = 1 ∨ f = 2 ∨ f = 3 := by omega
  rcases this with rfl | rfl | rfl | rfl <;> assumption
theorem fail_of {f j k : Nat} (hf : f < 4) (hj : j < 3) (hk : k < 4) : (tL f j k && tE f j k 3 && tE f j k 4) = true :=
  f4 (p := fun f => (tL f j k && tE f j k 3 && tE f j k 4) = true) hf (List.all_eq_true.1 (List.all_eq_true.1 top_fail0 j (List.mem_range.2 hj)) k (List.mem_range.2 hk)) (List.all_eq_true.1 (List.all_eq_true.1 top_fail1 j (List.mem_range.2 hj)) k (List.mem_range.2 hk)) (List.all_eq_true.1 (List.all_eq_true.1 top_fail2 j (List.mem_range.2 hj)) k (List.mem_range.2 hk)) (List.all_eq_true.1 (List.all_eq_true.1 top_fail3 j (List.mem_range.2 hj)) k (List.mem_range.2 hk))
theorem odd_of {f j : Nat} (hf : f < 4) (hj : j < 3) (d p m w : Bool) : tO f j d p m w = true := by
  have go : ∀ f, ((List.range 3).all fun j => bools.all fun d => bools.all fun p => bools.all fun m => bools.all fun w => tO f j d p m w) = true → tO f j d p m w = true := fun f h =>
    List.all_eq_true.1 (List.all_eq_true.1 (List.all_eq_true.1 (List.all_eq_true.1 (List.all_eq_true.1 h j (List.mem_range.2 hj)) d (bools_mem _)) p (bools_mem _)) m (bools_mem _)) w (bools_mem _)
  exact f4 (p := fun f => tO f j d p m w = true) hf (go 0 top_odd0) (go 1 top_odd1) (go 2 top_odd2) (go 3 top_odd3)
theorem res_of {r : Int} (h : r = 0 ∨ r = 3 ∨ r = 4) (h0 : r ≠ 0) : ∃ e : Nat, (e = 3 ∨ e = 4) ∧ r = e ∧ res r = some e := by
  rcases h with rfl | rfl | rfl
  · exact absurd rfl h0
  · exact ⟨3, .inl rfl, rfl, rfl⟩
  · exact ⟨4, .inr rfl, rfl, rfl⟩
theorem inM_out (x : Int) : Rul.inM x = !(out x (most 0) || Nat.beq 0 0 && decide (x < 0)) := by
  have h : out x (most 0) = decide (x = 0 ∨ x < -12 ∨ 12 < x) := rfl
  rw [h, show Nat.beq 0 0 = true from rfl, Bool.true_and, Bool.eq_iff_iff]
  simp [Rul.inM, Rul.btw]
  omega
theorem inD_out (x : Int) : Rul.inD x = !(out x (most 1) || Nat.beq 1 0 && decide (x < 0)) := by
  have h : out x (most 1) = decide (x = 0 ∨ x < -31 ∨ 31 < x) := rfl
  rw [h, show Nat.beq 1 0 = false from rfl, Bool.false_and, Bool.or_false, Bool.eq_iff_iff]
  simp [Rul.inD, Rul.btw]
theorem inP_out (x : Int) : Rul.inP x = !(out x (most 3) || Nat.beq 3 0 && decide (x < 0)) := by
  have h : out x (most 3) = decide (x = 0 ∨ x < -366 ∨ 366 < x) := rfl
  rw [h, show Nat.beq 3 0 = false from rfl, Bool.false_and, Bool.or_false, Bool.eq_iff_iff]
  simp [Rul.inP, Rul.btw]
section
variable {w : World} {iv c u : Int} {AM AD AW AP : Option Addr} {cM cD cW cP : Nat} {M D : List Int} {W : List (Int × Int)} {P : List Int}
abbrev tp (f iv c u : Int) (AM AD AW AP : Option Addr) (cM cD cW cP : Nat) (M D : List Int) (W : List (Int × Int)) (P : List Int) : Ltr := lt f iv c u AM AD AW AP cM cD cW cP M D W P none 1 0 0 0 0 0
theorem tp_run (f iv c u : Int) {O : List OE} {C : List CE} {n : Nat} (hO : ∀ e ∈ O, @OEOkX (tp f iv c u AM AD AW AP cM cD cW cP M D W P) Tryz.prog (kep w) e) (hC : ∀ e ∈ C, @CEOk (tp f iv c u AM AD AW AP cM cD cW cP M D W P) Tryz.prog 64 (kep w) 64 e) (e : top O C (.int .i64 f) n = true) :
    Calls Tryz.prog 24 #[.agg #[.int .i64 f, .int .i64 iv, .int .i64 c, .int .i64 u, .slice AM M.length cM, .slice AD D.length cD, .slice AW W.length cW, .slice AP P.length cP]] w fun e w' => e = .returned (.int .i64 n) ∧ Below w.heap.size w w' :=
  by
    let L : Ltr := tp f iv c u AM AD AW AP cM cD cW cP M D W P
    exact symGF L 200 hO an hC an (.cons (.agg (.cons (.same rfl) (.cons (.ltr rfl rfl) (.cons (.ltr rfl rfl) (.cons (.ltr rfl rfl) (.cons (.ltr rfl rfl) (.cons (.ltr rfl rfl) (.cons (.ltr rfl rfl) (.cons (.ltr rfl rfl) .nil))))))))) .nil) rfl (top_eq e)
theorem lists_run (f : Nat) (hf : f < 4) (hL : ListsIn w AM AD AW AP M D W P) {j : Nat} (hj : j < 3) (hnum : ∀ e ∈ num 4 ++ unt (3 + j), @OEOkX (tp f iv c u AM AD AW AP cM cD cW cP M D W P) Tryz.prog (kep w) e) :
    Calls Tryz.prog 24 #[.agg #[.int .i64 f, .int .i64 iv, .int .i64 c, .int .i64 u, .slice AM M.length cM, .slice AD D.length cD, .slice AW W.length cW, .slice AP P.length cP]] w fun e w' => e = .returned (.int .i64 (Rul.tail f M D W P)) ∧ Below w.heap.size w w' := by
  let L : Ltr := tp f iv c u AM AD AW AP cM cD cW cP M D W P
  have lm := hL.lm; have ld := hL.ld; have lk := hL.lk; have lp := hL.lp
  have C0 := @num_ce w f iv c u AM AD AW AP cM cD cW cP M D W P hf 0 4 8 (.inl rfl) rfl rfl AM M cM Rul.inM lm hL.m inM_out (fun _ _ _ => rfl) (fun _ _ _ => rfl) 0 0 0 0 none 1
  have C1 := @num_ce w f iv c u AM AD AW AP cM cD cW cP M D W P hf 1 5 9 (.inr (.inl rfl)) rfl rfl AD D cD Rul.inD ld hL.d inD_out (fun _ _ _ => rfl) (fun _ _ _ => rfl) 0 0 0 0 none 1
  have C2 := @day_ce w f iv c u AM AD AW AP cM cD cW cP M D W P hf lk hL.k 0 0 0 0 none 1
  have C3 := @num_ce w f iv c u AM AD AW AP cM cD cW cP M D W P hf 3 7 11 (.inr (.inr rfl)) rfl rfl AP P cP Rul.inP lp hL.p inP_out (fun _ _ _ => rfl) (fun _ _ _ => rfl) 0 0 0 0 none 1
  have hlens : ∀ e ∈ lens, @OEOkX L Tryz.prog (kep w) e := ac (@l_slG L _ 4 8 _ _ _ (.inl rfl) rfl rfl).x (ac (@l_slG L _ 5 9 _ _ _ (.inl rfl) rfl rfl).x (ac (@l_slG L _ 6 10 _ _ _ (.inr rfl) rfl rfl).x (ac (@l_slG L _ 7 11 _ _ _ (.inl rfl) rfl rfl).x an)))
  have base := ap hnum hlens
  have gt : ∀ {i : Nat} {n : Nat} {b : Bool}, L.v i = some (.int .i64 n) → decide (64 < n) = b → @OEOkX L Tryz.prog (kep w) (binE .gtr (Lt i) (.int .i64 64) (.bool b)) := fun h hb => (@li L _ _ _ _ _ _ h rfl (xi_gt (by rw [← hb]; simp; omega)) (@to_flat L _ rfl)).x
  -- list 0
  have F0 := fail_of hf hj (show 0 < 4 by omega)
  simp only [Bool.and_eq_true] at F0
  by_cases g0 : 64 < M.length
  · rw [show Rul.tail f M D W P = (2 : Nat) by simp [Rul.tail, Rul.lists, Rul.chkL, g0]]
    exact tp_run f iv c u (ap (ap base an) (ac (gt rfl (decide_eq_true g0)) an)) an F0.1.1
  have G0 := gt (i := 8) (n := M.length) rfl (decide_eq_false g0)
  have c0 : Rul.chkL Rul.inM Rul.cmpI M = Rul.step Rul.inM Rul.cmpI M 0 := Rul.chkL_short (by omega)
  by_cases s0 : Rul.step Rul.inM Rul.cmpI M 0 = 0
  case neg =>
    obtain ⟨e, he, hr, hres⟩ := res_of (Rul.step_cases _ _ _ 0) s0
    rw [hres] at C0
    rw [show Rul.tail f M D W P = (e : Nat) by simp [Rul.tail, Rul.lists, c0, hr]; rcases he with rfl | rfl <;> simp]
    rcases he with rfl | rfl
    · exact tp_run f iv c u (ap base (ac G0 an)) (ac C0 an) F0.1.2
    · exact tp_run f iv c u (ap base (ac G0 an)) (ac C0 an) F0.2
  rw [s0] at C0 c0
  -- list 1
  have F1 := fail_of hf hj (show 1 < 4 by omega)
  simp only [Bool.and_eq_true] at F1
  by_cases g1 : 64 < D.length
  · rw [show Rul.tail f M D W P = (2 : Nat) by simp [Rul.tail, Rul.lists, c0]; simp [Rul.chkL, g1]]
    exact tp_run f iv c u (ap (ap base (ac G0 an)) (ac (gt rfl (decide_eq_true g1)) an)) (ac C0 an) F1.1.1
  have G1 := gt (i := 9) (n := D.length) rfl (decide_eq_false g1)
  have c1 : Rul.chkL Rul.inD Rul.cmpI D = Rul.step Rul.inD Rul.cmpI D 0 := Rul.chkL_short (by omega)
  by_cases s1 : Rul.step Rul.inD Rul.cmpI D 0 = 0
  case neg =>
    obtain ⟨e, he, hr, hres⟩ := res_of (Rul.step_cases _ _ _ 0) s1
    rw [hres] at C1
    rw [show Rul.tail f M D W P = (e : Nat) by simp [Rul.tail, Rul.lists, c0, c1, hr]; rcases he with rfl | rfl <;> simp]
    rcases he with rfl | rfl
    · exact tp_run f iv c u (ap base (ac G0 (ac G1 an))) (ac C0 (ac C1 an)) F1.1.2
    · exact tp_run f iv c u (ap base (ac G0 (ac G1 an))) (ac C0 (ac C1 an)) F1.2
  rw [s1] at C1 c1
  -- list 2
  have F2 := fail_of hf hj (show 2 < 4 by omega)
  simp only [Bool.and_eq_true] at F2
  by_cases g2 : 64 < W.length
  · rw [show Rul.tail f M D W P = (2 : Nat) by simp [Rul.tail, Rul.lists, c0, c1]; simp [Rul.chkL, g2]]
    exact tp_run f iv c u (ap (ap base (ac G0 (ac G1 an))) (ac (gt rfl (decide_eq_true g2)) an)) (ac C0 (ac C1 an)) F2.1.1
  have G2 := gt (i := 10) (n := W.length) rfl (decide_eq_false g2)
  have c2 : Rul.chkL (Rul.inW f) Rul.cmpN W = Rul.step (Rul.inW f) Rul.cmpN W 0 := Rul.chkL_short (by omega)
  by_cases s2 : Rul.step (Rul.inW f) Rul.cmpN W 0 = 0
  case neg =>
    obtain ⟨e, he, hr, hres⟩ := res_of (Rul.step_cases _ _ _ 0) s2
    rw [hres] at C2
    rw [show Rul.tail f M D W P = (e : Nat) by simp [Rul.tail, Rul.lists, c0, c1, c2, hr]; rcases he with rfl | rfl <;> simp]
    rcases he with rfl | rfl
    · exact tp_run f iv c u (ap base (ac G0 (ac G1 (ac G2 an)))) (ac C0 (ac C1 (ac C2 an))) F2.1.2
    · exact tp_run f iv c u (ap base (ac G0 (ac G1 (ac G2 an)))) (ac C0 (ac C1 (ac C2 an))) F2.2
  rw [s2] at C2 c2
  -- list 3
  have F3 := fail_of hf hj (show 3 < 4 by omega)
  simp only [Bool.and_eq_true] at F3
  by_cases g3 : 64 < P.length
  · rw [show Rul.tail f M D W P = (2 : Nat) by simp [Rul.tail, Rul.lists, c0, c1, c2]; simp [Rul.chkL, g3]]
    exact tp_run f iv c u (ap (ap base (ac G0 (ac G1 (ac G2 an)))) (ac (gt rfl (decide_eq_true g3)) an)) (ac C0 (ac C1 (ac C2 an))) F3.1.1
  have G3 := gt (i := 11) (n := P.length) rfl (decide_eq_false g3)
  have c3 : Rul.chkL Rul.inP Rul.cmpI P = Rul.step Rul.inP Rul.cmpI P 0 := Rul.chkL_short (by omega)
  by_cases s3 : Rul.step Rul.inP Rul.cmpI P 0 = 0
  case neg =>
    obtain ⟨e, he, hr, hres⟩ := res_of (Rul.step_cases _ _ _ 0) s3
    rw [hres] at C3
    rw [show Rul.tail f M D W P = (e : Nat) by simp [Rul.tail, Rul.lists, c0, c1, c2, c3, hr]; rcases he with rfl | rfl <;> simp]
    rcases he with rfl | rfl
    · exact tp_run f iv c u (ap base (ac G0 (ac G1 (ac G2 (ac G3 an))))) (ac C0 (ac C1 (ac C2 (ac C3 an)))) F3.1.2
    · exact tp_run f iv c u (ap base (ac G0 (ac G1 (ac G2 (ac G3 an))))) (ac C0 (ac C1 (ac C2 (ac C3 an)))) F3.2
  rw [s3] at C3 c3
  have e := odd_of hf hj (decide (0 < D.length)) (decide (0 < P.length)) (decide (M.length = 0)) (decide (W.length = 0))
  have hodd : ∀ e ∈ odds (decide (0 < D.length)) (decide (0 < P.length)) (decide (M.length = 0)) (decide (W.length = 0)), @OEOkX L Tryz.prog (kep w) e := by
    refine ac (@li L _ 9 _ _ _ _ rfl rfl (xi_gt ?_) (@to_flat L _ rfl)).x (ac (@li L _ 11 _ _ _ _ rfl rfl (xi_gt ?_) (@to_flat L _ rfl)).x (ac (@li L _ 8 _ _ _ _ rfl rfl (xi_eq ?_) (@to_flat L _ rfl)).x (ac (@li L _ 9 _ _ _ _ rfl rfl (xi_eq ?_) (@to_flat L _ rfl)).x (ac (@li L _ 10 _ _ _ _ rfl rfl (xi_eq ?_) (@to_flat L _ rfl)).x an))))
    all_goals (rw [Bool.eq_iff_iff]; simp <;> omega)
  have hv : Rul.tail f M D W P = ((bif Nat.beq f 1 && decide (0 < D.length) || decide (0 < P.length) && decide (M.length = 0) && !decide (0 < D.length) && decide (W.length = 0) then 6 else 0 : Nat) : Int) := by
    rw [Rul.tail_ok (by simp [Rul.lists, c0, c1, c2, c3])]
    have hq : Rul.odd f M D W P = (Nat.beq f 1 && decide (0 < D.length) || decide (0 < P.length) && decide (M.length = 0) && !decide (0 < D.length) && decide (W.length = 0)) := by
      have hf1 : ((f : Int) == 1) = Nat.beq f 1 := by
        rw [Bool.eq_iff_iff]
        simp
        omega
      unfold Rul.odd
      rw [hf1]
      generalize Nat.beq f 1 = b
      generalize M.length = m
      generalize D.length = d
      generalize P.length = p
      generalize W.length = q
      rw [Bool.eq_iff_iff]
      cases b
      · simp only [Bool.false_and, Bool.false_or, Bool.and_eq_true, decide_eq_true_eq, Bool.not_eq_true', Bool.or_eq_false_iff, decide_eq_false_iff_not]
        omega
      · simp only [Bool.true_and, Bool.or_eq_true, Bool.and_eq_true, decide_eq_true_eq, Bool.not_eq_true', Bool.or_eq_false_iff, decide_eq_false_iff_not]
        omega
    rw [hq]
    cases (Nat.beq f 1 && decide (0 < D.length) || decide (0 < P.length) && decide (M.length = 0) && !decide (0 < D.length) && decide (W.length = 0)) <;> rfl
  rw [hv]
  exact tp_run f iv c u (ap (ap base (ac G0 (ac G1 (ac G2 (ac G3 an))))) hodd) (ac C0 (ac C1 (ac C2 (ac C3 an)))) e
theorem check_any (f iv c u : Int) (AM AD AW AP : Option Addr) (cM cD cW cP : Nat) (M D : List Int) (W : List (Int × Int)) (P : List Int) (w : World) (hL : ListsIn w AM AD AW AP M D W P) :
    Calls Tryz.prog 24 #[.agg #[.int .i64 f, .int .i64 iv, .int .i64 c, .int .i64 u, .slice AM M.length cM, .slice AD D.length cD, .slice AW W.length cW, .slice AP P.length cP]] w fun e w' => e = .returned (.int .i64 (Rul.check f iv c u M D W P)) ∧ Below w.heap.size w w' := by
  by_cases hf0 : f < 0 ∨ 4 ≤ f
  · let L : Ltr := tp f iv c u AM AD AW AP cM cD cW cP M D W P
    rw [show Rul.check f iv c u M D W P = (6 : Nat) by simp [Rul.check, Rul.noFreq, hf0]]
    have hO : ∀ e ∈ noF, @OEOkX L Tryz.prog (kep w) e := by
      intro e he
      obtain ⟨n, hn, rfl⟩ := List.mem_map.1 he
      have := List.mem_range.1 hn
      exact (@li L _ 0 _ _ _ _ rfl rfl (xi_ne (decide_eq_true (by omega))) (@to_flat L _ rfl)).x
    exact symGF L 200 hO an an an (.cons (.agg (.cons (.ltr rfl rfl) (.cons (.ltr rfl rfl) (.cons (.ltr rfl rfl) (.cons (.ltr rfl rfl) (.cons (.ltr rfl rfl) (.cons (.ltr rfl rfl) (.cons (.ltr rfl rfl) (.cons (.ltr rfl rfl) .nil))))))))) .nil) rfl (top_eq top_none)
  obtain ⟨n, rfl⟩ : ∃ n : Nat, f = n := ⟨f.toNat, by omega⟩
  have hn : n < 4 := by omega
  let L : Ltr := tp n iv c u AM AD AW AP cM cD cW cP M D W P
  have nF : Rul.noFreq n = false := by simp [Rul.noFreq]; omega
  have T := List.all_eq_true.1 top_num n (List.mem_range.2 hn)
  simp only [Bool.and_eq_true] at T
  obtain ⟨⟨T1, T2⟩, T3⟩ := T
  have bad3 : Rul.badNum iv c u = true → Rul.check n iv c u M D W P = (3 : Nat) := fun h => by simp [Rul.check, nF, Rul.nums, h]
  have I1 : ∀ t, decide (iv < 1) = t → @OEOkX L Tryz.prog (kep w) (binE .lss (Lt 1) (.int .i64 1) (.bool t)) := fun t h => (@li L _ 1 _ _ _ _ rfl rfl (xi_lt h) (@to_flat L _ rfl)).x
  have I2 : ∀ t, decide (iv > 999) = t → @OEOkX L Tryz.prog (kep w) (binE .gtr (Lt 1) (.int .i64 999) (.bool t)) := fun t h => (@li L _ 1 _ _ _ _ rfl rfl (xi_gt h) (@to_flat L _ rfl)).x
  have I3 : ∀ t, decide (c < 0) = t → @OEOkX L Tryz.prog (kep w) (binE .lss (Lt 2) (.int .i64 0) (.bool t)) := fun t h => (@li L _ 2 _ _ _ _ rfl rfl (xi_lt h) (@to_flat L _ rfl)).x
  have I4 : ∀ t, decide (c > 9999) = t → @OEOkX L Tryz.prog (kep w) (binE .gtr (Lt 2) (.int .i64 9999) (.bool t)) := fun t h => (@li L _ 2 _ _ _ _ rfl rfl (xi_gt h) (@to_flat L _ rfl)).x
  have I5 : ∀ t, decide (u ≠ 0) = t → @OEOkX L Tryz.prog (kep w) (binE .neq (Lt 3) (.int .i64 0) (.bool t)) := fun t h => (@li L _ 3 _ _ _ _ rfl rfl (xi_ne h) (@to_flat L _ rfl)).x
  have I6 : ∀ t, decide (u < 1) = t → @OEOkX L Tryz.prog (kep w) (binE .lss (Lt 3) (.int .i64 1) (.bool t)) := fun t h => (@li L _ 3 _ _ _ _ rfl rfl (xi_lt h) (@to_flat L _ rfl)).x
  have I7 : ∀ t, decide (u > 3652059) = t → @OEOkX L Tryz.prog (kep w) (binE .gtr (Lt 3) (.int .i64 3652059) (.bool t)) := fun t h => (@li L _ 3 _ _ _ _ rfl rfl (xi_gt h) (@to_flat L _ rfl)).x
  have I8 : ∀ t, decide (c ≠ 0) = t → @OEOkX L Tryz.prog (kep w) (binE .neq (Lt 2) (.int .i64 0) (.bool t)) := fun t h => (@li L _ 2 _ _ _ _ rfl rfl (xi_ne h) (@to_flat L _ rfl)).x
  have stop : ∀ j, j < 4 → (∀ e ∈ num j, @OEOkX L Tryz.prog (kep w) e) → Rul.badNum iv c u = true → Calls Tryz.prog 24 #[.agg #[.int .i64 n, .int .i64 iv, .int .i64 c, .int .i64 u, .slice AM M.length cM, .slice AD D.length cD, .slice AW W.length cW, .slice AP P.length cP]] w fun e w' => e = .returned (.int .i64 (Rul.check n iv c u M D W P)) ∧ Below w.heap.size w w' := fun j hj hO hb => by
    rw [bad3 hb]
    exact tp_run n iv c u hO an (List.all_eq_true.1 T1 j (List.mem_range.2 hj))
  by_cases h1 : iv < 1
  · exact stop 0 (by omega) (ac (I1 _ (decide_eq_true h1)) an) (by simp [Rul.badNum, Rul.btw]; omega)
  have J1 := I1 _ (decide_eq_false h1)
  by_cases h2 : iv > 999
  · exact stop 1 (by omega) (ac J1 (ac (I2 _ (decide_eq_true h2)) an)) (by simp [Rul.badNum, Rul.btw]; omega)
  have J2 := I2 _ (decide_eq_false h2)
  by_cases h3 : c < 0
  · exact stop 2 (by omega) (ac J1 (ac J2 (ac (I3 _ (decide_eq_true h3)) an))) (by simp [Rul.badNum, Rul.btw]; omega)
  have J3 := I3 _ (decide_eq_false h3)
  by_cases h4 : c > 9999
  · exact stop 3 (by omega) (ac J1 (ac J2 (ac J3 (ac (I4 _ (decide_eq_true h4)) an)))) (by simp [Rul.badNum, Rul.btw]; omega)
  have N4 : ∀ e ∈ num 4, @OEOkX L Tryz.prog (kep w) e := ac J1 (ac J2 (ac J3 (ac (I4 _ (decide_eq_false h4)) an)))
  have go : ∀ j, j < 3 → (∀ e ∈ unt (3 + j), @OEOkX L Tryz.prog (kep w) e) → Rul.nums iv c u = 0 → Calls Tryz.prog 24 #[.agg #[.int .i64 n, .int .i64 iv, .int .i64 c, .int .i64 u, .slice AM M.length cM, .slice AD D.length cD, .slice AW W.length cW, .slice AP P.length cP]] w fun e w' => e = .returned (.int .i64 (Rul.check n iv c u M D W P)) ∧ Below w.heap.size w w' := fun j hj hO hb => by
    rw [show Rul.check n iv c u M D W P = Rul.tail n M D W P by simp [Rul.check, nF, hb, Rul.tail]]
    exact lists_run n hn hL hj (ap N4 hO)
  by_cases h5 : u ≠ 0
  · have J5 := I5 _ (decide_eq_true h5)
    by_cases h6 : u < 1
    · rw [bad3 (by simp [Rul.badNum, Rul.btw]; omega)]
      exact tp_run n iv c u (ap N4 (ac J5 (ac (I6 _ (decide_eq_true h6)) an))) an (List.all_eq_true.1 T2 0 (by simp))
    have J6 := I6 _ (decide_eq_false h6)
    by_cases h7 : u > 3652059
    · rw [bad3 (by simp [Rul.badNum, Rul.btw]; omega)]
      exact tp_run n iv c u (ap N4 (ac J5 (ac J6 (ac (I7 _ (decide_eq_true h7)) an)))) an (List.all_eq_true.1 T2 1 (by simp))
    have J7 := I7 _ (decide_eq_false h7)
    have nb : Rul.badNum iv c u = false := by simp [Rul.badNum, Rul.btw]; omega
    by_cases h8 : c ≠ 0
    · rw [show Rul.check n iv c u M D W P = (7 : Nat) by simp [Rul.check, nF, Rul.nums, nb, h5, h8]]
      exact tp_run n iv c u (ap N4 (ac J5 (ac J6 (ac J7 (ac (I8 _ (decide_eq_true h8)) an))))) an T3
    · exact go 0 (by omega) (ac J5 (ac J6 (ac J7 (ac (I8 _ (decide_eq_false h8)) an)))) (by simp [Rul.nums, nb]; omega)
  · have J5 := I5 _ (decide_eq_false h5)
    have nb : Rul.badNum iv c u = false := by simp [Rul.badNum, Rul.btw]; omega
    by_cases h8 : c ≠ 0
    · exact go 1 (by omega) (ac J5 (ac (I8 _ (decide_eq_true h8)) an)) (by simp [Rul.nums, nb]; omega)
    · exact go 2 (by omega) (ac J5 (ac (I8 _ (decide_eq_false h8)) an)) (by simp [Rul.nums, nb]; omega)
end
end Ck
end Go.Proofs.YtjdjekpbjnkliaaGreatDoor
