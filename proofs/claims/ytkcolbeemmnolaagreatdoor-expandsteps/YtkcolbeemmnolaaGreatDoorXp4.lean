/-
  Contracts of the law's Ahead and Date: the document's answer for a day's date.
-/
import Derived.Test.YtkcolbeemmnolaaGreatDoorW4
import Derived.Handy
import Derived.BigQuiet
import Derived.Test.YtkcolbeemmnolaaGreatDoorXs2
namespace Go.Proofs.YtkcolbeemmnolaaGreatDoor
open Go.RowKit

set_option maxHeartbeats 400000 in
theorem ahead_any (y : Int) (w : World) (h0 : 1 ≤ y) (h1 : y ≤ 10000) : Calls Tryz.prog 22 #[.int .i64 y] w fun e w' => e = .returned (.int .i64 (Cal.dby y)) ∧ Below w.heap.size w w' := by
  go_enter Tryz.func22, Tryz.ntmps22
  go_wp2
  refine wp_loop_rounds 4 ?_
  rw [rounds_succ]; go_wp2
  go_quiet (fail)
  go_wp2
  rw [rounds_succ]; go_wp2
  go_quiet (fail)
  go_wp2
  rw [rounds_succ]; go_wp2
  go_quiet (fail)
  go_wp2
  rw [rounds_succ]; go_wp2
  go_ret
  refine ⟨ret_int (by unfold Cal.dby; omega), ?_⟩
  repeat (first | exact Below.refl _ _ | refine below_drewN ?_ _ | refine Below.alloc ?_ (by simp <;> omega) _)

theorem lawDate_no (n : Int) (w : World) (h : n < 1 ∨ 3652059 < n) : Calls Tryz.prog 20 #[.int .i64 n] w fun e w' => e = .returned (.tuple #[.int .i64 0, .int .i64 0, .int .i64 0]) ∧ w = w' := by
  by_cases h1 : n < 1
  · clear h
    go_enter Tryz.func20, Tryz.ntmps20
    go_wp2
    go_ret3
    exact ⟨rfl, rfl⟩
  · have h2 : 3652059 < n := by omega
    clear h
    go_enter Tryz.func20, Tryz.ntmps20
    go_wp2
    go_ret3
    exact ⟨rfl, rfl⟩

set_option maxHeartbeats 400000 in
theorem lawDate_yes (n y m d : Int) (w : World) (h : Cal.Is n y m d) : Calls Tryz.prog 20 #[.int .i64 n] w fun e w' => e = .returned (.tuple #[.int .i64 y, .int .i64 m, .int .i64 d]) ∧ Below w.heap.size w w' := by
  obtain ⟨n1, n2⟩ := h.range
  obtain ⟨iy1, iy2⟩ := h.inYear
  obtain ⟨y1, y2, m1, m2, d1, d2, hn⟩ := h
  have hn' : n - Cal.dby y = Cal.cum y m + d := by unfold Cal.num at hn; omega
  have HN := Lib.hid hn'
  clear hn hn'
  have cm := Cal.cum_bd y m m1 (by omega)
  have dl := Cal.dim_le y m
  go_enter Tryz.func20, Tryz.ntmps20
  go_wp2
  go_loopw [5, 6] (fun lo hi wr => ∃ a b : Int, 1 ≤ a ∧ a ≤ y ∧ y ≤ b ∧ b ≤ 9999 ∧ lo = .int .i64 a ∧ hi = .int .i64 b ∧ Below w.heap.size w wr) (fun lo hi _ => (intOf hi - intOf lo).toNat)
  case atStart => exact ⟨1, 9999, by omega, by omega, by omega, by omega, rfl, rfl, Below.refl _ _⟩
  case round =>
    obtain ⟨a, b, a1, a2, b1, b2, rfl, rfl, hb⟩ := hrel
    by_cases hlt : a < b
    · by_cases hc : Cal.dby ((a + b + 1) / 2) < n
      · have hle : (a + b + 1) / 2 ≤ y := by
          by_cases u : (a + b + 1) / 2 ≤ y
          · exact u
          · have := Cal.dby_mono (y + 1) ((a + b + 1) / 2) (by omega); omega
        go_wp2_with fail
        refine (ahead_any _ _ (by omega) (by omega)).mono ?_
        rintro e w1 ⟨rfl, c1⟩
        go_wp2
        go_roundw
        case rel => exact ⟨(a + b + 1) / 2, b, by omega, by omega, by omega, by omega, rfl, rfl, hb.trans (c1.mono hb.size)⟩
        case measure => simp [intOf]; omega
      · have hle : y < (a + b + 1) / 2 := by
          by_cases u : (a + b + 1) / 2 ≤ y
          · have := Cal.dby_mono ((a + b + 1) / 2) y (by omega); omega
          · omega
        go_wp2_with fail
        refine (ahead_any _ _ (by omega) (by omega)).mono ?_
        rintro e w1 ⟨rfl, c1⟩
        go_wp2
        go_roundw
        case rel => exact ⟨a, (a + b + 1) / 2 - 1, by omega, by omega, by omega, by omega, rfl, rfl, hb.trans (c1.mono hb.size)⟩
        case measure => simp [intOf]; omega
    · obtain rfl : a = y := by omega
      clear iy1 iy2
      have db := Cal.dby_bd a a1 (by omega)
      go_wp2_with fail
      refine (ahead_any _ _ (by omega) (by omega)).mono ?_
      rintro e w1 ⟨rfl, c1⟩
      have hb1 := hb.trans (c1.mono hb.size)
      clear hb c1
      go_wp2_with fail
      rw [HN.out]
      go_loop [3, 4] (fun k r => ∃ i : Int, 1 ≤ i ∧ i ≤ m ∧ k = .int .i64 i ∧ r = .int .i64 (Cal.cum a m + d - Cal.cum a i)) (fun k _ => (m - intOf k).toNat)
      case atStart => exact ⟨1, by omega, by omega, rfl, by rw [Cal.cum_one]; simp⟩
      case round =>
        obtain ⟨i, i1, i2, rfl, rfl⟩ := hrel
        have cb := Cal.cum_bd a i i1 (by omega)
        have ll := Cal.dim_le a i
        by_cases hlt : i < m
        · have CS := Lib.hid (Cal.cum_succ a i i1 (by omega))
          have cmo := Cal.cum_mono a i m i1 hlt (by omega)
          have hge : Cal.dim a i < Cal.cum a m + d - Cal.cum a i := by omega
          go_wp2_with (go_at_call 21; refine (lawLong_any _ _ _ (by omega) (by omega)).mono ?_; rintro e w' ⟨rfl, rfl⟩)
          go_round
          case rel => exact ⟨i + 1, by omega, by omega, rfl, by rw [CS.out]; go_num⟩
          case measure => simp [intOf]; omega
        · have hi : i = m := by omega
          subst hi
          have hlo : ¬ Cal.dim a i < Cal.cum a i + d - Cal.cum a i := by omega
          go_wp2_with (go_at_call 21; refine (lawLong_any _ _ _ (by omega) (by omega)).mono ?_; rintro e w' ⟨rfl, rfl⟩)
          go_ret3
          exact ⟨ret_three rfl rfl (by omega), hb1⟩
end Go.Proofs.YtkcolbeemmnolaaGreatDoor
/-
  The contract of the law's From.
-/
namespace Go.Proofs.YtkcolbeemmnolaaGreatDoor
open Go Go.RowKit
theorem from_any (f : Nat) (hf : f < 4) (d y m n : Int) (h : Cal.Is d y m n) (w : World) :
    Calls Tryz.prog 8 #[.int .i64 f, .int .i64 d] w fun e w' => e = .returned (.tuple ⟨[.int .i64 (Cal.pf f d y n), .int .i64 (Cal.pt f d y m n)]⟩) ∧ Below w.heap.size w w' := by
  have r := h.range
  have h' := h
  obtain ⟨y1, y2, m1, m2, n1, n2, _⟩ := h'
  have b1 := Cal.dby_bd y y1 (by omega)
  have b2 := Cal.dby_bd (y + 1) (by omega) (by omega)
  have b3 := Cal.dim_le y m
  have e : f = 0 ∨ f = 1 ∨ f = 2 ∨ f = 3 := by omega
  rcases e with rfl | rfl | rfl | rfl
  · let L : List Value := [.int .i64 d, .int .i64 y, .int .i64 m, .int .i64 n]
    let _ : Ltr := ltrL L
    exact symP2 L 60 (args := [.int .i64 (0 : Nat), Lt 0]) (O := []) (l := [(20, patP [([Lt 0], .tuple ⟨[Lt 1, Lt 2, Lt 3]⟩)])]) (i := 0) (j := 0)
      an (ac (pg1 (rl_l rfl rl_nil) (tri rfl rfl rfl rfl rfl rfl) fun w' k => lawDate_yes d y m n w' h) an) (.cons (.same rfl) (.cons (.ltr rfl rfl) .nil)) rfl rfl (by delta Sym; show _ = _; kernel_rfl)
  · let L : List Value := [.int .i64 d, .int .i64 y, .int .i64 m, .int .i64 n, .int .i64 (d + 6), .int .i64 ((d - 1) % 7), .int .i64 (d - (d - 1) % 7), .int .i64 (d - (d - 1) % 7 + 6), .int .i64 (min (d - (d - 1) % 7 + 6) 3652059)]
    let _ : Ltr := ltrL L
    exact symP2 L 60 (args := [.int .i64 (1 : Nat), Lt 0]) (O := [binE .add (Lt 0) (.int .i64 6) (Lt 4), binE .rem (Lt 4) (.int .i64 7) (Lt 5), binE .sub (Lt 0) (Lt 5) (Lt 6), maxE (Lt 6) (.int .i64 1) (Lt 6), binE .add (Lt 6) (.int .i64 6) (Lt 7), minE (Lt 7) (.int .i64 3652059) (Lt 8)])
      (l := [(20, patP [([Lt 0], .tuple ⟨[Lt 1, Lt 2, Lt 3]⟩)])]) (i := 6) (j := 8)
      (ac (li rfl rfl (xi_add rfl (by omega)) (to_ltr rfl rfl)) (ac (li rfl rfl (xi_rem (by omega) (by omega) (by omega)) (to_ltr rfl rfl)) (ac (ll rfl rfl (xi_sub rfl (by omega)) (to_ltr rfl rfl)) (ac (maxE_ok (is_ltr rfl) (is_flat rfl) (by omega) (to_ltr rfl rfl)) (ac (li rfl rfl (xi_add rfl (by omega)) (to_ltr rfl rfl)) (ac (minE_ok (is_ltr rfl) (is_flat rfl) (by omega) (to_ltr rfl rfl)) an))))))
      (ac (pg1 (rl_l rfl rl_nil) (tri rfl rfl rfl rfl rfl rfl) fun w' k => lawDate_yes d y m n w' h) an) (.cons (.same rfl) (.cons (.ltr rfl rfl) .nil)) rfl rfl (by delta Sym; show _ = _; kernel_rfl)
  · let L : List Value := [.int .i64 d, .int .i64 y, .int .i64 m, .int .i64 n, .int .i64 (d - n), .int .i64 (d - n + 1), .int .i64 (Cal.dim y m), .int .i64 (d - n + Cal.dim y m)]
    let _ : Ltr := ltrL L
    exact symP2 L 60 (args := [.int .i64 (2 : Nat), Lt 0]) (O := [cvE 3 32 (Lt 3) (Lt 3), binE .sub (Lt 0) (Lt 3) (Lt 4), binE .add (Lt 4) (.int .i64 1) (Lt 5), cvE 3 32 (Lt 6) (Lt 6), binE .add (Lt 4) (Lt 6) (Lt 7)])
      (l := [(20, patP [([Lt 0], .tuple ⟨[Lt 1, Lt 2, Lt 3]⟩)]), (21, patP [([Lt 1, Lt 2], Lt 6)])]) (i := 5) (j := 7)
      (ac (cv_id rfl (by omega)) (ac (ll rfl rfl (xi_sub rfl (by omega)) (to_ltr rfl rfl)) (ac (li rfl rfl (xi_add rfl (by omega)) (to_ltr rfl rfl)) (ac (cv_id rfl (by omega)) (ac (ll rfl rfl (xi_add rfl (by omega)) (to_ltr rfl rfl)) an)))))
      (ac (pg1 (rl_l rfl rl_nil) (tri rfl rfl rfl rfl rfl rfl) fun w' k => lawDate_yes d y m n w' h) (ac (pg1 (rl_l rfl (rl_l rfl rl_nil)) (fun E => .ltr rfl rfl) fun w' k => same_w (lawLong_any y m w' (by omega) (by omega))) an)) (.cons (.same rfl) (.cons (.ltr rfl rfl) .nil)) rfl rfl (by delta Sym; show _ = _; kernel_rfl)
  · let L : List Value := [.int .i64 d, .int .i64 y, .int .i64 m, .int .i64 n, .int .i64 (Cal.dby y), .int .i64 (y + 1), .int .i64 (Cal.dby (y + 1)), .int .i64 (Cal.dby y + 1)]
    let _ : Ltr := ltrL L
    exact symP2 L 60 (args := [.int .i64 (3 : Nat), Lt 0]) (O := [cvE 3 32 (Lt 4) (Lt 4), binE .add (Lt 4) (.int .i64 1) (Lt 7), binE .add (Lt 1) (.int .i64 1) (Lt 5), cvE 3 32 (Lt 6) (Lt 6)])
      (l := [(20, patP [([Lt 0], .tuple ⟨[Lt 1, Lt 2, Lt 3]⟩)]), (22, patP [([Lt 1], Lt 4), ([Lt 5], Lt 6)])]) (i := 7) (j := 6)
      (ac (cv_id rfl (by omega)) (ac (li rfl rfl (xi_add rfl (by omega)) (to_ltr rfl rfl)) (ac (li rfl rfl (xi_add rfl (by omega)) (to_ltr rfl rfl)) (ac (cv_id rfl (by omega)) an))))
      (ac (pg1 (rl_l rfl rl_nil) (tri rfl rfl rfl rfl rfl rfl) fun w' k => lawDate_yes d y m n w' h) (ac (patP_ok (ac (pg (rl_l rfl rl_nil) (fun E => .ltr rfl rfl) fun w' k => ahead_any y w' y1 (by omega)) (ac (pg (rl_l rfl rl_nil) (fun E => .ltr rfl rfl) fun w' k => ahead_any (y + 1) w' (by omega) (by omega)) an))) an)) (.cons (.same rfl) (.cons (.ltr rfl rfl) .nil)) rfl rfl (by delta Sym; show _ = _; kernel_rfl)
end Go.Proofs.YtkcolbeemmnolaaGreatDoor
