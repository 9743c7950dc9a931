/-
  The walk of the law CivilParses, out of the contracts.
-/
import Derived.Test.YtdmjgfofcbfplaaDoorW11
import Derived.Handy
import Derived.BigQuiet
namespace Go.Proofs.YtdmjgfofcbfplaaDoor
open Go.RowKit
set_option maxHeartbeats 400000 in
theorem civilParses_long (s : ByteArray) (w : World) (hM : Months w) (h : 30 < s.size) :
    Calls Tryd.prog 6 #[.string s] w fun e w' => e = .returned (.bool true) ∧ Below w.heap.size w w' := by
  go_enter Tryd.func6, Tryd.ntmps6
  go_wp2_with fail
  refine (awake _ hM).mono ?_
  rintro e wa ⟨rfl, b1⟩
  go_wp2
  go_ret
  exact ⟨rfl, b1⟩
set_option maxHeartbeats 400000 in
theorem civilParses_short (s : ByteArray) (w : World) (hM : Months w) (h : ¬ 30 < s.size) (h' : s.size ≠ 10) :
    Calls Tryd.prog 6 #[.string s] w fun e w' => e = .returned (.bool true) ∧ Below w.heap.size w w' := by
  have hn : ((s.size : Int) != 10) = true := by simp; omega
  have H := Lib.hid h'
  clear h'
  go_enter Tryd.func6, Tryd.ntmps6
  go_wp2_with fail
  refine (awake _ hM).mono ?_
  rintro e wa ⟨rfl, b1⟩
  go_wp2_with fail
  refine (parse_short _ _ H.out).mono ?_
  rintro e w' ⟨rfl, rfl⟩
  go_wp2
  go_ret
  exact ⟨rfl, b1⟩
set_option maxHeartbeats 400000 in
theorem civilParses_good (n y m d : Int) (w : World) (hM : Months w) (hi : Cal.Is n y m d) :
    Calls Tryd.prog 6 #[.string (txt y m d)] w fun e w' => e = .returned (.bool true) ∧ Below w.heap.size w w' := by
  have hs : ¬ 30 < (txt y m d).size := by show ¬ 30 < 10; decide
  have y1 := hi.1
  have y2 := hi.2.1
  have m1 := hi.2.2.1
  have m2 := hi.2.2.2.1
  have d1 := hi.2.2.2.2.1
  have d2 := hi.2.2.2.2.2.1
  have dl := Cal.dim_le y m
  have z4 : (pad4 y).size ≤ 4 := Nat.le_of_eq (pad4_size y)
  have z2 : (pad2 m).size ≤ 2 := Nat.le_of_eq (pad2_size m)
  have z3 : (pad2 d).size ≤ 2 := Nat.le_of_eq (pad2_size d)
  go_enter Tryd.func6, Tryd.ntmps6
  go_wp2_with fail
  refine (awake _ hM).mono ?_
  rintro e wa ⟨rfl, b1⟩
  have hN := hM.grown b1
  go_wp2_with fail
  refine (parse_txt _ y m d _ hN hi).mono ?_
  rintro e w' ⟨rfl, rfl⟩
  go_wp2_with fail
  refine (lawDate_yes _ y m d _ hi).mono ?_
  rintro e wb ⟨rfl, b2⟩
  go_wp2_with fail
  refine (lawDigits4 _ _ (by omega) (by omega)).mono ?_
  rintro e w' ⟨rfl, rfl⟩
  go_wp2_with fail
  refine (lawDigits2 _ _ (by omega) (by omega)).mono ?_
  rintro e w' ⟨rfl, rfl⟩
  go_wp2_with fail
  refine (lawDigits2 _ _ (by omega) (by omega)).mono ?_
  rintro e w' ⟨rfl, rfl⟩
  have eqs : ((txt y m d).toList == (pad4 y ++ { data := #[45] } ++ pad2 m ++ { data := #[45] } ++ pad2 d).toList) = true := by rw [txt_of]; simp
  go_wp2
  go_ret
  exact ⟨rfl, b1.trans (b2.mono b1.size)⟩
set_option maxHeartbeats 8000000 in
theorem civilParses_bad (s : ByteArray) (w : World) (hM : Months w) (h : s.size = 10) (hg : ¬ Good s) :
    Calls Tryd.prog 6 #[.string s] w fun e w' => e = .returned (.bool true) ∧ Below w.heap.size w w' := by
  have H := Lib.hid h
  have HG := Lib.hid hg
  have hn : ((s.size : Int) != 10) = false := by simp; omega
  have hs : ¬ 30 < s.size := by omega
  have sl0 : ∀ wx, (Instr.slice 9 (.string s) (some (.int .i64 0)) (some (.int .i64 4)) none).run Tryd.prog wx = .ok (.string (s.extract 0 4)) wx := fun wx => run_slice_string wx 9 s .i64 .i64 0 4 Tryd.underlying9 (by decide) (by decide) (by omega)
  have sl1 : ∀ wx, (Instr.slice 9 (.string s) (some (.int .i64 5)) (some (.int .i64 7)) none).run Tryd.prog wx = .ok (.string (s.extract 5 7)) wx := fun wx => run_slice_string wx 9 s .i64 .i64 5 7 Tryd.underlying9 (by decide) (by decide) (by omega)
  have sl2 : ∀ wx, (Instr.slice 9 (.string s) (some (.int .i64 8)) (some (.int .i64 10)) none).run Tryd.prog wx = .ok (.string (s.extract 8 10)) wx := fun wx => run_slice_string wx 9 s .i64 .i64 8 10 Tryd.underlying9 (by decide) (by decide) (by omega)
  have cv0 : ∀ W, (convert 9 46 (.string (s.extract 0 4))).run Tryd.prog W = .ok (.slice (some ⟨W.heap.size, 0, none⟩) 4 (grownCap W 4 0 5)) (Lib.bytesWorld W 5 (s.extract 0 4)) := fun W => by
    have e := Lib.run_convert_string_bytes (P := Tryd.prog) W 9 46 5 (s.extract 0 4) Tryd.underlying9 Tryd.underlying46 Tryd.underlying5
    rw [piece_size s 0 4 (by omega)] at e; exact e
  have cv1 : ∀ W, (convert 9 46 (.string (s.extract 5 7))).run Tryd.prog W = .ok (.slice (some ⟨W.heap.size, 0, none⟩) 2 (grownCap W 2 0 5)) (Lib.bytesWorld W 5 (s.extract 5 7)) := fun W => by
    have e := Lib.run_convert_string_bytes (P := Tryd.prog) W 9 46 5 (s.extract 5 7) Tryd.underlying9 Tryd.underlying46 Tryd.underlying5
    rw [piece_size s 5 7 (by omega)] at e; exact e
  have cv2 : ∀ W, (convert 9 46 (.string (s.extract 8 10))).run Tryd.prog W = .ok (.slice (some ⟨W.heap.size, 0, none⟩) 2 (grownCap W 2 0 5)) (Lib.bytesWorld W 5 (s.extract 8 10)) := fun W => by
    have e := Lib.run_convert_string_bytes (P := Tryd.prog) W 9 46 5 (s.extract 8 10) Tryd.underlying9 Tryd.underlying46 Tryd.underlying5
    rw [piece_size s 8 10 (by omega)] at e; exact e
  have Z0 := Lib.hid (piece_size s 0 4 (by omega))
  have Z1 := Lib.hid (piece_size s 5 7 (by omega))
  have Z2 := Lib.hid (piece_size s 8 10 (by omega))
  have SL0 := Lib.hid sl0
  have CV0 := Lib.hid cv0
  have SL1 := Lib.hid sl1
  have CV1 := Lib.hid cv1
  have SL2 := Lib.hid sl2
  have CV2 := Lib.hid cv2
  clear h hg sl0 sl1 sl2 cv0 cv1 cv2
  go_enter Tryd.func6, Tryd.ntmps6
  go_wp2_with fail
  refine (awake _ hM).mono ?_
  rintro e wa ⟨rfl, b1⟩
  have hN := hM.grown b1
  go_wp2_with fail
  refine (parse_bad _ _ hN HG.out H.out).mono ?_
  rintro e w' ⟨rfl, rfl⟩
  go_wp2
  have iv := Inv.start wa 43 44
  generalize (wa.alloc (.cells #[.int .i64 0, .int .i64 0, .int .i64 0] 43)).alloc (.cells #[.int .i64 0, .int .i64 4, .int .i64 5, .int .i64 7, .int .i64 8, .int .i64 10] 44) = W0 at iv ⊢
  have IV0 := iv
  clear iv
  refine wp_loop_rounds 4 ?_
  have g0 := IV0.t0
  have g1 := IV0.t1
  have gs := IV0.size
  have sl := SL0.out
  have cv := CV0.out
  rw [rounds_succ]; go_wp2
  clear g0 g1 sl cv
  go_loopw [53] (fun k wx => ∃ j : Nat, j ≤ 4 ∧ k = .int .i64 j ∧ Inv wa wx (nv (s.extract 0 4) j) 0 0 ∧ Dig (s.extract 0 4) j ∧ Row wx (W0.heap.size + 1) (s.extract 0 4)) (fun k _ => 4 - (intOf k).toNat)
  case atStart => exact ⟨0, Nat.zero_le _, rfl, (IV0.later ((Below.refl _ _).alloc (Nat.le_refl _) _)).later (bytes_below _ _ _), Dig.zero _, by
    have r := Row.start (W0.alloc (.cells #[.int .i64 0, .int .i64 4] 44)) 5 (s.extract 0 4)
    rw [World.size_alloc] at r; exact r⟩
  case round =>
    obtain ⟨j, hj, rfl, iw, dg, row⟩ := hrel
    by_cases hlt : j < 4
    · have hlq : j < (s.extract 0 4).size := by rw [Z0.out]; omega
      have hc := row j hlq
      have k0 := iw.c0
      have k1 := iw.f0
      have k2 := iw.size
      have vb := dg.nv_bd hlq (by rw [Z0.out]; decide)
      have VS := Lib.hid (nv_succ (s.extract 0 4) j hlq)
      cases hd : isd (s.extract 0 4)[j]
      · have hb := (isd_no _).1 hd
        clear hd
        have hb2 : ((((s.extract 0 4)[j]).toNat : Int) < 48) ∨ (48 ≤ (((s.extract 0 4)[j]).toNat : Int) ∧ 57 < (((s.extract 0 4)[j]).toNat : Int)) := by omega
        clear hb
        rcases hb2 with hb | ⟨hb, hb'⟩
        all_goals
          go_wp2
          go_ret
          exact ⟨rfl, b1.trans (iw.below.mono b1.size)⟩
      · obtain ⟨e1, e2⟩ := (isd_iff _).1 hd
        have HD := Lib.hid hd
        clear hd
        go_wp2
        go_roundw
        case rel =>
          refine ⟨j + 1, by omega, by go_num, ?_, dg.succ hlq HD.out, row.set (by show wa.heap.size ≠ _; omega) _⟩
          rw [VS.out, Int.mul_comm]
          exact iw.set0 _
        case measure => simp [intOf]; omega
    · obtain rfl : j = 4 := by omega
      have D0 := Lib.hid (dg.all (j := 4) (by rw [Z0.out]; decide))
      have IV1 := iw
      rw [dg.nv_dv (by rw [Z0.out]; decide)] at IV1
      clear iw dg row hj hlt gs
      rename World => W1
      go_wp2
      have g0 := IV1.t2
      have g1 := IV1.t3
      have gs := IV1.size
      have sl := SL1.out
      have cv := CV1.out
      rw [rounds_succ]; go_wp2
      clear g0 g1 sl cv
      go_loopw [53] (fun k wx => ∃ j : Nat, j ≤ 2 ∧ k = .int .i64 j ∧ Inv wa wx (dv (s.extract 0 4)) (nv (s.extract 5 7) j) 0 ∧ Dig (s.extract 5 7) j ∧ Row wx (W1.heap.size + 1) (s.extract 5 7)) (fun k _ => 2 - (intOf k).toNat)
      case atStart => exact ⟨0, Nat.zero_le _, rfl, (IV1.later ((Below.refl _ _).alloc (Nat.le_refl _) _)).later (bytes_below _ _ _), Dig.zero _, by
        have r := Row.start (W1.alloc (.cells #[.int .i64 5, .int .i64 7] 44)) 5 (s.extract 5 7)
        rw [World.size_alloc] at r; exact r⟩
      case round =>
        obtain ⟨j, hj, rfl, iw, dg, row⟩ := hrel
        by_cases hlt : j < 2
        · have hlq : j < (s.extract 5 7).size := by rw [Z1.out]; omega
          have hc := row j hlq
          have k0 := iw.c1
          have k1 := iw.f1
          have k2 := iw.size
          have vb := dg.nv_bd hlq (by rw [Z1.out]; decide)
          have VS := Lib.hid (nv_succ (s.extract 5 7) j hlq)
          cases hd : isd (s.extract 5 7)[j]
          · have hb := (isd_no _).1 hd
            clear hd
            have hb2 : ((((s.extract 5 7)[j]).toNat : Int) < 48) ∨ (48 ≤ (((s.extract 5 7)[j]).toNat : Int) ∧ 57 < (((s.extract 5 7)[j]).toNat : Int)) := by omega
            clear hb
            rcases hb2 with hb | ⟨hb, hb'⟩
            all_goals
              go_wp2
              go_ret
              exact ⟨rfl, b1.trans (iw.below.mono b1.size)⟩
          · obtain ⟨e1, e2⟩ := (isd_iff _).1 hd
            have HD := Lib.hid hd
            clear hd
            go_wp2
            go_roundw
            case rel =>
              refine ⟨j + 1, by omega, by go_num, ?_, dg.succ hlq HD.out, row.set (by show wa.heap.size ≠ _; omega) _⟩
              rw [VS.out, Int.mul_comm]
              exact iw.set1 _
            case measure => simp [intOf]; omega
        · obtain rfl : j = 2 := by omega
          have D1 := Lib.hid (dg.all (j := 2) (by rw [Z1.out]; decide))
          have IV2 := iw
          rw [dg.nv_dv (by rw [Z1.out]; decide)] at IV2
          clear iw dg row hj hlt gs
          rename World => W2
          go_wp2
          have g0 := IV2.t4
          have g1 := IV2.t5
          have gs := IV2.size
          have sl := SL2.out
          have cv := CV2.out
          rw [rounds_succ]; go_wp2
          clear g0 g1 sl cv
          go_loopw [53] (fun k wx => ∃ j : Nat, j ≤ 2 ∧ k = .int .i64 j ∧ Inv wa wx (dv (s.extract 0 4)) (dv (s.extract 5 7)) (nv (s.extract 8 10) j) ∧ Dig (s.extract 8 10) j ∧ Row wx (W2.heap.size + 1) (s.extract 8 10)) (fun k _ => 2 - (intOf k).toNat)
          case atStart => exact ⟨0, Nat.zero_le _, rfl, (IV2.later ((Below.refl _ _).alloc (Nat.le_refl _) _)).later (bytes_below _ _ _), Dig.zero _, by
            have r := Row.start (W2.alloc (.cells #[.int .i64 8, .int .i64 10] 44)) 5 (s.extract 8 10)
            rw [World.size_alloc] at r; exact r⟩
          case round =>
            obtain ⟨j, hj, rfl, iw, dg, row⟩ := hrel
            by_cases hlt : j < 2
            · have hlq : j < (s.extract 8 10).size := by rw [Z2.out]; omega
              have hc := row j hlq
              have k0 := iw.c2
              have k1 := iw.f2
              have k2 := iw.size
              have vb := dg.nv_bd hlq (by rw [Z2.out]; decide)
              have VS := Lib.hid (nv_succ (s.extract 8 10) j hlq)
              cases hd : isd (s.extract 8 10)[j]
              · have hb := (isd_no _).1 hd
                clear hd
                have hb2 : ((((s.extract 8 10)[j]).toNat : Int) < 48) ∨ (48 ≤ (((s.extract 8 10)[j]).toNat : Int) ∧ 57 < (((s.extract 8 10)[j]).toNat : Int)) := by omega
                clear hb
                rcases hb2 with hb | ⟨hb, hb'⟩
                all_goals
                  go_wp2
                  go_ret
                  exact ⟨rfl, b1.trans (iw.below.mono b1.size)⟩
              · obtain ⟨e1, e2⟩ := (isd_iff _).1 hd
                have HD := Lib.hid hd
                clear hd
                go_wp2
                go_roundw
                case rel =>
                  refine ⟨j + 1, by omega, by go_num, ?_, dg.succ hlq HD.out, row.set (by show wa.heap.size ≠ _; omega) _⟩
                  rw [VS.out, Int.mul_comm]
                  exact iw.set2 _
                case measure => simp [intOf]; omega
            · obtain rfl : j = 2 := by omega
              have D2 := Lib.hid (dg.all (j := 2) (by rw [Z2.out]; decide))
              have IV3 := iw
              rw [dg.nv_dv (by rw [Z2.out]; decide)] at IV3
              clear iw dg row hj hlt gs
              rename World => W3
              go_wp2
              rw [rounds_succ]; go_wp2
              have n0 := IV3.c0
              have n1 := IV3.c1
              have n2 := IV3.c2
              have hz : s.size = 10 := H.out
              have h4 : 4 < s.size := by omega
              have h7 : 7 < s.size := by omega
              have fin : ∀ k : Nat, Below w.heap.size w (W3.drewN k) := fun k => below_drewN (b1.trans (IV3.below.mono b1.size)) k
              have FIN := Lib.hid fin
              have hall := Lib.hid (show (ds (s.extract 0 4) && ds (s.extract 5 7) && ds (s.extract 8 s.size)) = true by rw [hz, D0.out, D1.out, D2.out]; rfl)
              have y0 := (dv_bd (s.extract 0 4) 4 (by rw [Z0.out]; decide)).1
              have y9 := (dv_bd (s.extract 0 4) 4 (by rw [Z0.out]; decide)).2
              have p4 : (10 : Int) ^ 4 = 10000 := by decide
              rw [p4] at y9
              have HB := Lib.hid (fun d4 d7 => bad_date s HG.out hz h4 h7 d4 d7 hall.out)
              rw [hz] at HB
              have hx4 : ∀ W, (Instr.index 9 (.string s) (.int .i64 4)).run Tryd.prog W = .ok (.int .u8 (s[4].toNat : Int)) W := fun W => by
                rw [run_index_string W 9 s .i64 4 Tryd.underlying9, dif_pos ⟨by decide, by omega⟩]; rfl
              have hx7 : ∀ W, (Instr.index 9 (.string s) (.int .i64 7)).run Tryd.prog W = .ok (.int .u8 (s[7].toNat : Int)) W := fun W => by
                rw [run_index_string W 9 s .i64 7 Tryd.underlying9, dif_pos ⟨by decide, by omega⟩]; rfl
              clear hz p4 fin IV3 IV2 IV1 IV0 SL0 SL1 SL2 CV0 CV1 CV2
              by_cases d4 : s[4].toNat = 45
              · have t4 : ((s[4].toNat : Int) != 45) = false := by simp; omega
                by_cases d7 : s[7].toNat = 45
                · have t7 : ((s[7].toNat : Int) != 45) = false := by simp; omega
                  have hb := HB.out d4 d7
                  clear d4 d7 HB hall
                  generalize dv (s.extract 0 4) = y at *
                  generalize dv (s.extract 5 7) = m at *
                  generalize dv (s.extract 8 10) = d at *
                  by_cases c1 : y < 1
                  · have e1 : decide (y < 1) = true := by simpa using c1
                    clear hb
                    go_quiet (fail)
                    go_wp2
                    go_ret
                    exact ⟨rfl, FIN.out _⟩
                  · have e1 : decide (y < 1) = false := by simpa using c1
                    by_cases c2 : m < 1
                    · have e2 : decide (m < 1) = true := by simpa using c2
                      clear hb
                      go_quiet (fail)
                      go_wp2
                      go_ret
                      exact ⟨rfl, FIN.out _⟩
                    · have e2 : decide (m < 1) = false := by simpa using c2
                      by_cases c3 : 12 < m
                      · have e3 : decide (12 < m) = true := by simpa using c3
                        clear hb
                        go_quiet (fail)
                        go_wp2
                        go_ret
                        exact ⟨rfl, FIN.out _⟩
                      · have e3 : decide (12 < m) = false := by simpa using c3
                        by_cases c4 : d < 1
                        · have e4 : decide (d < 1) = true := by simpa using c4
                          clear hb
                          go_quiet (fail)
                          go_wp2
                          go_ret
                          exact ⟨rfl, FIN.out _⟩
                        · have e4 : decide (d < 1) = false := by simpa using c4
                          have c5 : Cal.dim y m < d := by omega
                          have e5 : decide (Cal.dim y m < d) = true := by simpa using c5
                          clear hb
                          go_quiet ((go_at_call 14; exact quiet_eq (lawLong_any _ _ _ (by omega) (by omega))))
                          go_wp2
                          go_ret
                          exact ⟨rfl, FIN.out _⟩
                · have t7 : ((s[7].toNat : Int) != 45) = true := by simp; omega
                  clear d4 d7 HB hall
                  go_quiet (fail)
                  go_wp2
                  go_ret
                  exact ⟨rfl, FIN.out _⟩
              · have t4 : ((s[4].toNat : Int) != 45) = true := by simp; omega
                clear d4 HB hall
                go_quiet (fail)
                go_wp2
                go_ret
                exact ⟨rfl, FIN.out _⟩

theorem civilParses_walk (s : ByteArray) (w : World) (hM : Months w) (_hs : s.size ≤ maxLen) :
    Calls Tryd.prog 6 #[.string s] w fun e w' => e = .returned (.bool true) ∧ Below w.heap.size w w' := by
  by_cases h : 30 < s.size
  · exact civilParses_long s w hM h
  · by_cases h' : s.size = 10
    · by_cases hg : Good s
      · obtain ⟨n, y, m, d, hi, rfl⟩ := hg
        exact civilParses_good n y m d w hM hi
      · exact civilParses_bad s w hM h' hg
    · exact civilParses_short s w hM h h'
end Go.Proofs.YtdmjgfofcbfplaaDoor
