/-
  The law's Check: one round of its outer loop, for each of the four lists.
-/
import Derived.Test.YtoldjleojnlhiaaDoorR15
namespace Go.Proofs.YtoldjleojnlhiaaDoor
open Go.RowKit

theorem then_self {P : Program} {s : Code} {Q : Exit → Act → World → Prop} {a : Act} {w : World} (h : s.wp P (Exit.then (Q .normal) Q) a w) : s.wp P Q a w :=
  wp_mono h fun e a' w' q => by
    cases e with
    | normal => exact q
    | exit id => exact q
    | goto l => exact q
    | ret => exact q
    | panic c => exact q
    | outgrown => exact q

/-- the frame in the outer loop -/
structure FO (w : World) (j : Int) (t : Array Value) : Prop where
  hs : t.size = 236
  s1 : t.getD 1 undef = .pointer (some ⟨w.heap.size, 0, none⟩)
  s76 : t.getD 76 undef = .slice (some ⟨w.heap.size + 1, 0, none⟩) 4 4
  s77 : t.getD 77 undef = .int .i64 4
  s78 : t.getD 78 undef = .int .i64 j
theorem FO.set {w : World} {j : Int} {t : Array Value} (h : FO w j t) (d : Nat) (v : Value) (hd : d ≠ 1 ∧ d ≠ 76 ∧ d ≠ 77 ∧ d ≠ 78) : FO w j (t.setIfInBounds d v) :=
  ⟨by simpa using h.hs, by rw [set_ne hd.1]; exact h.s1, by rw [set_ne hd.2.1]; exact h.s76, by rw [set_ne hd.2.2.1]; exact h.s77, by rw [set_ne hd.2.2.2]; exact h.s78⟩
theorem FI.fo {w : World} {j : Int} {sl : Value} {n : Int} {t : Array Value} (h : FI w j sl n t) : FO w j t := ⟨h.hs, h.s1, h.s76, h.s77, h.s78⟩

/-- behind a statement of the outer loop -/
structure So (w : World) (j : Int) (W : World → Prop) (ex : Array Value → Prop) (a : Act) (v : World) : Prop where
  ww : W v
  d : a.defers = []
  f : FO w j a.tmps
  e : ex a.tmps
structure UpO (w : World) (j : Int) (W : World → Prop) (e : Exit) (a : Act) (v : World) : Prop where
  n : e = .normal
  s : So w j W Any a v
structure Sn (w : World) (j : Int) (sl : Value) (n : Int) (W : World → Prop) (a : Act) (v : World) : Prop where
  ww : W v
  d : a.defers = []
  f : FI w j sl n a.tmps
  e : SlotIs 93 (.int .i64 0) a.tmps

set_option maxRecDepth 100000 in
set_option maxHeartbeats 1000000 in
theorem outer_0 (w w0 wr : World) (a : Act) (K : Act → World → Prop) (Q : Exit → Act → World → Prop) (hQ : Blind Q) (A : Option Addr) (L : List Int) (cap : Nat) (hz : w.heap.size + 1 < w0.heap.size)
    (ho : w0.cell? ⟨w.heap.size + 1, 0, none⟩ = some (.slice A L.length cap))
    (F : FO w 0 a.tmps) (hd : a.defers = []) (hb : Below w0.heap.size w0 wr) (hI : IntsIn w0 A L) (hl : L.length ≤ maxLen)
    (hret : ∀ (v : Int) a' w', a'.defers = [] → a'.tmps.size = 236 → a'.tmps.getD 2 undef = .int .i64 v → Below w0.heap.size w0 w' → v = Rul.chkL Rul.inM Rul.cmpI L → v ≠ 0 → Q .ret a' w')
    (hnext : ∀ a' w', a'.defers = [] → FO w 1 a'.tmps → Below w0.heap.size w0 w' → Rul.chkL Rul.inM Rul.cmpI L = 0 → K a' w') :
    outerBody.wp Tryd.prog (Exit.then K Q) a wr := by
  unfold maxLen at hl
  conv => arg 2; whnf
  refine wp_seq ?_
  refine cut_at (So w 0 (IsW wr) (SlotIs 79 (.bool true))) ?c1 ?c2
  case c1 =>
    have hs := F.hs
    have g78 := getD_arr F.s78
    have g77 := getD_arr F.s77
    have F78 := F.s78
    have F77 := F.s77
    go_wp2_with fail
    exact ⟨rfl, by first | rfl | exact hd, F.set 79 _ (by decide), by unfold SlotIs; rw [set_get (by simp [hs])]⟩
  case c2 =>
  clear F hd a
  rintro a _ ⟨rfl, hd, F, h79⟩
  refine wp_seq ?_
  refine wp_cond_true (eval_tmp h79) ?_
  refine wp_skip ?_
  refine wp_seq ?_
  clear h79
  refine cut_at (fun a' w' => So w 0 (Below w0.heap.size w0) Any a' w' ∧ Hid (Rul.chkL Rul.inM Rul.cmpI L = 0)) ?c3 ?c4
  case c4 =>
    rintro a2 w2 ⟨⟨hb2, hd2, F2, _⟩, hst⟩
    have hs := F2.hs
    have g78 := getD_arr F2.s78
    have F78 := F2.s78
    refine wp_mono (Q := UpO w 1 (Below w0.heap.size w0)) ?c5 ?c6
    case c5 =>
      go_wp2_with fail
      refine ⟨rfl, ⟨hb2, by first | rfl | exact hd2, ⟨by simp [hs], ?_, ?_, ?_, ?_⟩, trivial⟩⟩
      · rw [set_ne (by decide), set_ne (by decide)]; exact F2.s1
      · rw [set_ne (by decide), set_ne (by decide)]; exact F2.s76
      · rw [set_ne (by decide), set_ne (by decide)]; exact F2.s77
      · rw [set_get (by simp [hs])]
    case c6 =>
      rintro e a3 w3 ⟨rfl, ⟨hb3, hd3, F3, _⟩⟩
      exact hnext a3 w3 hd3 F3 hb3 hst.out
  case c3 =>
  refine wp_block ?_
  refine wp_seq ?_
  refine cut_at (So w 0 (IsW wr) (fun t => SlotIs 3 (.int .i64 0) t ∧ SlotIs 4 (.slice A L.length cap) t)) ?c7 ?c8
  case c7 =>
    have hs := F.hs
    have g78 := getD_arr F.s78
    have g76 := getD_arr F.s76
    have F78 := F.s78
    have F76 := F.s76
    have hor : wr.cell? ⟨w.heap.size + 1, 0, none⟩ = some (.slice A L.length cap) := (hb.cell (p := ⟨w.heap.size + 1, 0, none⟩) hz).trans ho
    go_wp2_with fail
    exact ⟨rfl, by first | rfl | exact hd, ((((F.set 80 _ (by decide)).set 81 _ (by decide)).set 82 _ (by decide)).set 3 _ (by decide)).set 4 _ (by decide), by unfold SlotIs; rw [set_ne (by decide), set_get (by simp [hs])], by unfold SlotIs; rw [set_get (by simp [hs])]⟩
  case c8 =>
  rintro a1 _ ⟨rfl, hd1, F1, h31, h41⟩
  clear F hd a
  have h41' : a1.tmps.getD 4 undef = (.slice A L.length cap) := h41
  refine wp_seq ?_
  refine cut_at (So w 0 (IsW wr) (fun t => SlotIs 3 (.int .i64 0) t ∧ SlotIs 4 (.slice A L.length cap) t ∧ SlotIs 5 (.int .i64 L.length) t)) ?c9 ?c10
  case c9 =>
    have hs := F1.hs
    have g4 := getD_arr h41'
    go_wp2_with fail
    exact ⟨rfl, by first | rfl | exact hd1, (((F1.set 83 _ (by decide)).set 84 _ (by decide)).set 5 _ (by decide)), by unfold SlotIs; rw [set_ne (by decide), set_ne (by decide), set_ne (by decide)]; exact h31, by unfold SlotIs; rw [set_ne (by decide), set_ne (by decide), set_ne (by decide)]; exact h41, by unfold SlotIs; rw [set_get (by simp [hs])]⟩
  case c10 =>
  rintro a2 _ ⟨rfl, hd2, F2, h32, h42, h52⟩
  clear F1 hd1 h31 h41 h41' a1
  refine wp_seq ?_
  refine cut_at (So w 0 (IsW wr) (fun t => SlotIs 3 (.int .i64 0) t ∧ SlotIs 4 (.slice A L.length cap) t ∧ SlotIs 5 (.int .i64 L.length) t)) ?c11 ?c12
  case c11 =>
    refine wp_seq ?_
    refine cut_at (So w 0 (IsW wr) (fun t => SlotIs 3 (.int .i64 0) t ∧ SlotIs 4 (.slice A L.length cap) t ∧ SlotIs 5 (.int .i64 L.length) t ∧ SlotIs 86 (.bool false) t)) ?c13 ?c14
    case c13 =>
      have hs := F2.hs
      have h32' : a2.tmps.getD 3 undef = .int .i64 0 := h32
      have g3 := getD_arr h32'
      go_wp2_with fail
      exact ⟨rfl, by first | rfl | exact hd2, ((F2.set 85 _ (by decide)).set 86 _ (by decide)), by unfold SlotIs; rw [set_ne (by decide), set_ne (by decide)]; exact h32, by unfold SlotIs; rw [set_ne (by decide), set_ne (by decide)]; exact h42, by unfold SlotIs; rw [set_ne (by decide), set_ne (by decide)]; exact h52, by unfold SlotIs; rw [set_get (by simp [hs])]⟩
    case c14 =>
    rintro a3 _ ⟨rfl, hd3, F3, h33, h43, h53, h86⟩
    refine wp_cond_false (eval_tmp h86) ?_
    refine wp_skip ?_
    exact ⟨rfl, hd3, F3, h33, h43, h53⟩
  case c12 =>
  clear F2 hd2 h32 h42 h52 a2
  rintro a3 _ ⟨rfl, hd3, F3, h33, h43, h53⟩
  have h53' : a3.tmps.getD 5 undef = .int .i64 L.length := h53
  refine wp_seq ?_
  refine wp_seq ?_
  refine cut_at (So w 0 (IsW wr) (fun t => SlotIs 3 (.int .i64 0) t ∧ SlotIs 4 (.slice A L.length cap) t ∧ SlotIs 5 (.int .i64 L.length) t ∧ SlotIs 91 (.bool (decide (64 < L.length))) t)) ?c15 ?c16
  case c15 =>
    have hs := F3.hs
    have g5 := getD_arr h53'
    go_wp2_with fail
    exact ⟨rfl, by first | rfl | exact hd3, ((F3.set 90 _ (by decide)).set 91 _ (by decide)), by unfold SlotIs; rw [set_ne (by decide), set_ne (by decide)]; exact h33, by unfold SlotIs; rw [set_ne (by decide), set_ne (by decide)]; exact h43, by unfold SlotIs; rw [set_ne (by decide), set_ne (by decide)]; exact h53, by unfold SlotIs; rw [set_get (by simp [hs])]; first | rfl | (congr 1; rw [Bool.eq_iff_iff]; simp; omega)⟩
  case c16 =>
  clear F3 hd3 h33 h43 h53 h53' a3
  rintro a3 _ ⟨rfl, hd3, F3, h33, h43, h53, h91⟩
  by_cases h64 : 64 < L.length
  · refine wp_cond_true (eval_tmp (h91.trans (by rw [decide_eq_true h64]))) ?_
    refine wp_seq ?_
    refine cut_at (So w 0 (IsW wr) (SlotIs 2 (.int .i64 2))) ?c17 ?c18
    case c17 =>
      have hs := F3.hs
      go_wp2_with fail
      exact ⟨rfl, by first | rfl | exact hd3, F3.set 2 _ (by decide), by unfold SlotIs; rw [set_get (by simp [hs])]⟩
    case c18 =>
      rintro a5 _ ⟨rfl, hd5, F5, h2⟩
      refine wp_ret ?_
      exact hret 2 a5 wr hd5 F5.hs h2 hb (Rul.chkL_long h64).symm (by decide)
  · refine wp_cond_false (eval_tmp (h91.trans (by rw [decide_eq_false h64]))) ?_
    refine wp_skip ?_
    refine wp_seq ?_
    have h53' : a3.tmps.getD 5 undef = .int .i64 L.length := h53
    have ek := Rul.chkL_short (p := Rul.inM) (c := Rul.cmpI) (l := L) (by omega)
    refine cut_at (Sn w 0 (.slice A L.length cap) L.length (IsW wr)) ?c22 ?c23
    case c22 =>
      have hs := F3.hs
      have g5 := getD_arr h53'
      clear h91 ek
      go_wp2_with fail
      refine ⟨rfl, by first | rfl | exact hd3, ⟨by simp [hs], ?_, ?_, ?_, ?_, ?_, ?_, ?_⟩, by unfold SlotIs; rw [set_get (by simp [hs])]⟩
      · rw [set_ne (by decide), set_ne (by decide)]; exact F3.s1
      · rw [set_ne (by decide), set_ne (by decide)]; exact h33
      · rw [set_ne (by decide), set_ne (by decide)]; exact h43
      · rw [set_ne (by decide), set_ne (by decide)]; exact F3.s76
      · rw [set_ne (by decide), set_ne (by decide)]; exact F3.s77
      · rw [set_ne (by decide), set_ne (by decide)]; exact F3.s78
      · rw [set_ne (by decide), set_get (by simp [hs])]
    case c23 =>
      rintro a5 _ ⟨rfl, hd5, F5, h935⟩
      refine then_self ?_
      refine inner_0 w w0 wr _ _ _ (blind_block (blind_then hQ)) A L cap F5 hd5 h935 (by omega) hb hI ?_ ?_
      · intro v a' w' k1 k2 k3 k4 k5 k6
        exact hret v a' w' k1 k2 k3 k4 (k5.trans ek.symm) k6
      · intro a' w' k1 k2 k3 k4
        exact ⟨⟨k3, k1, k2.fo, trivial⟩, Lib.hid (ek.trans k4)⟩

set_option maxRecDepth 100000 in
set_option maxHeartbeats 1000000 in
theorem outer_1 (w w0 wr : World) (a : Act) (K : Act → World → Prop) (Q : Exit → Act → World → Prop) (hQ : Blind Q) (A : Option Addr) (L : List Int) (cap : Nat) (hz : w.heap.size + 1 < w0.heap.size)
    (ho : w0.cell? ⟨w.heap.size + 1, 1, none⟩ = some (.slice A L.length cap))
    (F : FO w 1 a.tmps) (hd : a.defers = []) (hb : Below w0.heap.size w0 wr) (hI : IntsIn w0 A L) (hl : L.length ≤ maxLen)
    (hret : ∀ (v : Int) a' w', a'.defers = [] → a'.tmps.size = 236 → a'.tmps.getD 2 undef = .int .i64 v → Below w0.heap.size w0 w' → v = Rul.chkL Rul.inD Rul.cmpI L → v ≠ 0 → Q .ret a' w')
    (hnext : ∀ a' w', a'.defers = [] → FO w 2 a'.tmps → Below w0.heap.size w0 w' → Rul.chkL Rul.inD Rul.cmpI L = 0 → K a' w') :
    outerBody.wp Tryd.prog (Exit.then K Q) a wr := by
  unfold maxLen at hl
  conv => arg 2; whnf
  refine wp_seq ?_
  refine cut_at (So w 1 (IsW wr) (SlotIs 79 (.bool true))) ?c1 ?c2
  case c1 =>
    have hs := F.hs
    have g78 := getD_arr F.s78
    have g77 := getD_arr F.s77
    have F78 := F.s78
    have F77 := F.s77
    go_wp2_with fail
    exact ⟨rfl, by first | rfl | exact hd, F.set 79 _ (by decide), by unfold SlotIs; rw [set_get (by simp [hs])]⟩
  case c2 =>
  clear F hd a
  rintro a _ ⟨rfl, hd, F, h79⟩
  refine wp_seq ?_
  refine wp_cond_true (eval_tmp h79) ?_
  refine wp_skip ?_
  refine wp_seq ?_
  clear h79
  refine cut_at (fun a' w' => So w 1 (Below w0.heap.size w0) Any a' w' ∧ Hid (Rul.chkL Rul.inD Rul.cmpI L = 0)) ?c3 ?c4
  case c4 =>
    rintro a2 w2 ⟨⟨hb2, hd2, F2, _⟩, hst⟩
    have hs := F2.hs
    have g78 := getD_arr F2.s78
    have F78 := F2.s78
    refine wp_mono (Q := UpO w 2 (Below w0.heap.size w0)) ?c5 ?c6
    case c5 =>
      go_wp2_with fail
      refine ⟨rfl, ⟨hb2, by first | rfl | exact hd2, ⟨by simp [hs], ?_, ?_, ?_, ?_⟩, trivial⟩⟩
      · rw [set_ne (by decide), set_ne (by decide)]; exact F2.s1
      · rw [set_ne (by decide), set_ne (by decide)]; exact F2.s76
      · rw [set_ne (by decide), set_ne (by decide)]; exact F2.s77
      · rw [set_get (by simp [hs])]
    case c6 =>
      rintro e a3 w3 ⟨rfl, ⟨hb3, hd3, F3, _⟩⟩
      exact hnext a3 w3 hd3 F3 hb3 hst.out
  case c3 =>
  refine wp_block ?_
  refine wp_seq ?_
  refine cut_at (So w 1 (IsW wr) (fun t => SlotIs 3 (.int .i64 1) t ∧ SlotIs 4 (.slice A L.length cap) t)) ?c7 ?c8
  case c7 =>
    have hs := F.hs
    have g78 := getD_arr F.s78
    have g76 := getD_arr F.s76
    have F78 := F.s78
    have F76 := F.s76
    have hor : wr.cell? ⟨w.heap.size + 1, 1, none⟩ = some (.slice A L.length cap) := (hb.cell (p := ⟨w.heap.size + 1, 1, none⟩) hz).trans ho
    go_wp2_with fail
    exact ⟨rfl, by first | rfl | exact hd, ((((F.set 80 _ (by decide)).set 81 _ (by decide)).set 82 _ (by decide)).set 3 _ (by decide)).set 4 _ (by decide), by unfold SlotIs; rw [set_ne (by decide), set_get (by simp [hs])], by unfold SlotIs; rw [set_get (by simp [hs])]⟩
  case c8 =>
  rintro a1 _ ⟨rfl, hd1, F1, h31, h41⟩
  clear F hd a
  have h41' : a1.tmps.getD 4 undef = (.slice A L.length cap) := h41
  refine wp_seq ?_
  refine cut_at (So w 1 (IsW wr) (fun t => SlotIs 3 (.int .i64 1) t ∧ SlotIs 4 (.slice A L.length cap) t ∧ SlotIs 5 (.int .i64 L.length) t)) ?c9 ?c10
  case c9 =>
    have hs := F1.hs
    have g4 := getD_arr h41'
    go_wp2_with fail
    exact ⟨rfl, by first | rfl | exact hd1, (((F1.set 83 _ (by decide)).set 84 _ (by decide)).set 5 _ (by decide)), by unfold SlotIs; rw [set_ne (by decide), set_ne (by decide), set_ne (by decide)]; exact h31, by unfold SlotIs; rw [set_ne (by decide), set_ne (by decide), set_ne (by decide)]; exact h41, by unfold SlotIs; rw [set_get (by simp [hs])]⟩
  case c10 =>
  rintro a2 _ ⟨rfl, hd2, F2, h32, h42, h52⟩
  clear F1 hd1 h31 h41 h41' a1
  refine wp_seq ?_
  refine cut_at (So w 1 (IsW wr) (fun t => SlotIs 3 (.int .i64 1) t ∧ SlotIs 4 (.slice A L.length cap) t ∧ SlotIs 5 (.int .i64 L.length) t)) ?c11 ?c12
  case c11 =>
    refine wp_seq ?_
    refine cut_at (So w 1 (IsW wr) (fun t => SlotIs 3 (.int .i64 1) t ∧ SlotIs 4 (.slice A L.length cap) t ∧ SlotIs 5 (.int .i64 L.length) t ∧ SlotIs 86 (.bool false) t)) ?c13 ?c14
    case c13 =>
      have hs := F2.hs
      have h32' : a2.tmps.getD 3 undef = .int .i64 1 := h32
      have g3 := getD_arr h32'
      go_wp2_with fail
      exact ⟨rfl, by first | rfl | exact hd2, ((F2.set 85 _ (by decide)).set 86 _ (by decide)), by unfold SlotIs; rw [set_ne (by decide), set_ne (by decide)]; exact h32, by unfold SlotIs; rw [set_ne (by decide), set_ne (by decide)]; exact h42, by unfold SlotIs; rw [set_ne (by decide), set_ne (by decide)]; exact h52, by unfold SlotIs; rw [set_get (by simp [hs])]⟩
    case c14 =>
    rintro a3 _ ⟨rfl, hd3, F3, h33, h43, h53, h86⟩
    refine wp_cond_false (eval_tmp h86) ?_
    refine wp_skip ?_
    exact ⟨rfl, hd3, F3, h33, h43, h53⟩
  case c12 =>
  clear F2 hd2 h32 h42 h52 a2
  rintro a3 _ ⟨rfl, hd3, F3, h33, h43, h53⟩
  have h53' : a3.tmps.getD 5 undef = .int .i64 L.length := h53
  refine wp_seq ?_
  refine wp_seq ?_
  refine cut_at (So w 1 (IsW wr) (fun t => SlotIs 3 (.int .i64 1) t ∧ SlotIs 4 (.slice A L.length cap) t ∧ SlotIs 5 (.int .i64 L.length) t ∧ SlotIs 91 (.bool (decide (64 < L.length))) t)) ?c15 ?c16
  case c15 =>
    have hs := F3.hs
    have g5 := getD_arr h53'
    go_wp2_with fail
    exact ⟨rfl, by first | rfl | exact hd3, ((F3.set 90 _ (by decide)).set 91 _ (by decide)), by unfold SlotIs; rw [set_ne (by decide), set_ne (by decide)]; exact h33, by unfold SlotIs; rw [set_ne (by decide), set_ne (by decide)]; exact h43, by unfold SlotIs; rw [set_ne (by decide), set_ne (by decide)]; exact h53, by unfold SlotIs; rw [set_get (by simp [hs])]; first | rfl | (congr 1; rw [Bool.eq_iff_iff]; simp; omega)⟩
  case c16 =>
  clear F3 hd3 h33 h43 h53 h53' a3
  rintro a3 _ ⟨rfl, hd3, F3, h33, h43, h53, h91⟩
  by_cases h64 : 64 < L.length
  · refine wp_cond_true (eval_tmp (h91.trans (by rw [decide_eq_true h64]))) ?_
    refine wp_seq ?_
    refine cut_at (So w 1 (IsW wr) (SlotIs 2 (.int .i64 2))) ?c17 ?c18
    case c17 =>
      have hs := F3.hs
      go_wp2_with fail
      exact ⟨rfl, by first | rfl | exact hd3, F3.set 2 _ (by decide), by unfold SlotIs; rw [set_get (by simp [hs])]⟩
    case c18 =>
      rintro a5 _ ⟨rfl, hd5, F5, h2⟩
      refine wp_ret ?_
      exact hret 2 a5 wr hd5 F5.hs h2 hb (Rul.chkL_long h64).symm (by decide)
  · refine wp_cond_false (eval_tmp (h91.trans (by rw [decide_eq_false h64]))) ?_
    refine wp_skip ?_
    refine wp_seq ?_
    have h53' : a3.tmps.getD 5 undef = .int .i64 L.length := h53
    have ek := Rul.chkL_short (p := Rul.inD) (c := Rul.cmpI) (l := L) (by omega)
    refine cut_at (Sn w 1 (.slice A L.length cap) L.length (IsW wr)) ?c22 ?c23
    case c22 =>
      have hs := F3.hs
      have g5 := getD_arr h53'
      clear h91 ek
      go_wp2_with fail
      refine ⟨rfl, by first | rfl | exact hd3, ⟨by simp [hs], ?_, ?_, ?_, ?_, ?_, ?_, ?_⟩, by unfold SlotIs; rw [set_get (by simp [hs])]⟩
      · rw [set_ne (by decide), set_ne (by decide)]; exact F3.s1
      · rw [set_ne (by decide), set_ne (by decide)]; exact h33
      · rw [set_ne (by decide), set_ne (by decide)]; exact h43
      · rw [set_ne (by decide), set_ne (by decide)]; exact F3.s76
      · rw [set_ne (by decide), set_ne (by decide)]; exact F3.s77
      · rw [set_ne (by decide), set_ne (by decide)]; exact F3.s78
      · rw [set_ne (by decide), set_get (by simp [hs])]
    case c23 =>
      rintro a5 _ ⟨rfl, hd5, F5, h935⟩
      refine then_self ?_
      refine inner_1 w w0 wr _ _ _ (blind_block (blind_then hQ)) A L cap F5 hd5 h935 (by omega) hb hI ?_ ?_
      · intro v a' w' k1 k2 k3 k4 k5 k6
        exact hret v a' w' k1 k2 k3 k4 (k5.trans ek.symm) k6
      · intro a' w' k1 k2 k3 k4
        exact ⟨⟨k3, k1, k2.fo, trivial⟩, Lib.hid (ek.trans k4)⟩

set_option maxRecDepth 100000 in
set_option maxHeartbeats 1000000 in
theorem outer_2 (w w0 wr : World) (a : Act) (K : Act → World → Prop) (Q : Exit → Act → World → Prop) (hQ : Blind Q) (A : Option Addr) (L : List (Int × Int)) (cap : Nat) (f : Int) (hf0 : 0 ≤ f) (hf4 : f < 4) (hx0 : w0.cell? ⟨w.heap.size, 0, none⟩ = some (.int .i64 f)) (hx6 : w0.cell? ⟨w.heap.size, 6, none⟩ = some (.slice A L.length cap)) (hz : w.heap.size + 1 < w0.heap.size)
    (ho : w0.cell? ⟨w.heap.size + 1, 2, none⟩ = some (.slice none 0 0))
    (F : FO w 2 a.tmps) (hd : a.defers = []) (hb : Below w0.heap.size w0 wr) (hI : NthsIn w0 A L) (hl : L.length ≤ maxLen)
    (hret : ∀ (v : Int) a' w', a'.defers = [] → a'.tmps.size = 236 → a'.tmps.getD 2 undef = .int .i64 v → Below w0.heap.size w0 w' → v = Rul.chkL (Rul.inW f) Rul.cmpN L → v ≠ 0 → Q .ret a' w')
    (hnext : ∀ a' w', a'.defers = [] → FO w 3 a'.tmps → Below w0.heap.size w0 w' → Rul.chkL (Rul.inW f) Rul.cmpN L = 0 → K a' w') :
    outerBody.wp Tryd.prog (Exit.then K Q) a wr := by
  unfold maxLen at hl
  conv => arg 2; whnf
  refine wp_seq ?_
  refine cut_at (So w 2 (IsW wr) (SlotIs 79 (.bool true))) ?c1 ?c2
  case c1 =>
    have hs := F.hs
    have g78 := getD_arr F.s78
    have g77 := getD_arr F.s77
    have F78 := F.s78
    have F77 := F.s77
    go_wp2_with fail
    exact ⟨rfl, by first | rfl | exact hd, F.set 79 _ (by decide), by unfold SlotIs; rw [set_get (by simp [hs])]⟩
  case c2 =>
  clear F hd a
  rintro a _ ⟨rfl, hd, F, h79⟩
  refine wp_seq ?_
  refine wp_cond_true (eval_tmp h79) ?_
  refine wp_skip ?_
  refine wp_seq ?_
  clear h79
  refine cut_at (fun a' w' => So w 2 (Below w0.heap.size w0) Any a' w' ∧ Hid (Rul.chkL (Rul.inW f) Rul.cmpN L = 0)) ?c3 ?c4
  case c4 =>
    rintro a2 w2 ⟨⟨hb2, hd2, F2, _⟩, hst⟩
    have hs := F2.hs
    have g78 := getD_arr F2.s78
    have F78 := F2.s78
    refine wp_mono (Q := UpO w 3 (Below w0.heap.size w0)) ?c5 ?c6
    case c5 =>
      go_wp2_with fail
      refine ⟨rfl, ⟨hb2, by first | rfl | exact hd2, ⟨by simp [hs], ?_, ?_, ?_, ?_⟩, trivial⟩⟩
      · rw [set_ne (by decide), set_ne (by decide)]; exact F2.s1
      · rw [set_ne (by decide), set_ne (by decide)]; exact F2.s76
      · rw [set_ne (by decide), set_ne (by decide)]; exact F2.s77
      · rw [set_get (by simp [hs])]
    case c6 =>
      rintro e a3 w3 ⟨rfl, ⟨hb3, hd3, F3, _⟩⟩
      exact hnext a3 w3 hd3 F3 hb3 hst.out
  case c3 =>
  refine wp_block ?_
  refine wp_seq ?_
  refine cut_at (So w 2 (IsW wr) (fun t => SlotIs 3 (.int .i64 2) t ∧ SlotIs 4 (.slice none 0 0) t)) ?c7 ?c8
  case c7 =>
    have hs := F.hs
    have g78 := getD_arr F.s78
    have g76 := getD_arr F.s76
    have F78 := F.s78
    have F76 := F.s76
    have hor : wr.cell? ⟨w.heap.size + 1, 2, none⟩ = some (.slice none 0 0) := (hb.cell (p := ⟨w.heap.size + 1, 2, none⟩) hz).trans ho
    go_wp2_with fail
    exact ⟨rfl, by first | rfl | exact hd, ((((F.set 80 _ (by decide)).set 81 _ (by decide)).set 82 _ (by decide)).set 3 _ (by decide)).set 4 _ (by decide), by unfold SlotIs; rw [set_ne (by decide), set_get (by simp [hs])], by unfold SlotIs; rw [set_get (by simp [hs])]⟩
  case c8 =>
  rintro a1 _ ⟨rfl, hd1, F1, h31, h41⟩
  clear F hd a
  have h41' : a1.tmps.getD 4 undef = (.slice none 0 0) := h41
  refine wp_seq ?_
  refine cut_at (So w 2 (IsW wr) (fun t => SlotIs 3 (.int .i64 2) t ∧ SlotIs 4 (.slice none 0 0) t ∧ SlotIs 5 (.int .i64 0) t)) ?c9 ?c10
  case c9 =>
    have hs := F1.hs
    have g4 := getD_arr h41'
    go_wp2_with fail
    exact ⟨rfl, by first | rfl | exact hd1, (((F1.set 83 _ (by decide)).set 84 _ (by decide)).set 5 _ (by decide)), by unfold SlotIs; rw [set_ne (by decide), set_ne (by decide), set_ne (by decide)]; exact h31, by unfold SlotIs; rw [set_ne (by decide), set_ne (by decide), set_ne (by decide)]; exact h41, by unfold SlotIs; rw [set_get (by simp [hs])]⟩
  case c10 =>
  rintro a2 _ ⟨rfl, hd2, F2, h32, h42, h52⟩
  clear F1 hd1 h31 h41 h41' a1
  refine wp_seq ?_
  refine cut_at (So w 2 (IsW wr) (fun t => SlotIs 3 (.int .i64 2) t ∧ SlotIs 4 (.slice none 0 0) t ∧ SlotIs 5 (.int .i64 L.length) t)) ?c11 ?c12
  case c11 =>
    refine wp_seq ?_
    refine cut_at (So w 2 (IsW wr) (fun t => SlotIs 3 (.int .i64 2) t ∧ SlotIs 4 (.slice none 0 0) t ∧ SlotIs 5 (.int .i64 0) t ∧ SlotIs 86 (.bool true) t)) ?c13 ?c14
    case c13 =>
      have hs := F2.hs
      have h32' : a2.tmps.getD 3 undef = .int .i64 2 := h32
      have g3 := getD_arr h32'
      go_wp2_with fail
      exact ⟨rfl, by first | rfl | exact hd2, ((F2.set 85 _ (by decide)).set 86 _ (by decide)), by unfold SlotIs; rw [set_ne (by decide), set_ne (by decide)]; exact h32, by unfold SlotIs; rw [set_ne (by decide), set_ne (by decide)]; exact h42, by unfold SlotIs; rw [set_ne (by decide), set_ne (by decide)]; exact h52, by unfold SlotIs; rw [set_get (by simp [hs])]⟩
    case c14 =>
    rintro a3 _ ⟨rfl, hd3, F3, h33, h43, h53, h86⟩
    refine wp_cond_true (eval_tmp h86) ?_
    clear h86
    refine then_self ?_
    refine cut_at (So w 2 (IsW wr) (fun t => SlotIs 3 (.int .i64 2) t ∧ SlotIs 4 (.slice none 0 0) t ∧ SlotIs 5 (.int .i64 L.length) t)) ?c20 ?c21
    case c20 =>
      have hs := F3.hs
      have g1 := getD_arr F3.s1
      have F31 := F3.s1
      have hx6r : wr.cell? ⟨w.heap.size, 6, none⟩ = some (.slice A L.length cap) := (hb.cell (p := ⟨w.heap.size, 6, none⟩) (show w.heap.size < w0.heap.size by omega)).trans hx6
      go_wp2_with fail
      exact ⟨rfl, by first | rfl | exact hd3, ((((F3.set 87 _ (by decide)).set 88 _ (by decide)).set 89 _ (by decide)).set 5 _ (by decide)), by unfold SlotIs; rw [set_ne (by decide), set_ne (by decide), set_ne (by decide), set_ne (by decide)]; exact h33, by unfold SlotIs; rw [set_ne (by decide), set_ne (by decide), set_ne (by decide), set_ne (by decide)]; exact h43, by unfold SlotIs; rw [set_get (by simp [hs])]⟩
    case c21 => exact fun _ _ h => h
  case c12 =>
  clear F2 hd2 h32 h42 h52 a2
  rintro a3 _ ⟨rfl, hd3, F3, h33, h43, h53⟩
  have h53' : a3.tmps.getD 5 undef = .int .i64 L.length := h53
  refine wp_seq ?_
  refine wp_seq ?_
  refine cut_at (So w 2 (IsW wr) (fun t => SlotIs 3 (.int .i64 2) t ∧ SlotIs 4 (.slice none 0 0) t ∧ SlotIs 5 (.int .i64 L.length) t ∧ SlotIs 91 (.bool (decide (64 < L.length))) t)) ?c15 ?c16
  case c15 =>
    have hs := F3.hs
    have g5 := getD_arr h53'
    go_wp2_with fail
    exact ⟨rfl, by first | rfl | exact hd3, ((F3.set 90 _ (by decide)).set 91 _ (by decide)), by unfold SlotIs; rw [set_ne (by decide), set_ne (by decide)]; exact h33, by unfold SlotIs; rw [set_ne (by decide), set_ne (by decide)]; exact h43, by unfold SlotIs; rw [set_ne (by decide), set_ne (by decide)]; exact h53, by unfold SlotIs; rw [set_get (by simp [hs])]; first | rfl | (congr 1; rw [Bool.eq_iff_iff]; simp; omega)⟩
  case c16 =>
  clear F3 hd3 h33 h43 h53 h53' a3
  rintro a3 _ ⟨rfl, hd3, F3, h33, h43, h53, h91⟩
  by_cases h64 : 64 < L.length
  · refine wp_cond_true (eval_tmp (h91.trans (by rw [decide_eq_true h64]))) ?_
    refine wp_seq ?_
    refine cut_at (So w 2 (IsW wr) (SlotIs 2 (.int .i64 2))) ?c17 ?c18
    case c17 =>
      have hs := F3.hs
      go_wp2_with fail
      exact ⟨rfl, by first | rfl | exact hd3, F3.set 2 _ (by decide), by unfold SlotIs; rw [set_get (by simp [hs])]⟩
    case c18 =>
      rintro a5 _ ⟨rfl, hd5, F5, h2⟩
      refine wp_ret ?_
      exact hret 2 a5 wr hd5 F5.hs h2 hb (Rul.chkL_long h64).symm (by decide)
  · refine wp_cond_false (eval_tmp (h91.trans (by rw [decide_eq_false h64]))) ?_
    refine wp_skip ?_
    refine wp_seq ?_
    have h53' : a3.tmps.getD 5 undef = .int .i64 L.length := h53
    have ek := Rul.chkL_short (p := (Rul.inW f)) (c := Rul.cmpN) (l := L) (by omega)
    refine cut_at (Sn w 2 (.slice none 0 0) L.length (IsW wr)) ?c22 ?c23
    case c22 =>
      have hs := F3.hs
      have g5 := getD_arr h53'
      clear h91 ek
      go_wp2_with fail
      refine ⟨rfl, by first | rfl | exact hd3, ⟨by simp [hs], ?_, ?_, ?_, ?_, ?_, ?_, ?_⟩, by unfold SlotIs; rw [set_get (by simp [hs])]⟩
      · rw [set_ne (by decide), set_ne (by decide)]; exact F3.s1
      · rw [set_ne (by decide), set_ne (by decide)]; exact h33
      · rw [set_ne (by decide), set_ne (by decide)]; exact h43
      · rw [set_ne (by decide), set_ne (by decide)]; exact F3.s76
      · rw [set_ne (by decide), set_ne (by decide)]; exact F3.s77
      · rw [set_ne (by decide), set_ne (by decide)]; exact F3.s78
      · rw [set_ne (by decide), set_get (by simp [hs])]
    case c23 =>
      rintro a5 _ ⟨rfl, hd5, F5, h935⟩
      refine then_self ?_
      refine inner_2 w w0 wr _ _ _ (blind_block (blind_then hQ)) A L cap f hf0 hf4 (by omega) hx0 hx6 F5 hd5 h935 (by omega) hb hI ?_ ?_
      · intro v a' w' k1 k2 k3 k4 k5 k6
        exact hret v a' w' k1 k2 k3 k4 (k5.trans ek.symm) k6
      · intro a' w' k1 k2 k3 k4
        exact ⟨⟨k3, k1, k2.fo, trivial⟩, Lib.hid (ek.trans k4)⟩

set_option maxRecDepth 100000 in
set_option maxHeartbeats 1000000 in
theorem outer_3 (w w0 wr : World) (a : Act) (K : Act → World → Prop) (Q : Exit → Act → World → Prop) (hQ : Blind Q) (A : Option Addr) (L : List Int) (cap : Nat) (hz : w.heap.size + 1 < w0.heap.size)
    (ho : w0.cell? ⟨w.heap.size + 1, 3, none⟩ = some (.slice A L.length cap))
    (F : FO w 3 a.tmps) (hd : a.defers = []) (hb : Below w0.heap.size w0 wr) (hI : IntsIn w0 A L) (hl : L.length ≤ maxLen)
    (hret : ∀ (v : Int) a' w', a'.defers = [] → a'.tmps.size = 236 → a'.tmps.getD 2 undef = .int .i64 v → Below w0.heap.size w0 w' → v = Rul.chkL Rul.inP Rul.cmpI L → v ≠ 0 → Q .ret a' w')
    (hnext : ∀ a' w', a'.defers = [] → FO w 4 a'.tmps → Below w0.heap.size w0 w' → Rul.chkL Rul.inP Rul.cmpI L = 0 → K a' w') :
    outerBody.wp Tryd.prog (Exit.then K Q) a wr := by
  unfold maxLen at hl
  conv => arg 2; whnf
  refine wp_seq ?_
  refine cut_at (So w 3 (IsW wr) (SlotIs 79 (.bool true))) ?c1 ?c2
  case c1 =>
    have hs := F.hs
    have g78 := getD_arr F.s78
    have g77 := getD_arr F.s77
    have F78 := F.s78
    have F77 := F.s77
    go_wp2_with fail
    exact ⟨rfl, by first | rfl | exact hd, F.set 79 _ (by decide), by unfold SlotIs; rw [set_get (by simp [hs])]⟩
  case c2 =>
  clear F hd a
  rintro a _ ⟨rfl, hd, F, h79⟩
  refine wp_seq ?_
  refine wp_cond_true (eval_tmp h79) ?_
  refine wp_skip ?_
  refine wp_seq ?_
  clear h79
  refine cut_at (fun a' w' => So w 3 (Below w0.heap.size w0) Any a' w' ∧ Hid (Rul.chkL Rul.inP Rul.cmpI L = 0)) ?c3 ?c4
  case c4 =>
    rintro a2 w2 ⟨⟨hb2, hd2, F2, _⟩, hst⟩
    have hs := F2.hs
    have g78 := getD_arr F2.s78
    have F78 := F2.s78
    refine wp_mono (Q := UpO w 4 (Below w0.heap.size w0)) ?c5 ?c6
    case c5 =>
      go_wp2_with fail
      refine ⟨rfl, ⟨hb2, by first | rfl | exact hd2, ⟨by simp [hs], ?_, ?_, ?_, ?_⟩, trivial⟩⟩
      · rw [set_ne (by decide), set_ne (by decide)]; exact F2.s1
      · rw [set_ne (by decide), set_ne (by decide)]; exact F2.s76
      · rw [set_ne (by decide), set_ne (by decide)]; exact F2.s77
      · rw [set_get (by simp [hs])]
    case c6 =>
      rintro e a3 w3 ⟨rfl, ⟨hb3, hd3, F3, _⟩⟩
      exact hnext a3 w3 hd3 F3 hb3 hst.out
  case c3 =>
  refine wp_block ?_
  refine wp_seq ?_
  refine cut_at (So w 3 (IsW wr) (fun t => SlotIs 3 (.int .i64 3) t ∧ SlotIs 4 (.slice A L.length cap) t)) ?c7 ?c8
  case c7 =>
    have hs := F.hs
    have g78 := getD_arr F.s78
    have g76 := getD_arr F.s76
    have F78 := F.s78
    have F76 := F.s76
    have hor : wr.cell? ⟨w.heap.size + 1, 3, none⟩ = some (.slice A L.length cap) := (hb.cell (p := ⟨w.heap.size + 1, 3, none⟩) hz).trans ho
    go_wp2_with fail
    exact ⟨rfl, by first | rfl | exact hd, ((((F.set 80 _ (by decide)).set 81 _ (by decide)).set 82 _ (by decide)).set 3 _ (by decide)).set 4 _ (by decide), by unfold SlotIs; rw [set_ne (by decide), set_get (by simp [hs])], by unfold SlotIs; rw [set_get (by simp [hs])]⟩
  case c8 =>
  rintro a1 _ ⟨rfl, hd1, F1, h31, h41⟩
  clear F hd a
  have h41' : a1.tmps.getD 4 undef = (.slice A L.length cap) := h41
  refine wp_seq ?_
  refine cut_at (So w 3 (IsW wr) (fun t => SlotIs 3 (.int .i64 3) t ∧ SlotIs 4 (.slice A L.length cap) t ∧ SlotIs 5 (.int .i64 L.length) t)) ?c9 ?c10
  case c9 =>
    have hs := F1.hs
    have g4 := getD_arr h41'
    go_wp2_with fail
    exact ⟨rfl, by first | rfl | exact hd1, (((F1.set 83 _ (by decide)).set 84 _ (by decide)).set 5 _ (by decide)), by unfold SlotIs; rw [set_ne (by decide), set_ne (by decide), set_ne (by decide)]; exact h31, by unfold SlotIs; rw [set_ne (by decide), set_ne (by decide), set_ne (by decide)]; exact h41, by unfold SlotIs; rw [set_get (by simp [hs])]⟩
  case c10 =>
  rintro a2 _ ⟨rfl, hd2, F2, h32, h42, h52⟩
  clear F1 hd1 h31 h41 h41' a1
  refine wp_seq ?_
  refine cut_at (So w 3 (IsW wr) (fun t => SlotIs 3 (.int .i64 3) t ∧ SlotIs 4 (.slice A L.length cap) t ∧ SlotIs 5 (.int .i64 L.length) t)) ?c11 ?c12
  case c11 =>
    refine wp_seq ?_
    refine cut_at (So w 3 (IsW wr) (fun t => SlotIs 3 (.int .i64 3) t ∧ SlotIs 4 (.slice A L.length cap) t ∧ SlotIs 5 (.int .i64 L.length) t ∧ SlotIs 86 (.bool false) t)) ?c13 ?c14
    case c13 =>
      have hs := F2.hs
      have h32' : a2.tmps.getD 3 undef = .int .i64 3 := h32
      have g3 := getD_arr h32'
      go_wp2_with fail
      exact ⟨rfl, by first | rfl | exact hd2, ((F2.set 85 _ (by decide)).set 86 _ (by decide)), by unfold SlotIs; rw [set_ne (by decide), set_ne (by decide)]; exact h32, by unfold SlotIs; rw [set_ne (by decide), set_ne (by decide)]; exact h42, by unfold SlotIs; rw [set_ne (by decide), set_ne (by decide)]; exact h52, by unfold SlotIs; rw [set_get (by simp [hs])]⟩
    case c14 =>
    rintro a3 _ ⟨rfl, hd3, F3, h33, h43, h53, h86⟩
    refine wp_cond_false (eval_tmp h86) ?_
    refine wp_skip ?_
    exact ⟨rfl, hd3, F3, h33, h43, h53⟩
  case c12 =>
  clear F2 hd2 h32 h42 h52 a2
  rintro a3 _ ⟨rfl, hd3, F3, h33, h43, h53⟩
  have h53' : a3.tmps.getD 5 undef = .int .i64 L.length := h53
  refine wp_seq ?_
  refine wp_seq ?_
  refine cut_at (So w 3 (IsW wr) (fun t => SlotIs 3 (.int .i64 3) t ∧ SlotIs 4 (.slice A L.length cap) t ∧ SlotIs 5 (.int .i64 L.length) t ∧ SlotIs 91 (.bool (decide (64 < L.length))) t)) ?c15 ?c16
  case c15 =>
    have hs := F3.hs
    have g5 := getD_arr h53'
    go_wp2_with fail
    exact ⟨rfl, by first | rfl | exact hd3, ((F3.set 90 _ (by decide)).set 91 _ (by decide)), by unfold SlotIs; rw [set_ne (by decide), set_ne (by decide)]; exact h33, by unfold SlotIs; rw [set_ne (by decide), set_ne (by decide)]; exact h43, by unfold SlotIs; rw [set_ne (by decide), set_ne (by decide)]; exact h53, by unfold SlotIs; rw [set_get (by simp [hs])]; first | rfl | (congr 1; rw [Bool.eq_iff_iff]; simp; omega)⟩
  case c16 =>
  clear F3 hd3 h33 h43 h53 h53' a3
  rintro a3 _ ⟨rfl, hd3, F3, h33, h43, h53, h91⟩
  by_cases h64 : 64 < L.length
  · refine wp_cond_true (eval_tmp (h91.trans (by rw [decide_eq_true h64]))) ?_
    refine wp_seq ?_
    refine cut_at (So w 3 (IsW wr) (SlotIs 2 (.int .i64 2))) ?c17 ?c18
    case c17 =>
      have hs := F3.hs
      go_wp2_with fail
      exact ⟨rfl, by first | rfl | exact hd3, F3.set 2 _ (by decide), by unfold SlotIs; rw [set_get (by simp [hs])]⟩
    case c18 =>
      rintro a5 _ ⟨rfl, hd5, F5, h2⟩
      refine wp_ret ?_
      exact hret 2 a5 wr hd5 F5.hs h2 hb (Rul.chkL_long h64).symm (by decide)
  · refine wp_cond_false (eval_tmp (h91.trans (by rw [decide_eq_false h64]))) ?_
    refine wp_skip ?_
    refine wp_seq ?_
    have h53' : a3.tmps.getD 5 undef = .int .i64 L.length := h53
    have ek := Rul.chkL_short (p := Rul.inP) (c := Rul.cmpI) (l := L) (by omega)
    refine cut_at (Sn w 3 (.slice A L.length cap) L.length (IsW wr)) ?c22 ?c23
    case c22 =>
      have hs := F3.hs
      have g5 := getD_arr h53'
      clear h91 ek
      go_wp2_with fail
      refine ⟨rfl, by first | rfl | exact hd3, ⟨by simp [hs], ?_, ?_, ?_, ?_, ?_, ?_, ?_⟩, by unfold SlotIs; rw [set_get (by simp [hs])]⟩
      · rw [set_ne (by decide), set_ne (by decide)]; exact F3.s1
      · rw [set_ne (by decide), set_ne (by decide)]; exact h33
      · rw [set_ne (by decide), set_ne (by decide)]; exact h43
      · rw [set_ne (by decide), set_ne (by decide)]; exact F3.s76
      · rw [set_ne (by decide), set_ne (by decide)]; exact F3.s77
      · rw [set_ne (by decide), set_ne (by decide)]; exact F3.s78
      · rw [set_ne (by decide), set_get (by simp [hs])]
    case c23 =>
      rintro a5 _ ⟨rfl, hd5, F5, h935⟩
      refine then_self ?_
      refine inner_3 w w0 wr _ _ _ (blind_block (blind_then hQ)) A L cap F5 hd5 h935 (by omega) hb hI ?_ ?_
      · intro v a' w' k1 k2 k3 k4 k5 k6
        exact hret v a' w' k1 k2 k3 k4 (k5.trans ek.symm) k6
      · intro a' w' k1 k2 k3 k4
        exact ⟨⟨k3, k1, k2.fo, trivial⟩, Lib.hid (ek.trans k4)⟩
end Go.Proofs.YtoldjleojnlhiaaDoor
