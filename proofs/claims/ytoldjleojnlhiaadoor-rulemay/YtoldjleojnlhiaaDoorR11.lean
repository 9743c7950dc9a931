/-
  The law's Check: one round of its inner loop, at a list of numbers.
-/
import Derived.Test.YtoldjleojnlhiaaDoorR9
import Derived.Test.YtoldjleojnlhiaaDoorR10
namespace Go.Proofs.YtoldjleojnlhiaaDoor
open Go.RowKit

/-- behind a statement: the world, the frame, the round's number, one slot more -/
structure St (fi : Array Value → Prop) (W : World → Prop) (i : Nat) (ex : Array Value → Prop) (a : Act) (w : World) : Prop where
  w : W w
  d : a.defers = []
  f : fi a.tmps
  n : a.tmps.getD 93 undef = .int .i64 i
  e : ex a.tmps
def SlotIs (d : Nat) (v : Value) (t : Array Value) : Prop := t.getD d undef = v
def Any (_ : Array Value) : Prop := True
def IsW (v w : World) : Prop := v = w
/-- the loop's counter raised -/
structure Up (fi : Array Value → Prop) (W : World → Prop) (i : Nat) (e : Exit) (a : Act) (w : World) : Prop where
  n : e = .normal
  s : St fi W i Any a w
theorem ints_at {w : World} {ad : Addr} {L : List Int} (h : IntsIn w (some ad) L) (i : Nat) (hi : i < L.length) : ad.block < w.heap.size ∧ w.cell? (ad.add i) = some (.int .i64 L[i]) := by
  obtain ⟨ad', he, hb, hc⟩ := h i hi
  injection he with he
  subst he
  exact ⟨hb, hc⟩
theorem eval_tmp {a : Act} {t : Nat} {v : Value} (h : a.tmps.getD t undef = v) : a.eval (.tmp t) = v := h
theorem geq_cmp {x y : Int} : 0 ≤ Rul.cmpI y x ↔ x ≤ y := by unfold Rul.cmpI; split <;> (try split) <;> omega

set_option maxRecDepth 100000 in
set_option maxHeartbeats 1000000 in
theorem round_0 (w w0 wr : World) (a : Act) (K : Act → World → Prop) (Q : Exit → Act → World → Prop) (hQ : Blind Q) (ad : Addr) (L : List Int) (cap i : Nat)
    (F : FI w 0 (.slice (some ad) L.length cap) L.length a.tmps) (hd : a.defers = []) (h93 : a.tmps.getD 93 undef = .int .i64 i) (hlt : i < L.length) (h64 : L.length ≤ 64)
    (hb : Below w0.heap.size w0 wr) (hI : IntsIn w0 (some ad) L)
    (hret : ∀ (v : Int) a' w', a'.defers = [] → a'.tmps.size = 236 → a'.tmps.getD 2 undef = .int .i64 v → Below w0.heap.size w0 w' → v = Rul.step Rul.inM Rul.cmpI L i → v ≠ 0 → Q .ret a' w')
    (hnext : ∀ a' w', a'.defers = [] → FI w 0 (.slice (some ad) L.length cap) L.length a'.tmps → a'.tmps.getD 93 undef = .int .i64 (i + 1 : Nat) → Below w0.heap.size w0 w' → Rul.step Rul.inM Rul.cmpI L i = Rul.step Rul.inM Rul.cmpI L (i + 1) → K a' w') :
    innerBody.wp Tryd.prog (Exit.then K Q) a wr := by
  have hs := F.hs
  have g92 := getD_arr F.s92
  have g93 := getD_arr h93
  have F92 := F.s92
  conv => arg 2; whnf
  refine wp_seq ?_
  refine cut_at (St (FI w 0 (.slice (some ad) L.length cap) L.length) (IsW wr) i (SlotIs 94 (.bool true))) ?c1 ?c2
  case c1 =>
    go_wp2_with fail
    exact ⟨rfl, by first | rfl | exact hd, F.set 94 _ (by decide), by rw [set_ne (by decide)]; exact h93, set_get (by rw [hs]; decide)⟩
  case c2 =>
  rintro a1 _ ⟨rfl, hd1, F1, h931, h94⟩
  clear g92 g93 F92 hs h93 F hd
  refine wp_seq ?_
  refine wp_cond_true (eval_tmp h94) ?_
  refine wp_skip ?_
  refine wp_seq ?_
  clear h94
  refine cut_at (fun a' w' => St (FI w 0 (.slice (some ad) L.length cap) L.length) (Below w0.heap.size w0) i Any a' w' ∧ Hid (Rul.step Rul.inM Rul.cmpI L i = Rul.step Rul.inM Rul.cmpI L (i + 1))) ?c3 ?c4
  case c4 =>
    rintro a2 w2 ⟨⟨hb2, hd2, F2, h932, _⟩, hst⟩
    have hs := F2.hs
    have g93 := getD_arr h932
    refine wp_mono (Q := Up (FI w 0 (.slice (some ad) L.length cap) L.length) (Below w0.heap.size w0) (i + 1)) ?c5 ?c6
    case c5 =>
      go_wp2_with fail
      refine ⟨rfl, ⟨hb2, by first | rfl | exact hd2, (F2.set 201 _ (by decide)).set 93 _ (by decide), ?_, trivial⟩⟩
      rw [set_get (by simp [hs])]
      go_num
    case c6 =>
      rintro e a3 w3 ⟨rfl, ⟨hb3, hd3, F3, h933, _⟩⟩
      exact hnext a3 w3 hd3 F3 h933 hb3 hst.out
  case c3 =>
  refine wp_block ?_
  refine wp_seq ?_
  refine cut_at (St (FI w 0 (.slice (some ad) L.length cap) L.length) (IsW wr) i (SlotIs 6 (.int .i64 i))) ?c7 ?c8
  case c7 =>
    have hs := F1.hs
    have g93 := getD_arr h931
    go_wp2_with fail
    exact ⟨rfl, by first | rfl | exact hd1, (F1.set 95 _ (by decide)).set 6 _ (by decide), by rw [set_ne (by decide), set_ne (by decide)]; exact h931, set_get (by simp [hs])⟩
  case c8 =>
  rintro a2 _ ⟨rfl, hd2, F2, h932, h62⟩
  clear h931 F1 hd1 a1
  refine wp_seq ?_
  refine cut_at (St (FI w 0 (.slice (some ad) L.length cap) L.length) (IsW wr) i (SlotIs 6 (.int .i64 i))) ?c9 ?c10
  case c9 =>
    have hs := F2.hs
    go_wp2_with fail
    exact ⟨rfl, by first | rfl | exact hd2, (F2.set 7 _ (by decide)).set 8 _ (by decide), by rw [set_ne (by decide), set_ne (by decide)]; exact h932, by unfold SlotIs; rw [set_ne (by decide), set_ne (by decide)]; exact h62⟩
  case c10 =>
  rintro a3 _ ⟨rfl, hd3, F3, h933, h63⟩
  clear h932 h62 F2 hd2 a2
  have h6 : a3.tmps.getD 6 undef = .int .i64 i := h63
  clear h63
  obtain ⟨hlb, hc0⟩ := ints_at hI i hlt
  have hc : wr.cell? (ad.add i) = some (.int .i64 L[i]) := (hb.cell (p := ad.add i) (by rw [block_add]; exact hlb)).trans hc0
  have hlw : (ad.add i).block < wr.heap.size := by rw [block_add]; exact Nat.lt_of_lt_of_le hlb hb.size
  have hcx : ∀ o, (wr.alloc o).cell? (ad.add i) = some (.int .i64 L[i]) := fun o => (World.cell?_alloc_lt wr o _ hlw).trans hc
  have hbx : ∀ o, Below w0.heap.size w0 (wr.alloc o).drew := fun o => (hb.alloc hb.size o).drew
  refine wp_seq ?_
  refine cut_at (St (FI w 0 (.slice (some ad) L.length cap) L.length) (Below w0.heap.size w0) i (fun t => SlotIs 7 (.bool (!(Rul.inM L[i]))) t ∧ SlotIs 8 (.bool (decide (0 < i ∧ 0 ≤ Rul.cmpI (L[i - 1]'(by omega)) L[i]))) t)) ?c11 ?c12
  case c11 =>
    refine wp_seq ?_
    refine cut_at (St (FI w 0 (.slice (some ad) L.length cap) L.length) (IsW wr) i (fun t => SlotIs 6 (.int .i64 i) t ∧ SlotIs 97 (.bool false) t)) ?c13 ?c14
    case c13 =>
      have hs := F3.hs
      have g3 := getD_arr F3.s3
      go_wp2_with fail
      exact ⟨rfl, by first | rfl | exact hd3, (F3.set 96 _ (by decide)).set 97 _ (by decide), by rw [set_ne (by decide), set_ne (by decide)]; exact h933, by unfold SlotIs; rw [set_ne (by decide), set_ne (by decide)]; exact h6, by unfold SlotIs; rw [set_get (by simp [hs])]⟩
    case c14 =>
    clear h6 h933 F3 hd3 a3
    rintro a3 _ ⟨rfl, hd3, F3, h933, h6, h97⟩
    refine wp_cond_false (eval_tmp h97) ?_
    clear h97
    refine wp_seq ?_
    refine cut_at (fun a' w' => ∃ (t : Array Value) (o : Obj), a' = ⟨t, a3.defers⟩ ∧ w' = (wr.alloc o).drew ∧ Keep 165 184 7 a3.tmps t ∧ SlotIs 7 (.bool (!(Rul.inM L[i]))) t ∧ Below w0.heap.size w0 w') ?c15 ?c16
    case c15 =>
      cases ho : out L[i] 12
      case true =>
        have e : Rul.inM L[i] = false := by revert ho; simp [out, Rul.inM, Rul.btw] <;> omega
        exact reg24_0out _ _ _ (blind_then (blind_then (blind_block (blind_then hQ)))) ad _ cap i L[i] F3.hs F3.s3 F3.s4 h6 hlt hc hcx (Lib.hid ho) fun t o k e7 => ⟨t, _, rfl, rfl, k, by rw [e]; exact e7, hbx o⟩
      case false =>
        by_cases hx : L[i] < 0
        · have e : Rul.inM L[i] = false := by simp [Rul.inM, Rul.btw]; omega
          exact reg24_0neg _ _ _ (blind_then (blind_then (blind_block (blind_then hQ)))) ad _ cap i L[i] F3.hs F3.s3 F3.s4 h6 hlt hc hcx (Lib.hid ho) hx fun t o k e7 => ⟨t, _, rfl, rfl, k, by rw [e]; exact e7, hbx o⟩
        · have e : Rul.inM L[i] = true := by revert ho; simp [out, Rul.inM, Rul.btw] <;> omega
          exact reg24_0in _ _ _ (blind_then (blind_then (blind_block (blind_then hQ)))) ad _ cap i L[i] F3.hs F3.s3 F3.s4 h6 hlt hc hcx (Lib.hid ho) hx fun t o k e7 => ⟨t, _, rfl, rfl, k, by rw [e]; exact e7, hbx o⟩
    case c16 =>
    rintro _ _ ⟨t, o, rfl, rfl, k, h7, hb4⟩
    have F4 := F3.keep k (by decide) (by decide)
    have h64' : t.getD 6 undef = .int .i64 i := (k.2 6 (by decide) (by decide)).trans h6
    have h934 : t.getD 93 undef = .int .i64 i := (k.2 93 (by decide) (by decide)).trans h933
    have hc4 : (wr.alloc o).drew.cell? (ad.add i) = some (.int .i64 L[i]) := hcx o
    have fin : ∀ (b : Bool) (u : Array Value), decide (0 < i ∧ 0 ≤ Rul.cmpI (L[i - 1]'(by omega)) L[i]) = b → Keep 185 198 8 t u → u.getD 8 undef = .bool b →
        St (FI w 0 (.slice (some ad) L.length cap) L.length) (Below w0.heap.size w0) i (fun t => SlotIs 7 (.bool (!(Rul.inM L[i]))) t ∧ SlotIs 8 (.bool (decide (0 < i ∧ 0 ≤ Rul.cmpI (L[i - 1]'(by omega)) L[i]))) t) ⟨u, a3.defers⟩ (wr.alloc o).drew.drew := fun b u e ku e8 =>
      ⟨hb4.drew, hd3, F4.keep ku (by decide) (by decide), (ku.2 93 (by decide) (by decide)).trans h934, (ku.2 7 (by decide) (by decide)).trans h7, by rw [e]; exact e8⟩
    by_cases h0 : 0 < i
    · obtain ⟨hlb1, hc1⟩ := ints_at hI (i - 1) (by omega)
      have hc5 : (wr.alloc o).drew.cell? (ad.add (i - 1)) = some (.int .i64 (L[i - 1]'(by omega))) :=
        (hb4.cell (p := ad.add (i - 1)) (by rw [block_add]; exact hlb1)).trans hc1
      by_cases hy : L[i] ≤ L[i - 1]'(by omega)
      · exact reg25_late _ _ _ (blind_then (blind_block (blind_then hQ))) ad _ cap i L[i] F4.hs F4.s4 h64' hlt h64 hc4 h0 _ hc5 hy fun u ku e8 => fin true u (by simp [h0, geq_cmp, hy]) ku e8
      · exact reg25_next _ _ _ (blind_then (blind_block (blind_then hQ))) ad _ cap i L[i] F4.hs F4.s4 h64' hlt h64 hc4 h0 _ hc5 (by omega) fun u ku e8 => fin false u (by simp [geq_cmp, hy]) ku e8
    · exact reg25_first _ _ _ (blind_then (blind_block (blind_then hQ))) ad _ cap i L[i] F4.hs F4.s4 h64' hc4 (by omega) fun u ku e8 => fin false u (by simp [h0]) ku e8
  case c12 =>
  clear h6 h933 F3 hd3 a3 hc hcx hbx hlw
  rintro a4 w4 ⟨hb4, hd4, F4, h934, h7, h8⟩
  have h7' : a4.tmps.getD 7 undef = .bool (!(Rul.inM L[i])) := h7
  have h8' : a4.tmps.getD 8 undef = .bool (decide (0 < i ∧ 0 ≤ Rul.cmpI (L[i - 1]'(by omega)) L[i])) := h8
  refine wp_seq ?_
  refine wp_seq ?_
  refine cut_at (St (FI w 0 (.slice (some ad) L.length cap) L.length) (IsW w4) i (fun t => SlotIs 199 (.bool (!(Rul.inM L[i]))) t ∧ SlotIs 8 (.bool (decide (0 < i ∧ 0 ≤ Rul.cmpI (L[i - 1]'(by omega)) L[i]))) t)) ?c17 ?c18
  case c17 =>
    have hs := F4.hs
    have g7 := getD_arr h7'
    go_wp2_with fail
    exact ⟨rfl, by first | rfl | exact hd4, F4.set 199 _ (by decide), by rw [set_ne (by decide)]; exact h934, by unfold SlotIs; rw [set_get (by simp [hs])], by unfold SlotIs; rw [set_ne (by decide)]; exact h8'⟩
  case c18 =>
  clear h7 h8 h7' h8' h934 F4 hd4 a4
  rintro a4 _ ⟨rfl, hd4, F4, h934, h199, h8⟩
  cases hp : Rul.inM L[i]
  · refine wp_cond_true (eval_tmp (h199.trans (by rw [hp]; rfl))) ?_
    refine wp_seq ?_
    refine cut_at (St (FI w 0 (.slice (some ad) L.length cap) L.length) (IsW w4) i (SlotIs 2 (.int .i64 3))) ?c19 ?c20
    case c19 =>
      have hs := F4.hs
      go_wp2_with fail
      exact ⟨rfl, by first | rfl | exact hd4, F4.set 2 _ (by decide), by rw [set_ne (by decide)]; exact h934, by unfold SlotIs; rw [set_get (by simp [hs])]⟩
    case c20 =>
      rintro a5 _ ⟨rfl, hd5, F5, h935, h2⟩
      refine wp_ret ?_
      exact hret 3 a5 w4 hd5 F5.hs h2 hb4 (Rul.step_range hlt hp).symm (by decide)
  · refine wp_cond_false (eval_tmp (h199.trans (by rw [hp]; rfl))) ?_
    refine wp_skip ?_
    refine wp_seq ?_
    have h8' : a4.tmps.getD 8 undef = .bool (decide (0 < i ∧ 0 ≤ Rul.cmpI (L[i - 1]'(by omega)) L[i])) := h8
    refine cut_at (St (FI w 0 (.slice (some ad) L.length cap) L.length) (IsW w4) i (SlotIs 200 (.bool (decide (0 < i ∧ 0 ≤ Rul.cmpI (L[i - 1]'(by omega)) L[i]))))) ?c21 ?c22
    case c21 =>
      have hs := F4.hs
      have g8 := getD_arr h8'
      go_wp2_with fail
      exact ⟨rfl, by first | rfl | exact hd4, F4.set 200 _ (by decide), by rw [set_ne (by decide)]; exact h934, by unfold SlotIs; rw [set_get (by simp [hs])]; simp⟩
    case c22 =>
    clear h8 h8' h199 h934 F4 hd4 a4
    rintro a4 _ ⟨rfl, hd4, F4, h934, h200⟩
    by_cases hl : 0 < i ∧ 0 ≤ Rul.cmpI (L[i - 1]'(by omega)) L[i]
    · refine wp_cond_true (eval_tmp (h200.trans (by rw [decide_eq_true hl]))) ?_
      refine wp_seq ?_
      refine cut_at (St (FI w 0 (.slice (some ad) L.length cap) L.length) (IsW w4) i (SlotIs 2 (.int .i64 4))) ?c23 ?c24
      case c23 =>
        have hs := F4.hs
        go_wp2_with fail
        exact ⟨rfl, by first | rfl | exact hd4, F4.set 2 _ (by decide), by rw [set_ne (by decide)]; exact h934, by unfold SlotIs; rw [set_get (by simp [hs])]⟩
      case c24 =>
        rintro a5 _ ⟨rfl, hd5, F5, h935, h2⟩
        refine wp_ret ?_
        exact hret 4 a5 w4 hd5 F5.hs h2 hb4 (Rul.step_order hlt hp hl.1 hl.2).symm (by decide)
    · refine wp_cond_false (eval_tmp (h200.trans (by rw [decide_eq_false hl]))) ?_
      refine wp_skip ?_
      refine ⟨⟨hb4, hd4, F4, h934, trivial⟩, Lib.hid ?_⟩
      by_cases h0 : 0 < i
      · exact Rul.step_next hlt hp h0 (by omega)
      · obtain rfl : i = 0 := by omega
        exact Rul.step_first hlt hp

set_option maxRecDepth 100000 in
set_option maxHeartbeats 1000000 in
theorem round_1 (w w0 wr : World) (a : Act) (K : Act → World → Prop) (Q : Exit → Act → World → Prop) (hQ : Blind Q) (ad : Addr) (L : List Int) (cap i : Nat)
    (F : FI w 1 (.slice (some ad) L.length cap) L.length a.tmps) (hd : a.defers = []) (h93 : a.tmps.getD 93 undef = .int .i64 i) (hlt : i < L.length) (h64 : L.length ≤ 64)
    (hb : Below w0.heap.size w0 wr) (hI : IntsIn w0 (some ad) L)
    (hret : ∀ (v : Int) a' w', a'.defers = [] → a'.tmps.size = 236 → a'.tmps.getD 2 undef = .int .i64 v → Below w0.heap.size w0 w' → v = Rul.step Rul.inD Rul.cmpI L i → v ≠ 0 → Q .ret a' w')
    (hnext : ∀ a' w', a'.defers = [] → FI w 1 (.slice (some ad) L.length cap) L.length a'.tmps → a'.tmps.getD 93 undef = .int .i64 (i + 1 : Nat) → Below w0.heap.size w0 w' → Rul.step Rul.inD Rul.cmpI L i = Rul.step Rul.inD Rul.cmpI L (i + 1) → K a' w') :
    innerBody.wp Tryd.prog (Exit.then K Q) a wr := by
  have hs := F.hs
  have g92 := getD_arr F.s92
  have g93 := getD_arr h93
  have F92 := F.s92
  conv => arg 2; whnf
  refine wp_seq ?_
  refine cut_at (St (FI w 1 (.slice (some ad) L.length cap) L.length) (IsW wr) i (SlotIs 94 (.bool true))) ?c1 ?c2
  case c1 =>
    go_wp2_with fail
    exact ⟨rfl, by first | rfl | exact hd, F.set 94 _ (by decide), by rw [set_ne (by decide)]; exact h93, set_get (by rw [hs]; decide)⟩
  case c2 =>
  rintro a1 _ ⟨rfl, hd1, F1, h931, h94⟩
  clear g92 g93 F92 hs h93 F hd
  refine wp_seq ?_
  refine wp_cond_true (eval_tmp h94) ?_
  refine wp_skip ?_
  refine wp_seq ?_
  clear h94
  refine cut_at (fun a' w' => St (FI w 1 (.slice (some ad) L.length cap) L.length) (Below w0.heap.size w0) i Any a' w' ∧ Hid (Rul.step Rul.inD Rul.cmpI L i = Rul.step Rul.inD Rul.cmpI L (i + 1))) ?c3 ?c4
  case c4 =>
    rintro a2 w2 ⟨⟨hb2, hd2, F2, h932, _⟩, hst⟩
    have hs := F2.hs
    have g93 := getD_arr h932
    refine wp_mono (Q := Up (FI w 1 (.slice (some ad) L.length cap) L.length) (Below w0.heap.size w0) (i + 1)) ?c5 ?c6
    case c5 =>
      go_wp2_with fail
      refine ⟨rfl, ⟨hb2, by first | rfl | exact hd2, (F2.set 201 _ (by decide)).set 93 _ (by decide), ?_, trivial⟩⟩
      rw [set_get (by simp [hs])]
      go_num
    case c6 =>
      rintro e a3 w3 ⟨rfl, ⟨hb3, hd3, F3, h933, _⟩⟩
      exact hnext a3 w3 hd3 F3 h933 hb3 hst.out
  case c3 =>
  refine wp_block ?_
  refine wp_seq ?_
  refine cut_at (St (FI w 1 (.slice (some ad) L.length cap) L.length) (IsW wr) i (SlotIs 6 (.int .i64 i))) ?c7 ?c8
  case c7 =>
    have hs := F1.hs
    have g93 := getD_arr h931
    go_wp2_with fail
    exact ⟨rfl, by first | rfl | exact hd1, (F1.set 95 _ (by decide)).set 6 _ (by decide), by rw [set_ne (by decide), set_ne (by decide)]; exact h931, set_get (by simp [hs])⟩
  case c8 =>
  rintro a2 _ ⟨rfl, hd2, F2, h932, h62⟩
  clear h931 F1 hd1 a1
  refine wp_seq ?_
  refine cut_at (St (FI w 1 (.slice (some ad) L.length cap) L.length) (IsW wr) i (SlotIs 6 (.int .i64 i))) ?c9 ?c10
  case c9 =>
    have hs := F2.hs
    go_wp2_with fail
    exact ⟨rfl, by first | rfl | exact hd2, (F2.set 7 _ (by decide)).set 8 _ (by decide), by rw [set_ne (by decide), set_ne (by decide)]; exact h932, by unfold SlotIs; rw [set_ne (by decide), set_ne (by decide)]; exact h62⟩
  case c10 =>
  rintro a3 _ ⟨rfl, hd3, F3, h933, h63⟩
  clear h932 h62 F2 hd2 a2
  have h6 : a3.tmps.getD 6 undef = .int .i64 i := h63
  clear h63
  obtain ⟨hlb, hc0⟩ := ints_at hI i hlt
  have hc : wr.cell? (ad.add i) = some (.int .i64 L[i]) := (hb.cell (p := ad.add i) (by rw [block_add]; exact hlb)).trans hc0
  have hlw : (ad.add i).block < wr.heap.size := by rw [block_add]; exact Nat.lt_of_lt_of_le hlb hb.size
  have hcx : ∀ o, (wr.alloc o).cell? (ad.add i) = some (.int .i64 L[i]) := fun o => (World.cell?_alloc_lt wr o _ hlw).trans hc
  have hbx : ∀ o, Below w0.heap.size w0 (wr.alloc o).drew := fun o => (hb.alloc hb.size o).drew
  refine wp_seq ?_
  refine cut_at (St (FI w 1 (.slice (some ad) L.length cap) L.length) (Below w0.heap.size w0) i (fun t => SlotIs 7 (.bool (!(Rul.inD L[i]))) t ∧ SlotIs 8 (.bool (decide (0 < i ∧ 0 ≤ Rul.cmpI (L[i - 1]'(by omega)) L[i]))) t)) ?c11 ?c12
  case c11 =>
    refine wp_seq ?_
    refine cut_at (St (FI w 1 (.slice (some ad) L.length cap) L.length) (IsW wr) i (fun t => SlotIs 6 (.int .i64 i) t ∧ SlotIs 97 (.bool false) t)) ?c13 ?c14
    case c13 =>
      have hs := F3.hs
      have g3 := getD_arr F3.s3
      go_wp2_with fail
      exact ⟨rfl, by first | rfl | exact hd3, (F3.set 96 _ (by decide)).set 97 _ (by decide), by rw [set_ne (by decide), set_ne (by decide)]; exact h933, by unfold SlotIs; rw [set_ne (by decide), set_ne (by decide)]; exact h6, by unfold SlotIs; rw [set_get (by simp [hs])]⟩
    case c14 =>
    clear h6 h933 F3 hd3 a3
    rintro a3 _ ⟨rfl, hd3, F3, h933, h6, h97⟩
    refine wp_cond_false (eval_tmp h97) ?_
    clear h97
    refine wp_seq ?_
    refine cut_at (fun a' w' => ∃ (t : Array Value) (o : Obj), a' = ⟨t, a3.defers⟩ ∧ w' = (wr.alloc o).drew ∧ Keep 165 184 7 a3.tmps t ∧ SlotIs 7 (.bool (!(Rul.inD L[i]))) t ∧ Below w0.heap.size w0 w') ?c15 ?c16
    case c15 =>
      cases ho : out L[i] 31
      case true =>
        have e : Rul.inD L[i] = false := by revert ho; simp [out, Rul.inD, Rul.btw] <;> omega
        exact reg24_1out _ _ _ (blind_then (blind_then (blind_block (blind_then hQ)))) ad _ cap i L[i] F3.hs F3.s3 F3.s4 h6 hlt hc hcx (Lib.hid ho) fun t o k e7 => ⟨t, _, rfl, rfl, k, by rw [e]; exact e7, hbx o⟩
      case false =>
        have e : Rul.inD L[i] = true := by revert ho; simp [out, Rul.inD, Rul.btw] <;> omega
        exact reg24_1in _ _ _ (blind_then (blind_then (blind_block (blind_then hQ)))) ad _ cap i L[i] F3.hs F3.s3 F3.s4 h6 hlt hc hcx (Lib.hid ho) fun t o k e7 => ⟨t, _, rfl, rfl, k, by rw [e]; exact e7, hbx o⟩
    case c16 =>
    rintro _ _ ⟨t, o, rfl, rfl, k, h7, hb4⟩
    have F4 := F3.keep k (by decide) (by decide)
    have h64' : t.getD 6 undef = .int .i64 i := (k.2 6 (by decide) (by decide)).trans h6
    have h934 : t.getD 93 undef = .int .i64 i := (k.2 93 (by decide) (by decide)).trans h933
    have hc4 : (wr.alloc o).drew.cell? (ad.add i) = some (.int .i64 L[i]) := hcx o
    have fin : ∀ (b : Bool) (u : Array Value), decide (0 < i ∧ 0 ≤ Rul.cmpI (L[i - 1]'(by omega)) L[i]) = b → Keep 185 198 8 t u → u.getD 8 undef = .bool b →
        St (FI w 1 (.slice (some ad) L.length cap) L.length) (Below w0.heap.size w0) i (fun t => SlotIs 7 (.bool (!(Rul.inD L[i]))) t ∧ SlotIs 8 (.bool (decide (0 < i ∧ 0 ≤ Rul.cmpI (L[i - 1]'(by omega)) L[i]))) t) ⟨u, a3.defers⟩ (wr.alloc o).drew.drew := fun b u e ku e8 =>
      ⟨hb4.drew, hd3, F4.keep ku (by decide) (by decide), (ku.2 93 (by decide) (by decide)).trans h934, (ku.2 7 (by decide) (by decide)).trans h7, by rw [e]; exact e8⟩
    by_cases h0 : 0 < i
    · obtain ⟨hlb1, hc1⟩ := ints_at hI (i - 1) (by omega)
      have hc5 : (wr.alloc o).drew.cell? (ad.add (i - 1)) = some (.int .i64 (L[i - 1]'(by omega))) :=
        (hb4.cell (p := ad.add (i - 1)) (by rw [block_add]; exact hlb1)).trans hc1
      by_cases hy : L[i] ≤ L[i - 1]'(by omega)
      · exact reg25_late _ _ _ (blind_then (blind_block (blind_then hQ))) ad _ cap i L[i] F4.hs F4.s4 h64' hlt h64 hc4 h0 _ hc5 hy fun u ku e8 => fin true u (by simp [h0, geq_cmp, hy]) ku e8
      · exact reg25_next _ _ _ (blind_then (blind_block (blind_then hQ))) ad _ cap i L[i] F4.hs F4.s4 h64' hlt h64 hc4 h0 _ hc5 (by omega) fun u ku e8 => fin false u (by simp [geq_cmp, hy]) ku e8
    · exact reg25_first _ _ _ (blind_then (blind_block (blind_then hQ))) ad _ cap i L[i] F4.hs F4.s4 h64' hc4 (by omega) fun u ku e8 => fin false u (by simp [h0]) ku e8
  case c12 =>
  clear h6 h933 F3 hd3 a3 hc hcx hbx hlw
  rintro a4 w4 ⟨hb4, hd4, F4, h934, h7, h8⟩
  have h7' : a4.tmps.getD 7 undef = .bool (!(Rul.inD L[i])) := h7
  have h8' : a4.tmps.getD 8 undef = .bool (decide (0 < i ∧ 0 ≤ Rul.cmpI (L[i - 1]'(by omega)) L[i])) := h8
  refine wp_seq ?_
  refine wp_seq ?_
  refine cut_at (St (FI w 1 (.slice (some ad) L.length cap) L.length) (IsW w4) i (fun t => SlotIs 199 (.bool (!(Rul.inD L[i]))) t ∧ SlotIs 8 (.bool (decide (0 < i ∧ 0 ≤ Rul.cmpI (L[i - 1]'(by omega)) L[i]))) t)) ?c17 ?c18
  case c17 =>
    have hs := F4.hs
    have g7 := getD_arr h7'
    go_wp2_with fail
    exact ⟨rfl, by first | rfl | exact hd4, F4.set 199 _ (by decide), by rw [set_ne (by decide)]; exact h934, by unfold SlotIs; rw [set_get (by simp [hs])], by unfold SlotIs; rw [set_ne (by decide)]; exact h8'⟩
  case c18 =>
  clear h7 h8 h7' h8' h934 F4 hd4 a4
  rintro a4 _ ⟨rfl, hd4, F4, h934, h199, h8⟩
  cases hp : Rul.inD L[i]
  · refine wp_cond_true (eval_tmp (h199.trans (by rw [hp]; rfl))) ?_
    refine wp_seq ?_
    refine cut_at (St (FI w 1 (.slice (some ad) L.length cap) L.length) (IsW w4) i (SlotIs 2 (.int .i64 3))) ?c19 ?c20
    case c19 =>
      have hs := F4.hs
      go_wp2_with fail
      exact ⟨rfl, by first | rfl | exact hd4, F4.set 2 _ (by decide), by rw [set_ne (by decide)]; exact h934, by unfold SlotIs; rw [set_get (by simp [hs])]⟩
    case c20 =>
      rintro a5 _ ⟨rfl, hd5, F5, h935, h2⟩
      refine wp_ret ?_
      exact hret 3 a5 w4 hd5 F5.hs h2 hb4 (Rul.step_range hlt hp).symm (by decide)
  · refine wp_cond_false (eval_tmp (h199.trans (by rw [hp]; rfl))) ?_
    refine wp_skip ?_
    refine wp_seq ?_
    have h8' : a4.tmps.getD 8 undef = .bool (decide (0 < i ∧ 0 ≤ Rul.cmpI (L[i - 1]'(by omega)) L[i])) := h8
    refine cut_at (St (FI w 1 (.slice (some ad) L.length cap) L.length) (IsW w4) i (SlotIs 200 (.bool (decide (0 < i ∧ 0 ≤ Rul.cmpI (L[i - 1]'(by omega)) L[i]))))) ?c21 ?c22
    case c21 =>
      have hs := F4.hs
      have g8 := getD_arr h8'
      go_wp2_with fail
      exact ⟨rfl, by first | rfl | exact hd4, F4.set 200 _ (by decide), by rw [set_ne (by decide)]; exact h934, by unfold SlotIs; rw [set_get (by simp [hs])]; simp⟩
    case c22 =>
    clear h8 h8' h199 h934 F4 hd4 a4
    rintro a4 _ ⟨rfl, hd4, F4, h934, h200⟩
    by_cases hl : 0 < i ∧ 0 ≤ Rul.cmpI (L[i - 1]'(by omega)) L[i]
    · refine wp_cond_true (eval_tmp (h200.trans (by rw [decide_eq_true hl]))) ?_
      refine wp_seq ?_
      refine cut_at (St (FI w 1 (.slice (some ad) L.length cap) L.length) (IsW w4) i (SlotIs 2 (.int .i64 4))) ?c23 ?c24
      case c23 =>
        have hs := F4.hs
        go_wp2_with fail
        exact ⟨rfl, by first | rfl | exact hd4, F4.set 2 _ (by decide), by rw [set_ne (by decide)]; exact h934, by unfold SlotIs; rw [set_get (by simp [hs])]⟩
      case c24 =>
        rintro a5 _ ⟨rfl, hd5, F5, h935, h2⟩
        refine wp_ret ?_
        exact hret 4 a5 w4 hd5 F5.hs h2 hb4 (Rul.step_order hlt hp hl.1 hl.2).symm (by decide)
    · refine wp_cond_false (eval_tmp (h200.trans (by rw [decide_eq_false hl]))) ?_
      refine wp_skip ?_
      refine ⟨⟨hb4, hd4, F4, h934, trivial⟩, Lib.hid ?_⟩
      by_cases h0 : 0 < i
      · exact Rul.step_next hlt hp h0 (by omega)
      · obtain rfl : i = 0 := by omega
        exact Rul.step_first hlt hp

set_option maxRecDepth 100000 in
set_option maxHeartbeats 1000000 in
theorem round_3 (w w0 wr : World) (a : Act) (K : Act → World → Prop) (Q : Exit → Act → World → Prop) (hQ : Blind Q) (ad : Addr) (L : List Int) (cap i : Nat)
    (F : FI w 3 (.slice (some ad) L.length cap) L.length a.tmps) (hd : a.defers = []) (h93 : a.tmps.getD 93 undef = .int .i64 i) (hlt : i < L.length) (h64 : L.length ≤ 64)
    (hb : Below w0.heap.size w0 wr) (hI : IntsIn w0 (some ad) L)
    (hret : ∀ (v : Int) a' w', a'.defers = [] → a'.tmps.size = 236 → a'.tmps.getD 2 undef = .int .i64 v → Below w0.heap.size w0 w' → v = Rul.step Rul.inP Rul.cmpI L i → v ≠ 0 → Q .ret a' w')
    (hnext : ∀ a' w', a'.defers = [] → FI w 3 (.slice (some ad) L.length cap) L.length a'.tmps → a'.tmps.getD 93 undef = .int .i64 (i + 1 : Nat) → Below w0.heap.size w0 w' → Rul.step Rul.inP Rul.cmpI L i = Rul.step Rul.inP Rul.cmpI L (i + 1) → K a' w') :
    innerBody.wp Tryd.prog (Exit.then K Q) a wr := by
  have hs := F.hs
  have g92 := getD_arr F.s92
  have g93 := getD_arr h93
  have F92 := F.s92
  conv => arg 2; whnf
  refine wp_seq ?_
  refine cut_at (St (FI w 3 (.slice (some ad) L.length cap) L.length) (IsW wr) i (SlotIs 94 (.bool true))) ?c1 ?c2
  case c1 =>
    go_wp2_with fail
    exact ⟨rfl, by first | rfl | exact hd, F.set 94 _ (by decide), by rw [set_ne (by decide)]; exact h93, set_get (by rw [hs]; decide)⟩
  case c2 =>
  rintro a1 _ ⟨rfl, hd1, F1, h931, h94⟩
  clear g92 g93 F92 hs h93 F hd
  refine wp_seq ?_
  refine wp_cond_true (eval_tmp h94) ?_
  refine wp_skip ?_
  refine wp_seq ?_
  clear h94
  refine cut_at (fun a' w' => St (FI w 3 (.slice (some ad) L.length cap) L.length) (Below w0.heap.size w0) i Any a' w' ∧ Hid (Rul.step Rul.inP Rul.cmpI L i = Rul.step Rul.inP Rul.cmpI L (i + 1))) ?c3 ?c4
  case c4 =>
    rintro a2 w2 ⟨⟨hb2, hd2, F2, h932, _⟩, hst⟩
    have hs := F2.hs
    have g93 := getD_arr h932
    refine wp_mono (Q := Up (FI w 3 (.slice (some ad) L.length cap) L.length) (Below w0.heap.size w0) (i + 1)) ?c5 ?c6
    case c5 =>
      go_wp2_with fail
      refine ⟨rfl, ⟨hb2, by first | rfl | exact hd2, (F2.set 201 _ (by decide)).set 93 _ (by decide), ?_, trivial⟩⟩
      rw [set_get (by simp [hs])]
      go_num
    case c6 =>
      rintro e a3 w3 ⟨rfl, ⟨hb3, hd3, F3, h933, _⟩⟩
      exact hnext a3 w3 hd3 F3 h933 hb3 hst.out
  case c3 =>
  refine wp_block ?_
  refine wp_seq ?_
  refine cut_at (St (FI w 3 (.slice (some ad) L.length cap) L.length) (IsW wr) i (SlotIs 6 (.int .i64 i))) ?c7 ?c8
  case c7 =>
    have hs := F1.hs
    have g93 := getD_arr h931
    go_wp2_with fail
    exact ⟨rfl, by first | rfl | exact hd1, (F1.set 95 _ (by decide)).set 6 _ (by decide), by rw [set_ne (by decide), set_ne (by decide)]; exact h931, set_get (by simp [hs])⟩
  case c8 =>
  rintro a2 _ ⟨rfl, hd2, F2, h932, h62⟩
  clear h931 F1 hd1 a1
  refine wp_seq ?_
  refine cut_at (St (FI w 3 (.slice (some ad) L.length cap) L.length) (IsW wr) i (SlotIs 6 (.int .i64 i))) ?c9 ?c10
  case c9 =>
    have hs := F2.hs
    go_wp2_with fail
    exact ⟨rfl, by first | rfl | exact hd2, (F2.set 7 _ (by decide)).set 8 _ (by decide), by rw [set_ne (by decide), set_ne (by decide)]; exact h932, by unfold SlotIs; rw [set_ne (by decide), set_ne (by decide)]; exact h62⟩
  case c10 =>
  rintro a3 _ ⟨rfl, hd3, F3, h933, h63⟩
  clear h932 h62 F2 hd2 a2
  have h6 : a3.tmps.getD 6 undef = .int .i64 i := h63
  clear h63
  obtain ⟨hlb, hc0⟩ := ints_at hI i hlt
  have hc : wr.cell? (ad.add i) = some (.int .i64 L[i]) := (hb.cell (p := ad.add i) (by rw [block_add]; exact hlb)).trans hc0
  have hlw : (ad.add i).block < wr.heap.size := by rw [block_add]; exact Nat.lt_of_lt_of_le hlb hb.size
  have hcx : ∀ o, (wr.alloc o).cell? (ad.add i) = some (.int .i64 L[i]) := fun o => (World.cell?_alloc_lt wr o _ hlw).trans hc
  have hbx : ∀ o, Below w0.heap.size w0 (wr.alloc o).drew := fun o => (hb.alloc hb.size o).drew
  refine wp_seq ?_
  refine cut_at (St (FI w 3 (.slice (some ad) L.length cap) L.length) (Below w0.heap.size w0) i (fun t => SlotIs 7 (.bool (!(Rul.inP L[i]))) t ∧ SlotIs 8 (.bool (decide (0 < i ∧ 0 ≤ Rul.cmpI (L[i - 1]'(by omega)) L[i]))) t)) ?c11 ?c12
  case c11 =>
    refine wp_seq ?_
    refine cut_at (St (FI w 3 (.slice (some ad) L.length cap) L.length) (IsW wr) i (fun t => SlotIs 6 (.int .i64 i) t ∧ SlotIs 97 (.bool false) t)) ?c13 ?c14
    case c13 =>
      have hs := F3.hs
      have g3 := getD_arr F3.s3
      go_wp2_with fail
      exact ⟨rfl, by first | rfl | exact hd3, (F3.set 96 _ (by decide)).set 97 _ (by decide), by rw [set_ne (by decide), set_ne (by decide)]; exact h933, by unfold SlotIs; rw [set_ne (by decide), set_ne (by decide)]; exact h6, by unfold SlotIs; rw [set_get (by simp [hs])]⟩
    case c14 =>
    clear h6 h933 F3 hd3 a3
    rintro a3 _ ⟨rfl, hd3, F3, h933, h6, h97⟩
    refine wp_cond_false (eval_tmp h97) ?_
    clear h97
    refine wp_seq ?_
    refine cut_at (fun a' w' => ∃ (t : Array Value) (o : Obj), a' = ⟨t, a3.defers⟩ ∧ w' = (wr.alloc o).drew ∧ Keep 165 184 7 a3.tmps t ∧ SlotIs 7 (.bool (!(Rul.inP L[i]))) t ∧ Below w0.heap.size w0 w') ?c15 ?c16
    case c15 =>
      cases ho : out L[i] 366
      case true =>
        have e : Rul.inP L[i] = false := by revert ho; simp [out, Rul.inP, Rul.btw] <;> omega
        exact reg24_3out _ _ _ (blind_then (blind_then (blind_block (blind_then hQ)))) ad _ cap i L[i] F3.hs F3.s3 F3.s4 h6 hlt hc hcx (Lib.hid ho) fun t o k e7 => ⟨t, _, rfl, rfl, k, by rw [e]; exact e7, hbx o⟩
      case false =>
        have e : Rul.inP L[i] = true := by revert ho; simp [out, Rul.inP, Rul.btw] <;> omega
        exact reg24_3in _ _ _ (blind_then (blind_then (blind_block (blind_then hQ)))) ad _ cap i L[i] F3.hs F3.s3 F3.s4 h6 hlt hc hcx (Lib.hid ho) fun t o k e7 => ⟨t, _, rfl, rfl, k, by rw [e]; exact e7, hbx o⟩
    case c16 =>
    rintro _ _ ⟨t, o, rfl, rfl, k, h7, hb4⟩
    have F4 := F3.keep k (by decide) (by decide)
    have h64' : t.getD 6 undef = .int .i64 i := (k.2 6 (by decide) (by decide)).trans h6
    have h934 : t.getD 93 undef = .int .i64 i := (k.2 93 (by decide) (by decide)).trans h933
    have hc4 : (wr.alloc o).drew.cell? (ad.add i) = some (.int .i64 L[i]) := hcx o
    have fin : ∀ (b : Bool) (u : Array Value), decide (0 < i ∧ 0 ≤ Rul.cmpI (L[i - 1]'(by omega)) L[i]) = b → Keep 185 198 8 t u → u.getD 8 undef = .bool b →
        St (FI w 3 (.slice (some ad) L.length cap) L.length) (Below w0.heap.size w0) i (fun t => SlotIs 7 (.bool (!(Rul.inP L[i]))) t ∧ SlotIs 8 (.bool (decide (0 < i ∧ 0 ≤ Rul.cmpI (L[i - 1]'(by omega)) L[i]))) t) ⟨u, a3.defers⟩ (wr.alloc o).drew.drew := fun b u e ku e8 =>
      ⟨hb4.drew, hd3, F4.keep ku (by decide) (by decide), (ku.2 93 (by decide) (by decide)).trans h934, (ku.2 7 (by decide) (by decide)).trans h7, by rw [e]; exact e8⟩
    by_cases h0 : 0 < i
    · obtain ⟨hlb1, hc1⟩ := ints_at hI (i - 1) (by omega)
      have hc5 : (wr.alloc o).drew.cell? (ad.add (i - 1)) = some (.int .i64 (L[i - 1]'(by omega))) :=
        (hb4.cell (p := ad.add (i - 1)) (by rw [block_add]; exact hlb1)).trans hc1
      by_cases hy : L[i] ≤ L[i - 1]'(by omega)
      · exact reg25_late _ _ _ (blind_then (blind_block (blind_then hQ))) ad _ cap i L[i] F4.hs F4.s4 h64' hlt h64 hc4 h0 _ hc5 hy fun u ku e8 => fin true u (by simp [h0, geq_cmp, hy]) ku e8
      · exact reg25_next _ _ _ (blind_then (blind_block (blind_then hQ))) ad _ cap i L[i] F4.hs F4.s4 h64' hlt h64 hc4 h0 _ hc5 (by omega) fun u ku e8 => fin false u (by simp [geq_cmp, hy]) ku e8
    · exact reg25_first _ _ _ (blind_then (blind_block (blind_then hQ))) ad _ cap i L[i] F4.hs F4.s4 h64' hc4 (by omega) fun u ku e8 => fin false u (by simp [h0]) ku e8
  case c12 =>
  clear h6 h933 F3 hd3 a3 hc hcx hbx hlw
  rintro a4 w4 ⟨hb4, hd4, F4, h934, h7, h8⟩
  have h7' : a4.tmps.getD 7 undef = .bool (!(Rul.inP L[i])) := h7
  have h8' : a4.tmps.getD 8 undef = .bool (decide (0 < i ∧ 0 ≤ Rul.cmpI (L[i - 1]'(by omega)) L[i])) := h8
  refine wp_seq ?_
  refine wp_seq ?_
  refine cut_at (St (FI w 3 (.slice (some ad) L.length cap) L.length) (IsW w4) i (fun t => SlotIs 199 (.bool (!(Rul.inP L[i]))) t ∧ SlotIs 8 (.bool (decide (0 < i ∧ 0 ≤ Rul.cmpI (L[i - 1]'(by omega)) L[i]))) t)) ?c17 ?c18
  case c17 =>
    have hs := F4.hs
    have g7 := getD_arr h7'
    go_wp2_with fail
    exact ⟨rfl, by first | rfl | exact hd4, F4.set 199 _ (by decide), by rw [set_ne (by decide)]; exact h934, by unfold SlotIs; rw [set_get (by simp [hs])], by unfold SlotIs; rw [set_ne (by decide)]; exact h8'⟩
  case c18 =>
  clear h7 h8 h7' h8' h934 F4 hd4 a4
  rintro a4 _ ⟨rfl, hd4, F4, h934, h199, h8⟩
  cases hp : Rul.inP L[i]
  · refine wp_cond_true (eval_tmp (h199.trans (by rw [hp]; rfl))) ?_
    refine wp_seq ?_
    refine cut_at (St (FI w 3 (.slice (some ad) L.length cap) L.length) (IsW w4) i (SlotIs 2 (.int .i64 3))) ?c19 ?c20
    case c19 =>
      have hs := F4.hs
      go_wp2_with fail
      exact ⟨rfl, by first | rfl | exact hd4, F4.set 2 _ (by decide), by rw [set_ne (by decide)]; exact h934, by unfold SlotIs; rw [set_get (by simp [hs])]⟩
    case c20 =>
      rintro a5 _ ⟨rfl, hd5, F5, h935, h2⟩
      refine wp_ret ?_
      exact hret 3 a5 w4 hd5 F5.hs h2 hb4 (Rul.step_range hlt hp).symm (by decide)
  · refine wp_cond_false (eval_tmp (h199.trans (by rw [hp]; rfl))) ?_
    refine wp_skip ?_
    refine wp_seq ?_
    have h8' : a4.tmps.getD 8 undef = .bool (decide (0 < i ∧ 0 ≤ Rul.cmpI (L[i - 1]'(by omega)) L[i])) := h8
    refine cut_at (St (FI w 3 (.slice (some ad) L.length cap) L.length) (IsW w4) i (SlotIs 200 (.bool (decide (0 < i ∧ 0 ≤ Rul.cmpI (L[i - 1]'(by omega)) L[i]))))) ?c21 ?c22
    case c21 =>
      have hs := F4.hs
      have g8 := getD_arr h8'
      go_wp2_with fail
      exact ⟨rfl, by first | rfl | exact hd4, F4.set 200 _ (by decide), by rw [set_ne (by decide)]; exact h934, by unfold SlotIs; rw [set_get (by simp [hs])]; simp⟩
    case c22 =>
    clear h8 h8' h199 h934 F4 hd4 a4
    rintro a4 _ ⟨rfl, hd4, F4, h934, h200⟩
    by_cases hl : 0 < i ∧ 0 ≤ Rul.cmpI (L[i - 1]'(by omega)) L[i]
    · refine wp_cond_true (eval_tmp (h200.trans (by rw [decide_eq_true hl]))) ?_
      refine wp_seq ?_
      refine cut_at (St (FI w 3 (.slice (some ad) L.length cap) L.length) (IsW w4) i (SlotIs 2 (.int .i64 4))) ?c23 ?c24
      case c23 =>
        have hs := F4.hs
        go_wp2_with fail
        exact ⟨rfl, by first | rfl | exact hd4, F4.set 2 _ (by decide), by rw [set_ne (by decide)]; exact h934, by unfold SlotIs; rw [set_get (by simp [hs])]⟩
      case c24 =>
        rintro a5 _ ⟨rfl, hd5, F5, h935, h2⟩
        refine wp_ret ?_
        exact hret 4 a5 w4 hd5 F5.hs h2 hb4 (Rul.step_order hlt hp hl.1 hl.2).symm (by decide)
    · refine wp_cond_false (eval_tmp (h200.trans (by rw [decide_eq_false hl]))) ?_
      refine wp_skip ?_
      refine ⟨⟨hb4, hd4, F4, h934, trivial⟩, Lib.hid ?_⟩
      by_cases h0 : 0 < i
      · exact Rul.step_next hlt hp h0 (by omega)
      · obtain rfl : i = 0 := by omega
        exact Rul.step_first hlt hp
end Go.Proofs.YtoldjleojnlhiaaDoor
