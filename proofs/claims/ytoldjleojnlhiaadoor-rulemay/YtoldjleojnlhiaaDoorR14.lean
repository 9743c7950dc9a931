/-
  The law's Check: one round of its inner loop, at the weekdays.
-/
import Derived.Test.YtoldjleojnlhiaaDoorR12
import Derived.Test.YtoldjleojnlhiaaDoorR13
namespace Go.Proofs.YtoldjleojnlhiaaDoor
open Go.RowKit
theorem nths_at {w : World} {ad : Addr} {L : List (Int × Int)} (h : NthsIn w (some ad) L) (i : Nat) (hi : i < L.length) : ad.block < w.heap.size ∧ w.cell? (ad.add (i * 2)) = some (.int .i64 L[i].1) ∧ w.cell? ((ad.add (i * 2)).add 1) = some (.int .i64 L[i].2) := by
  obtain ⟨ad', he, hb, hc⟩ := h i hi
  injection he with he
  subst he
  exact ⟨hb, hc⟩

set_option maxRecDepth 100000 in
set_option maxHeartbeats 1000000 in
theorem round_2 (w w0 wr : World) (a : Act) (K : Act → World → Prop) (Q : Exit → Act → World → Prop) (hQ : Blind Q) (ad : Addr) (L : List (Int × Int)) (f : Int) (cap i : Nat) (hf0 : 0 ≤ f) (hf4 : f < 4) (hz : w.heap.size < w0.heap.size) (hx0 : w0.cell? ⟨w.heap.size, 0, none⟩ = some (.int .i64 f)) (hx6 : w0.cell? ⟨w.heap.size, 6, none⟩ = some (.slice (some ad) L.length cap))
    (F : FI w 2 (.slice none 0 0) L.length a.tmps) (hd : a.defers = []) (h93 : a.tmps.getD 93 undef = .int .i64 i) (hlt : i < L.length) (h64 : L.length ≤ 64)
    (hb : Below w0.heap.size w0 wr) (hI : NthsIn w0 (some ad) L)
    (hret : ∀ (v : Int) a' w', a'.defers = [] → a'.tmps.size = 236 → a'.tmps.getD 2 undef = .int .i64 v → Below w0.heap.size w0 w' → v = Rul.step (Rul.inW f) Rul.cmpN L i → v ≠ 0 → Q .ret a' w')
    (hnext : ∀ a' w', a'.defers = [] → FI w 2 (.slice none 0 0) L.length a'.tmps → a'.tmps.getD 93 undef = .int .i64 (i + 1 : Nat) → Below w0.heap.size w0 w' → Rul.step (Rul.inW f) Rul.cmpN L i = Rul.step (Rul.inW f) Rul.cmpN L (i + 1) → K a' w') :
    innerBody.wp Tryd.prog (Exit.then K Q) a wr := by
  have hs := F.hs
  have g92 := getD_arr F.s92
  have g93 := getD_arr h93
  have F92 := F.s92
  conv => arg 2; whnf
  refine wp_seq ?_
  refine cut_at (St (FI w 2 (.slice none 0 0) L.length) (IsW wr) i (SlotIs 94 (.bool true))) ?c1 ?c2
  case c1 =>
    go_wp2_with fail
    exact ⟨rfl, by first | rfl | exact hd, F.set 94 _ (by decide), by rw [set_ne (by decide)]; exact h93, set_get (by rw [hs]; decide)⟩
  case c2 =>
  rintro a1 _ ⟨rfl, hd1, F1, h931, h94⟩
  clear g92 g93 F92 hs h93 F hd
  refine wp_seq ?_
  refine wp_cond_true (eval_tmp h94) ?_
  refine wp_skip ?_
  refine wp_seq ?_
  clear h94
  refine cut_at (fun a' w' => St (FI w 2 (.slice none 0 0) L.length) (Below w0.heap.size w0) i Any a' w' ∧ Hid (Rul.step (Rul.inW f) Rul.cmpN L i = Rul.step (Rul.inW f) Rul.cmpN L (i + 1))) ?c3 ?c4
  case c4 =>
    rintro a2 w2 ⟨⟨hb2, hd2, F2, h932, _⟩, hst⟩
    have hs := F2.hs
    have g93 := getD_arr h932
    refine wp_mono (Q := Up (FI w 2 (.slice none 0 0) L.length) (Below w0.heap.size w0) (i + 1)) ?c5 ?c6
    case c5 =>
      go_wp2_with fail
      refine ⟨rfl, ⟨hb2, by first | rfl | exact hd2, (F2.set 201 _ (by decide)).set 93 _ (by decide), ?_, trivial⟩⟩
      rw [set_get (by simp [hs])]
      go_num
    case c6 =>
      rintro e a3 w3 ⟨rfl, ⟨hb3, hd3, F3, h933, _⟩⟩
      exact hnext a3 w3 hd3 F3 h933 hb3 hst.out
  case c3 =>
  refine wp_block ?_
  refine wp_seq ?_
  refine cut_at (St (FI w 2 (.slice none 0 0) L.length) (IsW wr) i (SlotIs 6 (.int .i64 i))) ?c7 ?c8
  case c7 =>
    have hs := F1.hs
    have g93 := getD_arr h931
    go_wp2_with fail
    exact ⟨rfl, by first | rfl | exact hd1, (F1.set 95 _ (by decide)).set 6 _ (by decide), by rw [set_ne (by decide), set_ne (by decide)]; exact h931, set_get (by simp [hs])⟩
  case c8 =>
  rintro a2 _ ⟨rfl, hd2, F2, h932, h62⟩
  clear h931 F1 hd1 a1
  refine wp_seq ?_
  refine cut_at (St (FI w 2 (.slice none 0 0) L.length) (IsW wr) i (SlotIs 6 (.int .i64 i))) ?c9 ?c10
  case c9 =>
    have hs := F2.hs
    go_wp2_with fail
    exact ⟨rfl, by first | rfl | exact hd2, (F2.set 7 _ (by decide)).set 8 _ (by decide), by rw [set_ne (by decide), set_ne (by decide)]; exact h932, by unfold SlotIs; rw [set_ne (by decide), set_ne (by decide)]; exact h62⟩
  case c10 =>
  rintro a3 _ ⟨rfl, hd3, F3, h933, h63⟩
  clear h932 h62 F2 hd2 a2
  have h6 : a3.tmps.getD 6 undef = .int .i64 i := h63
  clear h63
  obtain ⟨hlb, hc1, hc2⟩ := nths_at hI i hlt
  refine wp_seq ?_
  refine cut_at (St (FI w 2 (.slice none 0 0) L.length) (Below w0.heap.size w0) i (fun t => SlotIs 7 (.bool (!(Rul.inW f L[i]))) t ∧ SlotIs 8 (.bool (decide (0 < i ∧ 0 ≤ Rul.cmpN (L[i - 1]'(by omega)) L[i]))) t)) ?c11 ?c12
  case c11 =>
    refine wp_seq ?_
    refine cut_at (St (FI w 2 (.slice none 0 0) L.length) (IsW wr) i (fun t => SlotIs 6 (.int .i64 i) t ∧ SlotIs 97 (.bool true) t)) ?c13 ?c14
    case c13 =>
      have hs := F3.hs
      have g3 := getD_arr F3.s3
      go_wp2_with fail
      exact ⟨rfl, by first | rfl | exact hd3, (F3.set 96 _ (by decide)).set 97 _ (by decide), by rw [set_ne (by decide), set_ne (by decide)]; exact h933, by unfold SlotIs; rw [set_ne (by decide), set_ne (by decide)]; exact h6, by unfold SlotIs; rw [set_get (by simp [hs])]⟩
    case c14 =>
    clear h6 h933 F3 hd3 a3
    rintro a3 _ ⟨rfl, hd3, F3, h933, h6, h97⟩
    refine wp_cond_true (eval_tmp h97) ?_
    clear h97
    have hc1r : wr.cell? (ad.add (i * 2)) = some (.int .i64 L[i].1) := (hb.cell (p := ad.add (i * 2)) (by rw [block_add]; exact hlb)).trans hc1
    have hc2r : wr.cell? ⟨(ad.add (i * 2)).block, (ad.add (i * 2)).off + 1, none⟩ = some (.int .i64 L[i].2) := (hb.cell (p := (ad.add (i * 2)).add 1) (by rw [block_add, block_add]; exact hlb)).trans hc2
    have hx6r : wr.cell? ⟨w.heap.size, 6, none⟩ = some (.slice (some ad) L.length cap) := (hb.cell (p := ⟨w.heap.size, 6, none⟩) hz).trans hx6
    refine wp_seq ?_
    refine cut_at (fun a' w' => ∃ t : Array Value, a' = ⟨t, a3.defers⟩ ∧ w' = wr.alloc (.cells #[.int .i64 L[i].1, .int .i64 L[i].2] 31) ∧ Keep 98 102 9 a3.tmps t ∧ SlotIs 9 (.pointer (some ⟨wr.heap.size, 0, none⟩)) t) ?c15 ?c16
    case c15 => exact reg20 _ _ _ ad _ _ cap i _ _ F3.hs F3.s1 h6 hx6r hlt hc1r hc2r fun t k e9 => ⟨t, rfl, rfl, k, e9⟩
    case c16 =>
    rintro _ _ ⟨t, rfl, rfl, k, h9⟩
    have F4 := F3.keep k (by decide) (by decide)
    have h64' : t.getD 6 undef = .int .i64 i := (k.2 6 (by decide) (by decide)).trans h6
    have h934 : t.getD 93 undef = .int .i64 i := (k.2 93 (by decide) (by decide)).trans h933
    have hb4 : Below w0.heap.size w0 (wr.alloc (.cells #[.int .i64 L[i].1, .int .i64 L[i].2] 31)) := hb.alloc hb.size _
    have hv1 : (wr.alloc (.cells #[.int .i64 L[i].1, .int .i64 L[i].2] 31)).cell? ⟨wr.heap.size, 0, none⟩ = some (.int .i64 L[i].1) := by simp
    have hv2 : (wr.alloc (.cells #[.int .i64 L[i].1, .int .i64 L[i].2] 31)).cell? ⟨wr.heap.size, 1, none⟩ = some (.int .i64 L[i].2) := by simp
    have hzz : wr.heap.size < (wr.alloc (.cells #[.int .i64 L[i].1, .int .i64 L[i].2] 31)).heap.size := by simp
    generalize (wr.alloc (.cells #[.int .i64 L[i].1, .int .i64 L[i].2] 31)) = w5 at hb4 hv1 hv2 hzz
    have hx05 : w5.cell? ⟨w.heap.size, 0, none⟩ = some (.int .i64 f) := (hb4.cell (p := ⟨w.heap.size, 0, none⟩) hz).trans hx0
    refine wp_seq ?_
    refine cut_at (fun a' w' => ∃ u : Array Value, a' = ⟨u, a3.defers⟩ ∧ Below w5.heap.size w5 w' ∧ Keep 103 107 10 t u ∧ SlotIs 10 (.int .i64 (Rul.most f)) u) ?c25 ?c26
    case c25 => exact reg21 _ _ _ _ f F4.hs F4.s1 hf0 hf4 hx05 (Nat.lt_of_lt_of_le hz hb4.size) fun u w' ku e10 hbb => ⟨u, rfl, hbb, ku, e10⟩
    case c26 =>
    rintro _ w6 ⟨u, rfl, hb56, ku, h10⟩
    have F5 := F4.keep ku (by decide) (by decide)
    have h65 : u.getD 6 undef = .int .i64 i := (ku.2 6 (by decide) (by decide)).trans h64'
    have h935 : u.getD 93 undef = .int .i64 i := (ku.2 93 (by decide) (by decide)).trans h934
    have h95 : u.getD 9 undef = .pointer (some ⟨wr.heap.size, 0, none⟩) := (ku.2 9 (by decide) (by decide)).trans h9
    have hb6 : Below w0.heap.size w0 w6 := hb4.trans (hb56.mono hb4.size)
    have hv16 := (hb56.cell (p := ⟨wr.heap.size, 0, none⟩) hzz).trans hv1
    have hv26 := (hb56.cell (p := ⟨wr.heap.size, 1, none⟩) hzz).trans hv2
    clear hb56 hx05 hv1 hv2 hzz hb4
    refine wp_seq ?_
    refine cut_at (fun a' w' => ∃ v : Array Value, a' = ⟨v, a3.defers⟩ ∧ w6 = w' ∧ Keep 108 126 7 u v ∧ SlotIs 7 (.bool (!(Rul.inW f L[i]))) v) ?c27 ?c28
    case c27 => exact reg22 _ _ _ _ f _ _ F5.hs h95 h10 hv16 hv26 fun v kv e7 => ⟨v, rfl, rfl, kv, e7⟩
    case c28 =>
    rintro _ _ ⟨v, rfl, rfl, kv, h7⟩
    have F6 := F5.keep kv (by decide) (by decide)
    have h66 : v.getD 6 undef = .int .i64 i := (kv.2 6 (by decide) (by decide)).trans h65
    have h936 : v.getD 93 undef = .int .i64 i := (kv.2 93 (by decide) (by decide)).trans h935
    have h96 : v.getD 9 undef = .pointer (some ⟨wr.heap.size, 0, none⟩) := (kv.2 9 (by decide) (by decide)).trans h95
    have hx66 : w6.cell? ⟨w.heap.size, 6, none⟩ = some (.slice (some ad) L.length cap) := (hb6.cell (p := ⟨w.heap.size, 6, none⟩) hz).trans hx6
    have fin : ∀ (b : Bool) (z : Array Value), decide (0 < i ∧ 0 ≤ Rul.cmpN (L[i - 1]'(by omega)) L[i]) = b → Keep 127 164 8 v z → z.getD 8 undef = .bool b →
        St (FI w 2 (.slice none 0 0) L.length) (Below w0.heap.size w0) i (fun t => SlotIs 7 (.bool (!(Rul.inW f L[i]))) t ∧ SlotIs 8 (.bool (decide (0 < i ∧ 0 ≤ Rul.cmpN (L[i - 1]'(by omega)) L[i]))) t) ⟨z, a3.defers⟩ w6.drew := fun b z e kz e8 =>
      ⟨hb6.drew, hd3, F6.keep kz (by decide) (by decide), (kz.2 93 (by decide) (by decide)).trans h936, (kz.2 7 (by decide) (by decide)).trans h7, by rw [e]; exact e8⟩
    by_cases h0 : 0 < i
    · obtain ⟨hlb1, hp10, hp20⟩ := nths_at hI (i - 1) (by omega)
      have hp1 := (hb6.cell (p := ad.add ((i - 1) * 2)) (by rw [block_add]; exact hlb1)).trans hp10
      have hp2 : w6.cell? ⟨(ad.add ((i - 1) * 2)).block, (ad.add ((i - 1) * 2)).off + 1, none⟩ = some (.int .i64 (L[i - 1]'(by omega)).2) := (hb6.cell (p := (ad.add ((i - 1) * 2)).add 1) (by rw [block_add, block_add]; exact hlb1)).trans hp20
      have hn := @Rul.cmpN_neg (L[i - 1]'(by omega)) L[i]
      have hB := blind_then (K := St (FI w 2 (.slice none 0 0) L.length) (Below w0.heap.size w0) i (fun t => SlotIs 7 (.bool (!(Rul.inW f L[i]))) t ∧ SlotIs 8 (.bool (decide (0 < i ∧ 0 ≤ Rul.cmpN (L[i - 1]'(by omega)) L[i]))) t)) (blind_block (n := 3) (blind_then (K := fun a' w' => St (FI w 2 (.slice none 0 0) L.length) (Below w0.heap.size w0) i Any a' w' ∧ Hid (Rul.step (Rul.inW f) Rul.cmpN L i = Rul.step (Rul.inW f) Rul.cmpN L (i + 1))) (blind_then (K := K) hQ)))
      rcases Int.lt_trichotomy (L[i - 1]'(by omega)).1 L[i].1 with q | q | q
      · exact reg23_less _ _ _ hB ad _ _ _ cap i _ _ F6.hs F6.s1 h66 h96 hx66 hv16 hv26 hlt h64 h0 _ _ hp1 hp2 q fun z kz e8 => fin false z (by rw [decide_eq_false]; omega) kz e8
      · rw [q] at hp1
        by_cases r : L[i].2 ≤ (L[i - 1]'(by omega)).2
        · exact reg23_sameLate _ _ _ hB ad _ _ _ cap i _ _ F6.hs F6.s1 h66 h96 hx66 hv16 hv26 hlt h64 h0 _ hp1 hp2 r fun z kz e8 => fin true z (by rw [decide_eq_true]; omega) kz e8
        · exact reg23_sameNext _ _ _ hB ad _ _ _ cap i _ _ F6.hs F6.s1 h66 h96 hx66 hv16 hv26 hlt h64 h0 _ hp1 hp2 (by omega) fun z kz e8 => fin false z (by rw [decide_eq_false]; omega) kz e8
      · exact reg23_more _ _ _ hB ad _ _ _ cap i _ _ F6.hs F6.s1 h66 h96 hx66 hv16 hv26 hlt h64 h0 _ _ hp1 hp2 q fun z kz e8 => fin true z (by rw [decide_eq_true]; omega) kz e8
    · exact reg23_first _ _ _ (blind_then (blind_block (blind_then (blind_then hQ)))) ad _ _ _ cap i _ _ F6.hs F6.s1 h66 h96 hx66 hv16 hv26 (by omega) fun z kz e8 => fin false z (by simp [h0]) kz e8
  case c12 =>
  clear h6 h933 F3 hd3 a3
  rintro a4 w4 ⟨hb4, hd4, F4, h934, h7, h8⟩
  have h7' : a4.tmps.getD 7 undef = .bool (!(Rul.inW f L[i])) := h7
  have h8' : a4.tmps.getD 8 undef = .bool (decide (0 < i ∧ 0 ≤ Rul.cmpN (L[i - 1]'(by omega)) L[i])) := h8
  refine wp_seq ?_
  refine wp_seq ?_
  refine cut_at (St (FI w 2 (.slice none 0 0) L.length) (IsW w4) i (fun t => SlotIs 199 (.bool (!(Rul.inW f L[i]))) t ∧ SlotIs 8 (.bool (decide (0 < i ∧ 0 ≤ Rul.cmpN (L[i - 1]'(by omega)) L[i]))) t)) ?c17 ?c18
  case c17 =>
    have hs := F4.hs
    have g7 := getD_arr h7'
    go_wp2_with fail
    exact ⟨rfl, by first | rfl | exact hd4, F4.set 199 _ (by decide), by rw [set_ne (by decide)]; exact h934, by unfold SlotIs; rw [set_get (by simp [hs])], by unfold SlotIs; rw [set_ne (by decide)]; exact h8'⟩
  case c18 =>
  clear h7 h8 h7' h8' h934 F4 hd4 a4
  rintro a4 _ ⟨rfl, hd4, F4, h934, h199, h8⟩
  cases hp : Rul.inW f L[i]
  · refine wp_cond_true (eval_tmp (h199.trans (by rw [hp]; rfl))) ?_
    refine wp_seq ?_
    refine cut_at (St (FI w 2 (.slice none 0 0) L.length) (IsW w4) i (SlotIs 2 (.int .i64 3))) ?c19 ?c20
    case c19 =>
      have hs := F4.hs
      go_wp2_with fail
      exact ⟨rfl, by first | rfl | exact hd4, F4.set 2 _ (by decide), by rw [set_ne (by decide)]; exact h934, by unfold SlotIs; rw [set_get (by simp [hs])]⟩
    case c20 =>
      rintro a5 _ ⟨rfl, hd5, F5, h935, h2⟩
      refine wp_ret ?_
      exact hret 3 a5 w4 hd5 F5.hs h2 hb4 (Rul.step_range hlt hp).symm (by decide)
  · refine wp_cond_false (eval_tmp (h199.trans (by rw [hp]; rfl))) ?_
    refine wp_skip ?_
    refine wp_seq ?_
    have h8' : a4.tmps.getD 8 undef = .bool (decide (0 < i ∧ 0 ≤ Rul.cmpN (L[i - 1]'(by omega)) L[i])) := h8
    refine cut_at (St (FI w 2 (.slice none 0 0) L.length) (IsW w4) i (SlotIs 200 (.bool (decide (0 < i ∧ 0 ≤ Rul.cmpN (L[i - 1]'(by omega)) L[i]))))) ?c21 ?c22
    case c21 =>
      have hs := F4.hs
      have g8 := getD_arr h8'
      go_wp2_with fail
      exact ⟨rfl, by first | rfl | exact hd4, F4.set 200 _ (by decide), by rw [set_ne (by decide)]; exact h934, by unfold SlotIs; rw [set_get (by simp [hs])]; simp⟩
    case c22 =>
    clear h8 h8' h199 h934 F4 hd4 a4
    rintro a4 _ ⟨rfl, hd4, F4, h934, h200⟩
    by_cases hl : 0 < i ∧ 0 ≤ Rul.cmpN (L[i - 1]'(by omega)) L[i]
    · refine wp_cond_true (eval_tmp (h200.trans (by rw [decide_eq_true hl]))) ?_
      refine wp_seq ?_
      refine cut_at (St (FI w 2 (.slice none 0 0) L.length) (IsW w4) i (SlotIs 2 (.int .i64 4))) ?c23 ?c24
      case c23 =>
        have hs := F4.hs
        go_wp2_with fail
        exact ⟨rfl, by first | rfl | exact hd4, F4.set 2 _ (by decide), by rw [set_ne (by decide)]; exact h934, by unfold SlotIs; rw [set_get (by simp [hs])]⟩
      case c24 =>
        rintro a5 _ ⟨rfl, hd5, F5, h935, h2⟩
        refine wp_ret ?_
        exact hret 4 a5 w4 hd5 F5.hs h2 hb4 (Rul.step_order hlt hp hl.1 hl.2).symm (by decide)
    · refine wp_cond_false (eval_tmp (h200.trans (by rw [decide_eq_false hl]))) ?_
      refine wp_skip ?_
      refine ⟨⟨hb4, hd4, F4, h934, trivial⟩, Lib.hid ?_⟩
      by_cases h0 : 0 < i
      · exact Rul.step_next hlt hp h0 (by omega)
      · obtain rfl : i = 0 := by omega
        exact Rul.step_first hlt hp
end Go.Proofs.YtoldjleojnlhiaaDoor
