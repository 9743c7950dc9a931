/-
  The law's Make: the rounds of its loop over weekdays.
-/
import Derived.Test.YtnggajehngemmaaGreatDoorMk1
namespace Go.Proofs.YtnggajehngemmaaGreatDoor
open Go.RowKit
noncomputable def ops28 : Array Oper := (Tryz.f29.body.bind (regOf 28)).getD #[]
set_option maxRecDepth 100000 in
set_option maxHeartbeats 1000000 in
theorem reg28 (a : Act) (w : World) (Q : Exit → Act → World → Prop) (hQ : Blind Q) (b : Nat) (most n p : Int) (q1 q2 q3 q103 q104 q105 : Value) (hs : a.tmps.size = 164)
    (h1 : a.tmps.getD 1 undef = q1) (h2 : a.tmps.getD 2 undef = q2) (h3 : a.tmps.getD 3 undef = q3) (h9 : a.tmps.getD 9 undef = .int .i64 most) (h11 : a.tmps.getD 11 undef = .pointer (some ⟨b, 0, none⟩)) (h103 : a.tmps.getD 103 undef = q103) (h104 : a.tmps.getD 104 undef = q104) (h105 : a.tmps.getD 105 undef = q105)
    (hb : Blk w b 59 #[.int .i8 n, .int .u8 p]) (hn : -128 ≤ n ∧ n ≤ 127) (hp : 0 ≤ p ∧ p ≤ 255) (hm0 : 0 ≤ most) (hm1 : most ≤ 53)
    (hR : ∀ (a' : Act) (w' : World), a'.tmps.size = 164 → a'.defers = a.defers → a'.tmps.getD 1 undef = q1 → a'.tmps.getD 2 undef = q2 → a'.tmps.getD 3 undef = q3 → a'.tmps.getD 9 undef = .int .i64 most → a'.tmps.getD 12 undef = .pointer (some ⟨w.heap.size, 0, none⟩) → a'.tmps.getD 103 undef = q103 → a'.tmps.getD 104 undef = q104 → a'.tmps.getD 105 undef = q105 →
      Blk w' w.heap.size 51 #[.int .i64 (n.tmod (most + 1)), .int .i64 (p.tmod 7)] → Below w.heap.size w w' → Q .normal a' w') :
    (Code.region 28 ops28 true).wp Tryz.prog Q a w := by
  conv => arg 2; arg 2; whnf
  have ep : p.tmod 7 = p % 7 := Int.tmod_eq_emod_of_nonneg hp.1
  obtain ⟨df, hd⟩ : ∃ df, a.defers = df := ⟨_, rfl⟩
  rw [hd] at hR
  have dr := below_drew (Below.refl w.heap.size w)
  have zz : w.heap.size = w.drew.heap.size := rfl
  rw [zz] at hR
  replace hR : ∀ (a' : Act) (w' : World), a'.tmps.size = 164 → a'.defers = df → a'.tmps.getD 1 undef = q1 → a'.tmps.getD 2 undef = q2 → a'.tmps.getD 3 undef = q3 → a'.tmps.getD 9 undef = .int .i64 most → a'.tmps.getD 12 undef = .pointer (some ⟨w.drew.heap.size, 0, none⟩) → a'.tmps.getD 103 undef = q103 → a'.tmps.getD 104 undef = q104 → a'.tmps.getD 105 undef = q105 →
      Blk w' w.drew.heap.size 51 #[.int .i64 (n.tmod (most + 1)), .int .i64 (p.tmod 7)] → Below w.drew.heap.size w.drew w' → Q .normal a' w' := fun a' w' e1 e2 e3 e4 e5 e6 e7 e8 e9 e10 e11 e12 => hR a' w' e1 e2 e3 e4 e5 e6 e7 e8 e9 e10 e11 (dr.trans e12)
  refine wp_region_held_drew (S := fun w' => Blk w' b 59 #[.int .i8 n, .int .u8 p]) (by kernel_rfl) (hb.below dr hb.lt) (fun hH => ?_)
  clear dr zz hb
  generalize w.drew = w at *
  refine heldL 0 109 (v := .pointer (some ⟨b, 0, none⟩)) hQ (by kernel_rfl) (frZ hs) (by kernel_rfl) (by kernel_rfl) (by kernel_rfl) hH ?z87 ?z88
  case z87 => (intro o ho; obtain rfl := Option.some.inj ho; exact Or.inl ⟨rfl, fun w1 h1w => k_fieldW0 rfl (ev_tmp h11)⟩)
  case z88 =>
  refine frN8 hs hd h1 h2 h3 h9 h11 h103 h104 h105 ?_; clear hs hd h1 h2 h3 h9 h11 h103 h104 h105; intro a hs hd h1 h2 h3 h9 h11 h103 h104 h105 h109
  refine heldL 1 110 (v := .int .i8 n) hQ (by kernel_rfl) (frZ hs) (by kernel_rfl) (by kernel_rfl) (by kernel_rfl) hH ?z89 ?z90
  case z89 => (intro o ho; obtain rfl := Option.some.inj ho; exact Or.inl ⟨rfl, fun w1 h1w => k_loadC rfl (ev_tmp h109) (h1w.cell 0)⟩)
  case z90 =>
  refine frN9 hs hd h1 h2 h3 h9 h11 h103 h104 h105 h109 ?_; clear hs hd h1 h2 h3 h9 h11 h103 h104 h105 h109; intro a hs hd h1 h2 h3 h9 h11 h103 h104 h105 h109 h110
  refine heldL 2 111 (v := .int .i64 n) hQ (by kernel_rfl) (frZ hs) (by kernel_rfl) (by kernel_rfl) (by kernel_rfl) hH ?z91 ?z92
  case z91 => (intro o ho; obtain rfl := Option.some.inj ho; exact Or.inl ⟨rfl, fun w1 h1w => o_convCI rfl (ev_tmp h110) (wrap_small (by omega) (by omega))⟩)
  case z92 =>
  refine frN10 hs hd h1 h2 h3 h9 h11 h103 h104 h105 h109 h110 ?_; clear hs hd h1 h2 h3 h9 h11 h103 h104 h105 h109 h110; intro a hs hd h1 h2 h3 h9 h11 h103 h104 h105 h109 h110 h111
  refine heldL 3 112 (v := .int .i64 most) hQ (by kernel_rfl) (frZ hs) (by kernel_rfl) (by kernel_rfl) (by kernel_rfl) hH ?z93 ?z94
  case z93 => (intro o ho; obtain rfl := Option.some.inj ho; exact Or.inl ⟨rfl, fun w1 h1w => k_move rfl (ev_tmp h9)⟩)
  case z94 =>
  refine frN11 hs hd h1 h2 h3 h9 h11 h103 h104 h105 h109 h110 h111 ?_; clear hs hd h1 h2 h3 h9 h11 h103 h104 h105 h109 h110 h111; intro a hs hd h1 h2 h3 h9 h11 h103 h104 h105 h109 h110 h111 h112
  refine heldL 4 113 (v := .int .i64 (most + 1)) hQ (by kernel_rfl) (frZ hs) (by kernel_rfl) (by kernel_rfl) (by kernel_rfl) hH ?z95 ?z96
  case z95 => (intro o ho; obtain rfl := Option.some.inj ho; exact Or.inl ⟨rfl, fun w1 h1w => o_addI rfl (ev_tmp h112) rfl (wrap_small (by omega) (by omega))⟩)
  case z96 =>
  refine frN12 hs hd h1 h2 h3 h9 h11 h103 h104 h105 h109 h110 h111 h112 ?_; clear hs hd h1 h2 h3 h9 h11 h103 h104 h105 h109 h110 h111 h112; intro a hs hd h1 h2 h3 h9 h11 h103 h104 h105 h109 h110 h111 h112 h113
  refine heldL 5 114 (v := .int .i64 (n.tmod (most + 1))) hQ (by kernel_rfl) (frZ hs) (by kernel_rfl) (by kernel_rfl) (by kernel_rfl) hH ?z97 ?z98
  case z97 => (intro o ho; obtain rfl := Option.some.inj ho; exact Or.inl ⟨rfl, fun w1 h1w => o_remI rfl (ev_tmp h111) (ev_tmp h113) (by omega) rfl⟩)
  case z98 =>
  refine frN13 hs hd h1 h2 h3 h9 h11 h103 h104 h105 h109 h110 h111 h112 h113 ?_; clear hs hd h1 h2 h3 h9 h11 h103 h104 h105 h109 h110 h111 h112 h113; intro a hs hd h1 h2 h3 h9 h11 h103 h104 h105 h109 h110 h111 h112 h113 h114
  refine heldL 6 115 (v := .pointer (some ⟨b, 1, none⟩)) hQ (by kernel_rfl) (frZ hs) (by kernel_rfl) (by kernel_rfl) (by kernel_rfl) hH ?z99 ?z100
  case z99 => (intro o ho; obtain rfl := Option.some.inj ho; exact Or.inl ⟨rfl, fun w1 h1w => k_fieldW1 rfl (ev_tmp h11)⟩)
  case z100 =>
  refine frN14 hs hd h1 h2 h3 h9 h11 h103 h104 h105 h109 h110 h111 h112 h113 h114 ?_; clear hs hd h1 h2 h3 h9 h11 h103 h104 h105 h109 h110 h111 h112 h113 h114; intro a hs hd h1 h2 h3 h9 h11 h103 h104 h105 h109 h110 h111 h112 h113 h114 h115
  refine heldL 7 116 (v := .int .u8 p) hQ (by kernel_rfl) (frZ hs) (by kernel_rfl) (by kernel_rfl) (by kernel_rfl) hH ?z101 ?z102
  case z101 => (intro o ho; obtain rfl := Option.some.inj ho; exact Or.inl ⟨rfl, fun w1 h1w => k_loadB rfl (ev_tmp h115) (h1w.cell 1)⟩)
  case z102 =>
  refine frN15 hs hd h1 h2 h3 h9 h11 h103 h104 h105 h109 h110 h111 h112 h113 h114 h115 ?_; clear hs hd h1 h2 h3 h9 h11 h103 h104 h105 h109 h110 h111 h112 h113 h114 h115; intro a hs hd h1 h2 h3 h9 h11 h103 h104 h105 h109 h110 h111 h112 h113 h114 h115 h116
  refine heldL 8 117 (v := .int .u8 (p.tmod 7)) hQ (by kernel_rfl) (frZ hs) (by kernel_rfl) (by kernel_rfl) (by kernel_rfl) hH ?z103 ?z104
  case z103 => (intro o ho; obtain rfl := Option.some.inj ho; exact Or.inl ⟨rfl, fun w1 h1w => o_remB rfl (ev_tmp h116) rfl (by decide) rfl⟩)
  case z104 =>
  refine frN16 hs hd h1 h2 h3 h9 h11 h103 h104 h105 h109 h110 h111 h112 h113 h114 h115 h116 ?_; clear hs hd h1 h2 h3 h9 h11 h103 h104 h105 h109 h110 h111 h112 h113 h114 h115 h116; intro a hs hd h1 h2 h3 h9 h11 h103 h104 h105 h109 h110 h111 h112 h113 h114 h115 h116 h117
  refine heldL 9 118 (v := .int .i64 (p.tmod 7)) hQ (by kernel_rfl) (frZ hs) (by kernel_rfl) (by kernel_rfl) (by kernel_rfl) hH ?z105 ?z106
  case z105 => (intro o ho; obtain rfl := Option.some.inj ho; exact Or.inl ⟨rfl, fun w1 h1w => o_convBI rfl (ev_tmp h117) (wrap_small (by omega) (by omega))⟩)
  case z106 =>
  intro a F0
  replace hs := F0.z.trans hs
  replace hd := F0.e.trans hd
  replace h1 := (F0.n 1 (by decide)).trans h1
  replace h2 := (F0.n 2 (by decide)).trans h2
  replace h3 := (F0.n 3 (by decide)).trans h3
  replace h9 := (F0.n 9 (by decide)).trans h9
  replace h11 := (F0.n 11 (by decide)).trans h11
  replace h103 := (F0.n 103 (by decide)).trans h103
  replace h104 := (F0.n 104 (by decide)).trans h104
  replace h105 := (F0.n 105 (by decide)).trans h105
  replace h109 := (F0.n 109 (by decide)).trans h109
  replace h110 := (F0.n 110 (by decide)).trans h110
  replace h111 := (F0.n 111 (by decide)).trans h111
  replace h112 := (F0.n 112 (by decide)).trans h112
  replace h113 := (F0.n 113 (by decide)).trans h113
  replace h114 := (F0.n 114 (by decide)).trans h114
  replace h115 := (F0.n 115 (by decide)).trans h115
  replace h116 := (F0.n 116 (by decide)).trans h116
  replace h117 := (F0.n 117 (by decide)).trans h117
  have h118 := F0.s
  clear F0
  refine heldL 10 119 (v := .agg #[.int .i64 (n.tmod (most + 1)), .int .i64 (p.tmod 7)]) hQ (by kernel_rfl) (frZ hs) (by kernel_rfl) (by kernel_rfl) (by kernel_rfl) hH ?z107 ?z108
  case z107 => (intro o ho; obtain rfl := Option.some.inj ho; exact Or.inl ⟨rfl, fun w1 h1w => k_buildN rfl (ev_tmp h114) (ev_tmp h118)⟩)
  case z108 =>
  intro a F0
  replace hs := F0.z.trans hs
  replace hd := F0.e.trans hd
  replace h1 := (F0.n 1 (by decide)).trans h1
  replace h2 := (F0.n 2 (by decide)).trans h2
  replace h3 := (F0.n 3 (by decide)).trans h3
  replace h9 := (F0.n 9 (by decide)).trans h9
  replace h11 := (F0.n 11 (by decide)).trans h11
  replace h103 := (F0.n 103 (by decide)).trans h103
  replace h104 := (F0.n 104 (by decide)).trans h104
  replace h105 := (F0.n 105 (by decide)).trans h105
  replace h109 := (F0.n 109 (by decide)).trans h109
  replace h110 := (F0.n 110 (by decide)).trans h110
  replace h111 := (F0.n 111 (by decide)).trans h111
  replace h112 := (F0.n 112 (by decide)).trans h112
  replace h113 := (F0.n 113 (by decide)).trans h113
  replace h114 := (F0.n 114 (by decide)).trans h114
  replace h115 := (F0.n 115 (by decide)).trans h115
  replace h116 := (F0.n 116 (by decide)).trans h116
  replace h117 := (F0.n 117 (by decide)).trans h117
  replace h118 := (F0.n 118 (by decide)).trans h118
  have h119 := F0.s
  clear F0
  refine heldL_do 11 12 (v := .pointer (some ⟨w.heap.size, 0, none⟩)) (w' := w.alloc (.cells #[.int .i64 0, .int .i64 0] 51)) (by kernel_rfl) (by kernel_rfl) (frZ hs) ?u1 (hH.below ((Below.refl w.heap.size w).alloc (Nat.le_refl _) _) hH.lt) ?u2
  case u1 => exact frY rfl (k_allocN rfl)
  case u2 =>
  intro a F0
  replace hs := F0.z.trans hs
  replace hd := F0.e.trans hd
  replace h1 := (F0.n 1 (by decide)).trans h1
  replace h2 := (F0.n 2 (by decide)).trans h2
  replace h3 := (F0.n 3 (by decide)).trans h3
  replace h9 := (F0.n 9 (by decide)).trans h9
  replace h11 := (F0.n 11 (by decide)).trans h11
  replace h103 := (F0.n 103 (by decide)).trans h103
  replace h104 := (F0.n 104 (by decide)).trans h104
  replace h105 := (F0.n 105 (by decide)).trans h105
  replace h109 := (F0.n 109 (by decide)).trans h109
  replace h110 := (F0.n 110 (by decide)).trans h110
  replace h111 := (F0.n 111 (by decide)).trans h111
  replace h112 := (F0.n 112 (by decide)).trans h112
  replace h113 := (F0.n 113 (by decide)).trans h113
  replace h114 := (F0.n 114 (by decide)).trans h114
  replace h115 := (F0.n 115 (by decide)).trans h115
  replace h116 := (F0.n 116 (by decide)).trans h116
  replace h117 := (F0.n 117 (by decide)).trans h117
  replace h118 := (F0.n 118 (by decide)).trans h118
  replace h119 := (F0.n 119 (by decide)).trans h119
  have h12 := F0.s
  clear F0
  obtain ⟨w1, hw1⟩ : ∃ w1, w1 = w.alloc (.cells #[.int .i64 0, .int .i64 0] 51) := ⟨_, rfl⟩
  rw [← hw1]
  have c1 : Blk w1 w.heap.size 51 #[.int .i64 0, .int .i64 0] := by rw [hw1]; exact Blk.alloc _ _ _
  have l1 : Below w.heap.size w w1 := by rw [hw1]; exact (Below.refl _ _).alloc (Nat.le_refl _) _
  clear hw1
  have c2 : Blk (w1.setRow w.heap.size #[.int .i64 (n.tmod (most + 1)), .int .i64 (p.tmod 7)]) w.heap.size 51 #[.int .i64 (n.tmod (most + 1)), .int .i64 (p.tmod 7)] := c1.setRow
  have l2 : Below w.heap.size w (w1.setRow w.heap.size #[.int .i64 (n.tmod (most + 1)), .int .i64 (p.tmod 7)]) := l1.trans ((exc_setRow w1 w.heap.size #[.int .i64 (n.tmod (most + 1)), .int .i64 (p.tmod 7)] w.heap.size).below (Nat.le_refl _))
  refine heldL_store 12 (w' := w1.setRow w.heap.size #[.int .i64 (n.tmod (most + 1)), .int .i64 (p.tmod 7)]) (by kernel_rfl) (by kernel_rfl) ?u3 (hH.below l2 hH.lt) ?u4
  case u3 => exact frY rfl (k_storeS2 rfl (ev_tmp h12) (ev_tmp h119) c1 (by kernel_rfl) rfl rfl (by simp [Value.oneCell']))
  case u4 =>
  refine wpAnyH_done (by kernel_rfl) ?_ _
  exact hR a _ hs hd h1 h2 h3 h9 h12 h103 h104 h105 c2 l2

structure LpI3 (w0 ws : World) (b3 : Nat) (p1 p2 x0 x1 x2 x3 x4 x5 : Value) (most : Int) (A0 : Option Addr) (c0 : Nat) (l : List (Int × Int)) (i : Nat) (A : Option Addr) (cap : Nat) (a : Act) (w : World) : Prop where
  d : a.defers = []
  z : a.tmps.size = 164
  s1 : a.tmps.getD 1 undef = p1
  s2 : a.tmps.getD 2 undef = p2
  s3 : a.tmps.getD 3 undef = .pointer (some ⟨b3, 0, none⟩)
  s9 : a.tmps.getD 9 undef = .int .i64 most
  sl : a.tmps.getD 103 undef = .slice A0 l.length c0
  ln : a.tmps.getD 104 undef = .int .i64 l.length
  ix : a.tmps.getD 105 undef = .int .i64 i
  iN : i ≤ l.length
  B3 : Blk w b3 36 #[x0, x1, x2, x3, x4, x5, .slice A ((Mk.weekOut most (l.take i)).map (·.1)).length cap, .slice none 0 0]
  o : OwnN w ws.heap.size (.slice A ((Mk.weekOut most (l.take i)).map (·.1)).length cap) ((Mk.weekOut most (l.take i)).map (·.1))
  e : Exc ws.heap.size b3 ws w
noncomputable def mkRound3 : Code := ((Tryz.f29.body.map loopsM).getD []).getD 2 .skip
theorem containsW_own' {w : World} {base : Nat} {v : Value} {L : List (Int × Int)} (x : Int × Int) (h : OwnN w base v L) (hl : L.length ≤ 1000000) : Calls Tryz.prog 36 #[v, .agg #[.int .i64 x.1, .int .i64 x.2]] w fun e w' => ∃ u, e = .returned u ∧ u = .bool (L.contains x) ∧ Below w.heap.size w w' :=
  (containsW_own x h hl).mono fun _ _ h => ⟨_, h.1, rfl, h.2⟩

set_option maxRecDepth 100000 in
set_option maxHeartbeats 1000000 in
theorem mk_round3 (w0 ws : World) (b3 : Nat) (p1 p2 x0 x1 x2 x3 x4 x5 : Value) (most : Int) (A0 : Option Addr) (c0 : Nat) (l : List (Int × Int)) (hsrc : WksIn w0 A0 l) (hws : Below w0.heap.size w0 ws) (hb0 : w0.heap.size ≤ b3) (hb3 : b3 < ws.heap.size) (hbd : ∀ x ∈ l, (-128 ≤ x.1 ∧ x.1 ≤ 127) ∧ (0 ≤ x.2 ∧ x.2 ≤ 255)) (hl : l.length ≤ 1000) (hm0 : 0 ≤ most) (hm1 : most ≤ 53) (i : Nat) (A : Option Addr) (cap : Nat) (a : Act) (w : World) (Q : Exit → Act → World → Prop) (hQ : Blind Q)
    (J : LpI3 w0 ws b3 p1 p2 x0 x1 x2 x3 x4 x5 most A0 c0 l i A cap a w) (hend : i = l.length → ∀ a' : Act, a'.defers = [] → a'.tmps.size = 164 → a'.tmps.getD 1 undef = p1 → a'.tmps.getD 2 undef = p2 → a'.tmps.getD 3 undef = .pointer (some ⟨b3, 0, none⟩) → Q (.exit 5) a' w) :
    mkRound3.wp Tryz.prog (Exit.then (fun a' w' => (∃ i A cap, LpI3 w0 ws b3 p1 p2 x0 x1 x2 x3 x4 x5 most A0 c0 l i A cap a' w') ∧ (l.length - intOf (a'.tmps.getD 105 undef)).toNat < (l.length - intOf (a.tmps.getD 105 undef)).toNat) Q) a w := by
  have hd := J.d; have hs := J.z; have h1 := J.s1; have h2 := J.s2; have h3 := J.s3; have h9 := J.s9; have h103 := J.sl; have h104 := J.ln; have h105 := J.ix
  have hiN := J.iN; have hO := J.o; have hE := J.e; have hB := J.B3
  have hb : Below w0.heap.size w0 w := hws.trans ((hE.mono hws.size).below hb0)
  have hlen := Mk.weekOut_len most l i hiN
  have k10 : (l.length - intOf (a.tmps.getD 105 undef)).toNat = (l.length - (i : Int)).toNat := by rw [h105]; rfl
  rw [k10]
  clear k10 J
  unfold mkRound3
  conv => arg 2; whnf
  by_cases hlt : i < l.length
  · clear hend
    obtain ⟨ad, rfl, -, hc0, hc1⟩ := (hsrc.below hb) i hlt
    have hx := hbd l[i] (List.getElem_mem hlt)
    have hv := Mk.mkW_val (most := most) (p := l[i]) hm0 hm1 hx.2.1
    cases hcn : ((Mk.weekOut most (l.take i)).map (·.1)).contains ((l[i].1.tmod (most + 1)), (l[i].2.tmod 7))
    case true =>
      refine wp_seq ?_
      refine wp_region (show wpOps _ _ _ [0] _ _ from ?_)
      refine opL 0 106 (v := .bool true) (w' := w) (by kernel_rfl) (frZ hs) ?_ ?_
      · exact frY rfl (o_ltI rfl (ev_tmp h105) (ev_tmp h104) (decide_eq_true (by omega)))
      refine frN7 hs hd h1 h2 h3 h9 h103 h104 h105 ?_; clear hs hd h1 h2 h3 h9 h103 h104 h105; intro a hs hd h1 h2 h3 h9 h103 h104 h105 h106
      refine wp_seq ?_
      refine wp_cond_true (ev_tmp h106) ?_
      clear h106
      refine wp_skip ?_
      refine wp_seq ?_
      refine wp_block ?_
      refine wp_seq ?_
      refine wp_region (show wpOps _ _ _ [0, 1, 2, 3] _ _ from ?_)
      refine opL 0 107 (v := .pointer (some (ad.add (i * 2)))) (w' := w) (by kernel_rfl) (frZ hs) ?_ ?_
      · exact frY rfl (k_atK rfl (ev_tmp h103) (ev_tmp h105) hlt)
      revert hs hd h1 h2 h3 h9 h103 h104 h105; refine frM7 ?_; intro a hs hd h1 h2 h3 h9 h103 h104 h105 h107
      refine opL 1 108 (v := .agg #[.int .i8 l[i].1, .int .u8 l[i].2]) (w' := w) (by kernel_rfl) (frZ hs) ?_ ?_
      · exact frY rfl (k_loadKs rfl (ev_tmp h107) hc0 hc1)
      clear h107; revert hs hd h1 h2 h3 h9 h103 h104 h105; refine frM7 ?_; intro a hs hd h1 h2 h3 h9 h103 h104 h105 h108
      refine opL 2 11 (v := .pointer (some ⟨w.heap.size, 0, none⟩)) (w' := (w.alloc (.cells #[.int .i8 0, .int .u8 0] 59))) (by kernel_rfl) (frZ hs) ?_ ?_
      · exact frY rfl (k_allocK rfl)
      revert hs hd h1 h2 h3 h9 h103 h104 h105 h108; refine frM8 ?_; intro a hs hd h1 h2 h3 h9 h103 h104 h105 h108 h11
      obtain ⟨w1, hw1⟩ : ∃ w1, w1 = w.alloc (.cells #[.int .i8 0, .int .u8 0] 59) := ⟨_, rfl⟩
      rw [← hw1]
      have c1 : Blk w1 w.heap.size 59 #[.int .i8 0, .int .u8 0] := by rw [hw1]; exact Blk.alloc _ _ _
      have l1 : Below w.heap.size w w1 := by rw [hw1]; exact (Below.refl _ _).alloc (Nat.le_refl _) _
      clear hw1
      refine opL_store 3 (w' := (w1.setRow w.heap.size #[.int .i8 l[i].1, .int .u8 l[i].2])) (by kernel_rfl) ?_ ?_
      · exact frY rfl (k_storeS2 rfl (ev_tmp h11) (ev_tmp h108) c1 (by kernel_rfl) rfl rfl (by simp [Value.oneCell']))
      clear h108
      obtain ⟨w2, hw2⟩ : ∃ w2, w2 = w1.setRow w.heap.size #[.int .i8 l[i].1, .int .u8 l[i].2] := ⟨_, rfl⟩
      rw [← hw2]
      have c2 : Blk w2 w.heap.size 59 #[.int .i8 l[i].1, .int .u8 l[i].2] := by rw [hw2]; exact c1.setRow
      have l2 : Below w.heap.size w w2 := by rw [hw2]; exact l1.trans ((exc_setRow w1 w.heap.size #[.int .i8 l[i].1, .int .u8 l[i].2] w.heap.size).below (Nat.le_refl _))
      clear hw2
      have hO2 := hO.below l2
      have hB2 := hB.below l2 hB.lt
      refine wp_seq ?_
      refine reg28 a w2 _ (by repeat (first | exact hQ | refine blind_then ?_ | refine blind_block ?_)) w.heap.size most l[i].1 l[i].2 _ _ _ _ _ _ hs h1 h2 h3 h9 h11 h103 h104 h105 c2 hx.1 hx.2 hm0 hm1 ?_
      intro a w3 z' e' h1' h2' h3' h9' h12 h103' h104' h105' c3 l3
      replace hs := z'
      replace hd := e'.trans hd
      replace h1 := h1'
      replace h2 := h2'
      replace h3 := h3'
      replace h9 := h9'
      replace h103 := h103'
      replace h104 := h104'
      replace h105 := h105'
      clear h11
      have hO3 := hO2.below l3
      have hB3 := hB2.below l3 hB2.lt
      refine wp_seq ?_
      refine wp_region (show wpOps _ _ _ [0, 1, 2, 3, 4] _ _ from ?_)
      refine opL 0 120 (v := .pointer (some ⟨b3, 6, none⟩)) (w' := w3) (by kernel_rfl) (frZ hs) ?_ ?_
      · exact frY rfl (k_field6 rfl (ev_tmp h3))
      refine frN8 hs hd h1 h2 h3 h9 h103 h104 h105 h12 ?_; clear hs hd h1 h2 h3 h9 h103 h104 h105 h12; intro a hs hd h1 h2 h3 h9 h103 h104 h105 h12 h120
      refine opL 1 121 (v := .slice A ((Mk.weekOut most (l.take i)).map (·.1)).length cap) (w' := w3) (by kernel_rfl) (frZ hs) ?_ ?_
      · exact frY rfl (k_loadW rfl (ev_tmp h120) (hB3.cell 6))
      clear h120; revert hs hd h1 h2 h3 h9 h103 h104 h105 h12; refine frM8 ?_; intro a hs hd h1 h2 h3 h9 h103 h104 h105 h12 h121
      refine opL 2 122 (v := .agg #[.int .i64 (l[i].1.tmod (most + 1)), .int .i64 (l[i].2.tmod 7)]) (w' := w3) (by kernel_rfl) (frZ hs) ?_ ?_
      · exact frY rfl (k_loadNs rfl (ev_tmp h12) c3)
      revert hs hd h1 h2 h3 h9 h103 h104 h105 h12 h121; refine frM9 ?_; intro a hs hd h1 h2 h3 h9 h103 h104 h105 h12 h121 h122
      refine opL_call 3 123 (f := 36) (args := #[.slice A ((Mk.weekOut most (l.take i)).map (·.1)).length cap, .agg #[.int .i64 (l[i].1.tmod (most + 1)), .int .i64 (l[i].2.tmod 7)]]) (R := fun u w' => u = .bool (((Mk.weekOut most (l.take i)).map (·.1)).contains ((l[i].1.tmod (most + 1)), (l[i].2.tmod 7))) ∧ Below w3.heap.size w3 w') (by kernel_rfl) (frZ hs) ?z125 (containsW_own' ((l[i].1.tmod (most + 1)), (l[i].2.tmod 7)) hO3 (by simp; omega)) ?z126
      case z125 => exact frY rfl (c_ContainsN rfl rfl (ev_tmp h121) (ev_tmp h122))
      case z126 =>
      rintro _ w4 a ⟨rfl, l4⟩ F0
      rw [hcn] at F0
      replace hs := F0.z.trans hs
      replace hd := F0.e.trans hd
      replace h1 := (F0.n 1 (by decide)).trans h1
      replace h2 := (F0.n 2 (by decide)).trans h2
      replace h3 := (F0.n 3 (by decide)).trans h3
      replace h9 := (F0.n 9 (by decide)).trans h9
      replace h103 := (F0.n 103 (by decide)).trans h103
      replace h104 := (F0.n 104 (by decide)).trans h104
      replace h105 := (F0.n 105 (by decide)).trans h105
      replace h12 := (F0.n 12 (by decide)).trans h12
      clear h121
      clear h122
      have h123 := F0.s
      clear F0
      have hO4 := hO3.below l4
      have hB4 := hB3.below l4 hB3.lt
      have c4 := c3.below l4 c3.lt
      refine opL 4 124 (v := .bool false) (w' := w4) (by kernel_rfl) (frZ hs) ?_ ?_
      · exact frY rfl (o_not rfl (ev_tmp h123) rfl)
      refine frN8 hs hd h1 h2 h3 h9 h103 h104 h105 h12 ?_; clear hs hd h1 h2 h3 h9 h103 h104 h105 h12 h123; intro a hs hd h1 h2 h3 h9 h103 h104 h105 h12 h124
      refine wp_cond_false (ev_tmp h124) ?_
      refine wp_skip ?_
      refine wp_region (show wpOps _ _ _ [0, 1] _ _ from ?_)
      refine opL 0 131 (v := .int .i64 (i + 1 : Nat)) (w' := w4) (by kernel_rfl) (frZ hs) ?_ ?_
      · exact frY rfl (o_addI rfl (ev_tmp h105) rfl (wrap_small (n := (i : Int) + 1) (by omega) (by omega)))
      revert hs hd h1 h2 h3 h9 h103 h104 h105 h12 h124; refine frM9 ?_; intro a hs hd h1 h2 h3 h9 h103 h104 h105 h12 h124 h131
      refine opL 1 105 (v := .int .i64 (i + 1 : Nat)) (w' := w4) (by kernel_rfl) (frZ hs) ?_ ?_
      · exact frY rfl (k_move rfl (ev_tmp h131))
      clear h105 h131; revert hs hd h1 h2 h3 h9 h103 h104 h12 h124; refine frM8 ?_; intro a hs hd h1 h2 h3 h9 h103 h104 h12 h124 h105
      have eN : Mk.weekOut most (l.take (i + 1)) = Mk.weekOut most (l.take i) := by rw [Mk.weekOut_take hlt, Mk.wput, hv, if_pos hcn]
      rw [← eN] at hB4 hO4
      refine ⟨⟨i + 1, A, cap, ⟨hd, hs, h1, h2, h3, h9, h103, h104, h105, by omega, hB4, hO4, hE.trans (Exc.of ((l2.mono hE.size).trans ((l3.mono (Nat.le_trans hE.size l2.size)).trans (l4.mono (Nat.le_trans hE.size (Nat.le_trans l2.size l3.size))))))⟩⟩, ?_⟩
      rw [h105]
      show (l.length - ((i + 1 : Nat) : Int)).toNat < (l.length - (i : Int)).toNat
      omega
    case false =>
      refine wp_seq ?_
      refine wp_region (show wpOps _ _ _ [0] _ _ from ?_)
      refine opL 0 106 (v := .bool true) (w' := w) (by kernel_rfl) (frZ hs) ?_ ?_
      · exact frY rfl (o_ltI rfl (ev_tmp h105) (ev_tmp h104) (decide_eq_true (by omega)))
      refine frN7 hs hd h1 h2 h3 h9 h103 h104 h105 ?_; clear hs hd h1 h2 h3 h9 h103 h104 h105; intro a hs hd h1 h2 h3 h9 h103 h104 h105 h106
      refine wp_seq ?_
      refine wp_cond_true (ev_tmp h106) ?_
      clear h106
      refine wp_skip ?_
      refine wp_seq ?_
      refine wp_block ?_
      refine wp_seq ?_
      refine wp_region (show wpOps _ _ _ [0, 1, 2, 3] _ _ from ?_)
      refine opL 0 107 (v := .pointer (some (ad.add (i * 2)))) (w' := w) (by kernel_rfl) (frZ hs) ?_ ?_
      · exact frY rfl (k_atK rfl (ev_tmp h103) (ev_tmp h105) hlt)
      revert hs hd h1 h2 h3 h9 h103 h104 h105; refine frM7 ?_; intro a hs hd h1 h2 h3 h9 h103 h104 h105 h107
      refine opL 1 108 (v := .agg #[.int .i8 l[i].1, .int .u8 l[i].2]) (w' := w) (by kernel_rfl) (frZ hs) ?_ ?_
      · exact frY rfl (k_loadKs rfl (ev_tmp h107) hc0 hc1)
      clear h107; revert hs hd h1 h2 h3 h9 h103 h104 h105; refine frM7 ?_; intro a hs hd h1 h2 h3 h9 h103 h104 h105 h108
      refine opL 2 11 (v := .pointer (some ⟨w.heap.size, 0, none⟩)) (w' := (w.alloc (.cells #[.int .i8 0, .int .u8 0] 59))) (by kernel_rfl) (frZ hs) ?_ ?_
      · exact frY rfl (k_allocK rfl)
      revert hs hd h1 h2 h3 h9 h103 h104 h105 h108; refine frM8 ?_; intro a hs hd h1 h2 h3 h9 h103 h104 h105 h108 h11
      obtain ⟨w1, hw1⟩ : ∃ w1, w1 = w.alloc (.cells #[.int .i8 0, .int .u8 0] 59) := ⟨_, rfl⟩
      rw [← hw1]
      have c1 : Blk w1 w.heap.size 59 #[.int .i8 0, .int .u8 0] := by rw [hw1]; exact Blk.alloc _ _ _
      have l1 : Below w.heap.size w w1 := by rw [hw1]; exact (Below.refl _ _).alloc (Nat.le_refl _) _
      clear hw1
      refine opL_store 3 (w' := (w1.setRow w.heap.size #[.int .i8 l[i].1, .int .u8 l[i].2])) (by kernel_rfl) ?_ ?_
      · exact frY rfl (k_storeS2 rfl (ev_tmp h11) (ev_tmp h108) c1 (by kernel_rfl) rfl rfl (by simp [Value.oneCell']))
      clear h108
      obtain ⟨w2, hw2⟩ : ∃ w2, w2 = w1.setRow w.heap.size #[.int .i8 l[i].1, .int .u8 l[i].2] := ⟨_, rfl⟩
      rw [← hw2]
      have c2 : Blk w2 w.heap.size 59 #[.int .i8 l[i].1, .int .u8 l[i].2] := by rw [hw2]; exact c1.setRow
      have l2 : Below w.heap.size w w2 := by rw [hw2]; exact l1.trans ((exc_setRow w1 w.heap.size #[.int .i8 l[i].1, .int .u8 l[i].2] w.heap.size).below (Nat.le_refl _))
      clear hw2
      have hO2 := hO.below l2
      have hB2 := hB.below l2 hB.lt
      refine wp_seq ?_
      refine reg28 a w2 _ (by repeat (first | exact hQ | refine blind_then ?_ | refine blind_block ?_)) w.heap.size most l[i].1 l[i].2 _ _ _ _ _ _ hs h1 h2 h3 h9 h11 h103 h104 h105 c2 hx.1 hx.2 hm0 hm1 ?_
      intro a w3 z' e' h1' h2' h3' h9' h12 h103' h104' h105' c3 l3
      replace hs := z'
      replace hd := e'.trans hd
      replace h1 := h1'
      replace h2 := h2'
      replace h3 := h3'
      replace h9 := h9'
      replace h103 := h103'
      replace h104 := h104'
      replace h105 := h105'
      clear h11
      have hO3 := hO2.below l3
      have hB3 := hB2.below l3 hB2.lt
      refine wp_seq ?_
      refine wp_region (show wpOps _ _ _ [0, 1, 2, 3, 4] _ _ from ?_)
      refine opL 0 120 (v := .pointer (some ⟨b3, 6, none⟩)) (w' := w3) (by kernel_rfl) (frZ hs) ?_ ?_
      · exact frY rfl (k_field6 rfl (ev_tmp h3))
      refine frN8 hs hd h1 h2 h3 h9 h103 h104 h105 h12 ?_; clear hs hd h1 h2 h3 h9 h103 h104 h105 h12; intro a hs hd h1 h2 h3 h9 h103 h104 h105 h12 h120
      refine opL 1 121 (v := .slice A ((Mk.weekOut most (l.take i)).map (·.1)).length cap) (w' := w3) (by kernel_rfl) (frZ hs) ?_ ?_
      · exact frY rfl (k_loadW rfl (ev_tmp h120) (hB3.cell 6))
      clear h120; revert hs hd h1 h2 h3 h9 h103 h104 h105 h12; refine frM8 ?_; intro a hs hd h1 h2 h3 h9 h103 h104 h105 h12 h121
      refine opL 2 122 (v := .agg #[.int .i64 (l[i].1.tmod (most + 1)), .int .i64 (l[i].2.tmod 7)]) (w' := w3) (by kernel_rfl) (frZ hs) ?_ ?_
      · exact frY rfl (k_loadNs rfl (ev_tmp h12) c3)
      revert hs hd h1 h2 h3 h9 h103 h104 h105 h12 h121; refine frM9 ?_; intro a hs hd h1 h2 h3 h9 h103 h104 h105 h12 h121 h122
      refine opL_call 3 123 (f := 36) (args := #[.slice A ((Mk.weekOut most (l.take i)).map (·.1)).length cap, .agg #[.int .i64 (l[i].1.tmod (most + 1)), .int .i64 (l[i].2.tmod 7)]]) (R := fun u w' => u = .bool (((Mk.weekOut most (l.take i)).map (·.1)).contains ((l[i].1.tmod (most + 1)), (l[i].2.tmod 7))) ∧ Below w3.heap.size w3 w') (by kernel_rfl) (frZ hs) ?z149 (containsW_own' ((l[i].1.tmod (most + 1)), (l[i].2.tmod 7)) hO3 (by simp; omega)) ?z150
      case z149 => exact frY rfl (c_ContainsN rfl rfl (ev_tmp h121) (ev_tmp h122))
      case z150 =>
      rintro _ w4 a ⟨rfl, l4⟩ F0
      rw [hcn] at F0
      replace hs := F0.z.trans hs
      replace hd := F0.e.trans hd
      replace h1 := (F0.n 1 (by decide)).trans h1
      replace h2 := (F0.n 2 (by decide)).trans h2
      replace h3 := (F0.n 3 (by decide)).trans h3
      replace h9 := (F0.n 9 (by decide)).trans h9
      replace h103 := (F0.n 103 (by decide)).trans h103
      replace h104 := (F0.n 104 (by decide)).trans h104
      replace h105 := (F0.n 105 (by decide)).trans h105
      replace h12 := (F0.n 12 (by decide)).trans h12
      clear h121
      clear h122
      have h123 := F0.s
      clear F0
      have hO4 := hO3.below l4
      have hB4 := hB3.below l4 hB3.lt
      have c4 := c3.below l4 c3.lt
      refine opL 4 124 (v := .bool true) (w' := w4) (by kernel_rfl) (frZ hs) ?_ ?_
      · exact frY rfl (o_not rfl (ev_tmp h123) rfl)
      refine frN8 hs hd h1 h2 h3 h9 h103 h104 h105 h12 ?_; clear hs hd h1 h2 h3 h9 h103 h104 h105 h12 h123; intro a hs hd h1 h2 h3 h9 h103 h104 h105 h12 h124
      refine wp_cond_true (ev_tmp h124) ?_
      refine wp_region (show wpOps _ _ _ [0, 1, 2, 3, 4, 5, 6] _ _ from ?_)
      refine opL 0 125 (v := .pointer (some ⟨b3, 6, none⟩)) (w' := w4) (by kernel_rfl) (frZ hs) ?_ ?_
      · exact frY rfl (k_field6 rfl (ev_tmp h3))
      revert hs hd h1 h2 h3 h9 h103 h104 h105 h12 h124; refine frM9 ?_; intro a hs hd h1 h2 h3 h9 h103 h104 h105 h12 h124 h125
      refine opL 1 126 (v := .slice A ((Mk.weekOut most (l.take i)).map (·.1)).length cap) (w' := w4) (by kernel_rfl) (frZ hs) ?_ ?_
      · exact frY rfl (k_loadW rfl (ev_tmp h125) (hB4.cell 6))
      clear h125; revert hs hd h1 h2 h3 h9 h103 h104 h105 h12 h124; refine frM9 ?_; intro a hs hd h1 h2 h3 h9 h103 h104 h105 h12 h124 h126
      refine opL 2 127 (v := .agg #[.int .i64 (l[i].1.tmod (most + 1)), .int .i64 (l[i].2.tmod 7)]) (w' := w4) (by kernel_rfl) (frZ hs) ?_ ?_
      · exact frY rfl (k_loadNs rfl (ev_tmp h12) c4)
      revert hs hd h1 h2 h3 h9 h103 h104 h105 h12 h124 h126; refine frM10 ?_; intro a hs hd h1 h2 h3 h9 h103 h104 h105 h12 h124 h126 h127
      refine opL 3 128 (v := .slice (some ⟨w4.heap.size, 0, none⟩) 1 1) (w' := (w4.alloc (.cells #[.int .i64 (l[i].1.tmod (most + 1)), .int .i64 (l[i].2.tmod 7)] 51))) (by kernel_rfl) (frZ hs) ?_ ?_
      · exact frY rfl (k_sliceN rfl (ev_tmp h127))
      clear h127; revert hs hd h1 h2 h3 h9 h103 h104 h105 h12 h124 h126; refine frM10 ?_; intro a hs hd h1 h2 h3 h9 h103 h104 h105 h12 h124 h126 h128
      obtain ⟨w5, hw5⟩ : ∃ w5, w5 = w4.alloc (.cells #[.int .i64 (l[i].1.tmod (most + 1)), .int .i64 (l[i].2.tmod 7)] 51) := ⟨_, rfl⟩
      rw [← hw5]
      have c5 : Blk w5 w4.heap.size 51 #[.int .i64 (l[i].1.tmod (most + 1)), .int .i64 (l[i].2.tmod 7)] := by rw [hw5]; exact Blk.alloc _ _ _
      have l5 : Below w4.heap.size w4 w5 := by rw [hw5]; exact (Below.refl _ _).alloc (Nat.le_refl _) _
      clear hw5
      have hO5 := hO4.below l5
      have hB5 := hB4.below l5 hB4.lt
      have hl5 : ws.heap.size ≤ w5.heap.size := Nat.le_trans hE.size (Nat.le_trans l2.size (Nat.le_trans l3.size (Nat.le_trans l4.size l5.size)))
      obtain ⟨v', w6, hr, hO6, hE6⟩ := append_nth (c := 1) hO5 (c5.cell 0) (c5.cell 1) (by simp; omega) hl5
      have eN : (Mk.weekOut most (l.take i)).map (·.1) ++ [((l[i].1.tmod (most + 1)), (l[i].2.tmod 7))] = (Mk.weekOut most (l.take (i + 1))).map (·.1) := by rw [Mk.weekOut_take hlt, Mk.wput, hv, if_neg (by rw [hcn]; decide), List.map_append]; simp only [List.map_cons, List.map_nil, hv]
      rw [eN] at hO6
      obtain ⟨A', cap', rfl, -, -, -⟩ := hO6.nths
      have hB6 := hB5.exc (hE6 ws.heap.size ws.heap.size (Nat.le_refl _)) hb3 (by omega)
      refine opL 4 129 (v := .slice A' ((Mk.weekOut most (l.take (i + 1))).map (·.1)).length cap') (w' := w6) (by kernel_rfl) (frZ hs) ?_ ?_
      · exact frY rfl (k_append rfl rfl (ev_tmp h126) (ev_tmp h128) hr)
      refine frN9 hs hd h1 h2 h3 h9 h103 h104 h105 h12 h124 ?_; clear hs hd h1 h2 h3 h9 h103 h104 h105 h12 h124 h126 h128; intro a hs hd h1 h2 h3 h9 h103 h104 h105 h12 h124 h129
      refine opL 5 130 (v := .pointer (some ⟨b3, 6, none⟩)) (w' := w6) (by kernel_rfl) (frZ hs) ?_ ?_
      · exact frY rfl (k_field6 rfl (ev_tmp h3))
      revert hs hd h1 h2 h3 h9 h103 h104 h105 h12 h124 h129; refine frM10 ?_; intro a hs hd h1 h2 h3 h9 h103 h104 h105 h12 h124 h129 h130
      refine opL_store 6 (w' := (w6.setCell ⟨b3, 6, none⟩ (.slice A' ((Mk.weekOut most (l.take (i + 1))).map (·.1)).length cap'))) (by kernel_rfl) ?_ ?_
      · exact frY rfl (k_storeW rfl (ev_tmp h130) (ev_tmp h129) hB6 (by simp))
      clear h129
      clear h130
      obtain ⟨w7, hw7⟩ : ∃ w7, w7 = w6.setCell ⟨b3, 6, none⟩ (.slice A' ((Mk.weekOut most (l.take (i + 1))).map (·.1)).length cap') := ⟨_, rfl⟩
      rw [← hw7]
      have hB7 : Blk w7 b3 36 #[x0, x1, x2, x3, x4, x5, .slice A' ((Mk.weekOut most (l.take (i + 1))).map (·.1)).length cap', .slice none 0 0] := by rw [hw7]; exact hB6.set 6 _
      have hE7 : ∀ B, Exc B b3 w6 w7 := by rw [hw7]; exact exc_set w6 b3 6 _
      clear hw7
      refine wp_region (show wpOps _ _ _ [0, 1] _ _ from ?_)
      refine opL 0 131 (v := .int .i64 (i + 1 : Nat)) (w' := w7) (by kernel_rfl) (frZ hs) ?_ ?_
      · exact frY rfl (o_addI rfl (ev_tmp h105) rfl (wrap_small (n := (i : Int) + 1) (by omega) (by omega)))
      refine frN9 hs hd h1 h2 h3 h9 h103 h104 h105 h12 h124 ?_; clear hs hd h1 h2 h3 h9 h103 h104 h105 h12 h124; intro a hs hd h1 h2 h3 h9 h103 h104 h105 h12 h124 h131
      refine opL 1 105 (v := .int .i64 (i + 1 : Nat)) (w' := w7) (by kernel_rfl) (frZ hs) ?_ ?_
      · exact frY rfl (k_move rfl (ev_tmp h131))
      clear h105 h131; revert hs hd h1 h2 h3 h9 h103 h104 h12 h124; refine frM8 ?_; intro a hs hd h1 h2 h3 h9 h103 h104 h12 h124 h105
      refine ⟨⟨i + 1, A', cap', ⟨hd, hs, h1, h2, h3, h9, h103, h104, h105, by omega, hB7, hO6.exc (hE7 w6.heap.size) (fun g hg => ⟨(hO6.lt g hg).2, by have := (hO6.lt g hg).1; omega⟩), ((hE.trans (Exc.of ((l2.mono hE.size).trans ((l3.mono (Nat.le_trans hE.size l2.size)).trans (l4.mono (Nat.le_trans hE.size (Nat.le_trans l2.size l3.size))))))).trans (Exc.of (l5.mono (Nat.le_trans hE.size (Nat.le_trans l2.size (Nat.le_trans l3.size l4.size)))))).trans ((hE6 ws.heap.size b3 (Nat.le_refl _)).trans (hE7 ws.heap.size))⟩⟩, ?_⟩
      rw [h105]
      show (l.length - ((i + 1 : Nat) : Int)).toNat < (l.length - (i : Int)).toNat
      omega
  · obtain rfl : i = l.length := by omega
    refine wp_seq ?_
    refine wp_region (show wpOps _ _ _ [0] _ _ from ?_)
    refine opL 0 106 (v := .bool false) (w' := w) (by kernel_rfl) (frZ hs) ?_ ?_
    · exact frY rfl (o_ltI rfl (ev_tmp h105) (ev_tmp h104) (decide_eq_false (by omega)))
    refine frN7 hs hd h1 h2 h3 h9 h103 h104 h105 ?_; clear hs hd h1 h2 h3 h9 h103 h104 h105; intro a hs hd h1 h2 h3 h9 h103 h104 h105 h106
    refine wp_seq ?_
    refine wp_cond_false (ev_tmp h106) ?_
    clear h106
    refine wp_exit ?_
    exact hend rfl a hd hs h1 h2 h3
end Go.Proofs.YtnggajehngemmaaGreatDoor
