/-
  The law's few: numbers, each once, sorted.
-/
import Derived.Test.YtfhhlebadmkckaaDoorMk
import Derived.Test.YtfhhlebadmkckaaDoorMemR
import Derived.Test.YtfhhlebadmkckaaDoorKop
namespace Go.Proofs.YtfhhlebadmkckaaDoor
open Go.RowKit
theorem OwnI.get {w : World} {base : Nat} {A : Option Addr} {n cap : Nat} {L : List Int} (h : OwnI w base (.slice A n cap) L) (i : Nat) (hi : i < L.length) : ∃ g, A = some ⟨g, 0, none⟩ ∧ w.cell? ⟨g, i, none⟩ = some (.int .i64 L[i]) := by
  rcases h.2 with ⟨-, hn⟩ | ⟨g, c, cur, e, -⟩
  · omega
  · obtain ⟨A', c', e', -, -, hin⟩ := h.ints
    obtain ⟨rfl, -, -⟩ := Value.slice.inj e
    obtain ⟨rfl, -, -⟩ := Value.slice.inj e'
    obtain ⟨ad, e2, -, hc⟩ := hin i hi
    obtain rfl := Option.some.inj e2
    have e3 : (⟨g, 0, none⟩ : Addr).add i = ⟨g, i, none⟩ := by simp [Addr.add]; omega
    rw [e3] at hc
    exact ⟨g, rfl, hc⟩
/-- what holds ahead of each round -/
structure FewI (w0 : World) (b0 : Nat) (most : Int) (A0 : Option Addr) (c0 : Nat) (l : List Int) (i : Nat) (A : Option Addr) (cap : Nat) (a : Act) (w : World) : Prop where
  d : a.defers = []
  z : a.tmps.size = 34
  s1 : a.tmps.getD 1 undef = .int .i64 most
  s5 : a.tmps.getD 5 undef = .slice A (Mk.fewOut most (l.take i)).length cap
  s8 : a.tmps.getD 8 undef = .slice A0 l.length c0
  s9 : a.tmps.getD 9 undef = .int .i64 l.length
  s10 : a.tmps.getD 10 undef = .int .i64 i
  iN : i ≤ l.length
  o : OwnI w w0.heap.size (.slice A (Mk.fewOut most (l.take i)).length cap) (Mk.fewOut most (l.take i))
  src : OwnI w b0 (.slice A0 l.length c0) l
  b : Below w0.heap.size w0 w
noncomputable def fewRound : Code := (Tryd.f18.body.bind loopOf).getD .skip

theorem contains_own' {w : World} {base : Nat} {v : Value} {L : List Int} (x : Int) (h : OwnI w base v L) (hl : L.length ≤ 1000000) : Calls Tryd.prog 30 #[v, .int .i64 x] w fun e w' => ∃ v, e = .returned v ∧ v = .bool (L.contains x) ∧ w = w' :=
  (contains_own x h hl).mono fun _ _ h => ⟨_, h.1, rfl, h.2.symm⟩
set_option maxRecDepth 100000 in
set_option maxHeartbeats 1000000 in
theorem few_round (w0 : World) (b0 : Nat) (most : Int) (A0 : Option Addr) (c0 : Nat) (l : List Int) (hsrc : ∀ g, (Value.slice A0 l.length c0).ownBlock = some g → g < w0.heap.size) (hl : l.length ≤ 1000) (hm0 : 0 ≤ most) (hm1 : most ≤ 1000) (i : Nat) (A : Option Addr) (cap : Nat) (a : Act) (w : World) (Q : Exit → Act → World → Prop)
    (J : FewI w0 b0 most A0 c0 l i A cap a w) (hend : i = l.length → ∀ a' : Act, a'.defers = [] → a'.tmps.size = 34 → a'.tmps.getD 5 undef = .slice A (Mk.fewOut most (l.take i)).length cap → Q (.exit 0) a' w) :
    fewRound.wp Tryd.prog (Exit.then (fun a' w' => (∃ i A cap, FewI w0 b0 most A0 c0 l i A cap a' w') ∧ (l.length - intOf (a'.tmps.getD 10 undef)).toNat < (l.length - intOf (a.tmps.getD 10 undef)).toNat) Q) a w := by
  have hd := J.d; have hs := J.z; have h1 := J.s1; have h5 := J.s5; have h8 := J.s8; have h9 := J.s9; have h10 := J.s10
  have hiN := J.iN; have hO := J.o; have hS := J.src; have hb := J.b
  have hlen := Mk.fewOut_len most l i hiN
  have k10 : (l.length - intOf (a.tmps.getD 10 undef)).toNat = (l.length - (i : Int)).toNat := by rw [h10]; rfl
  rw [k10]
  clear k10 J
  unfold fewRound
  conv => arg 2; whnf
  by_cases hlt : i < l.length
  · clear hend
    obtain ⟨g, rfl, hc⟩ := hS.get i hlt
    obtain ⟨k, hk⟩ : ∃ k, k = l[i].tmod (most + 1) := ⟨_, rfl⟩
    cases hz : (k != 0)
    case false =>
      refine wp_seq ?_
      refine wp_region (show wpOps _ _ _ [0] _ _ from ?_)
      refine opL 0 11 (v := .bool true) (w' := w) (by kernel_rfl) (by rw [hs]; decide) ?z1 ?z2
      case z1 => (intro o ho; obtain rfl := Option.some.inj ho; exact ⟨rfl, o_ltI rfl (ev_tmp h10) (ev_tmp h9) (decide_eq_true (by omega))⟩)
      case z2 =>
      intro a F0
      replace hs := F0.z.trans hs
      replace hd := F0.e.trans hd
      replace h1 := (F0.n 1 (by decide)).trans h1
      replace h5 := (F0.n 5 (by decide)).trans h5
      replace h8 := (F0.n 8 (by decide)).trans h8
      replace h9 := (F0.n 9 (by decide)).trans h9
      replace h10 := (F0.n 10 (by decide)).trans h10
      have h11 := F0.s
      clear F0
      refine wp_seq ?_
      refine wp_cond_true (ev_tmp h11) ?_
      clear h11
      refine wp_skip ?_
      refine wp_seq ?_
      refine wp_block ?_
      refine wp_seq ?_
      refine wp_region (show wpOps _ _ _ [0, 1, 2] _ _ from ?_)
      refine opL 0 12 (v := .pointer (some ⟨g, i, none⟩)) (w' := w) (by kernel_rfl) (by rw [hs]; decide) ?z3 ?z4
      case z3 => (intro o ho; obtain rfl := Option.some.inj ho; exact ⟨rfl, k_at rfl rfl (ev_tmp h8) (ev_tmp h10) hlt⟩)
      case z4 =>
      intro a F0
      replace hs := F0.z.trans hs
      replace hd := F0.e.trans hd
      replace h1 := (F0.n 1 (by decide)).trans h1
      replace h5 := (F0.n 5 (by decide)).trans h5
      replace h8 := (F0.n 8 (by decide)).trans h8
      replace h9 := (F0.n 9 (by decide)).trans h9
      replace h10 := (F0.n 10 (by decide)).trans h10
      have h12 := F0.s
      clear F0
      refine opL 1 13 (v := .int .i64 l[i]) (w' := w) (by kernel_rfl) (by rw [hs]; decide) ?z5 ?z6
      case z5 => (intro o ho; obtain rfl := Option.some.inj ho; exact ⟨rfl, k_loadI rfl (ev_tmp h12) hc⟩)
      case z6 =>
      intro a F0
      replace hs := F0.z.trans hs
      replace hd := F0.e.trans hd
      replace h1 := (F0.n 1 (by decide)).trans h1
      replace h5 := (F0.n 5 (by decide)).trans h5
      replace h8 := (F0.n 8 (by decide)).trans h8
      replace h9 := (F0.n 9 (by decide)).trans h9
      replace h10 := (F0.n 10 (by decide)).trans h10
      clear h12
      have h13 := F0.s
      clear F0
      refine opL 2 7 (v := .int .i64 l[i]) (w' := w) (by kernel_rfl) (by rw [hs]; decide) ?z7 ?z8
      case z7 => (intro o ho; obtain rfl := Option.some.inj ho; exact ⟨rfl, k_assign rfl (ev_tmp h13)⟩)
      case z8 =>
      intro a F0
      replace hs := F0.z.trans hs
      replace hd := F0.e.trans hd
      replace h1 := (F0.n 1 (by decide)).trans h1
      replace h5 := (F0.n 5 (by decide)).trans h5
      replace h8 := (F0.n 8 (by decide)).trans h8
      replace h9 := (F0.n 9 (by decide)).trans h9
      replace h10 := (F0.n 10 (by decide)).trans h10
      clear h13
      have h7 := F0.s
      clear F0
      refine wp_seq ?_
      refine wp_region (show wpOps _ _ _ [0, 1, 2, 3, 4] _ _ from ?_)
      refine opL 0 14 (v := .int .i64 l[i]) (w' := w) (by kernel_rfl) (by rw [hs]; decide) ?z9 ?z10
      case z9 => (intro o ho; obtain rfl := Option.some.inj ho; exact ⟨rfl, k_move rfl (ev_tmp h7)⟩)
      case z10 =>
      intro a F0
      replace hs := F0.z.trans hs
      replace hd := F0.e.trans hd
      replace h1 := (F0.n 1 (by decide)).trans h1
      replace h5 := (F0.n 5 (by decide)).trans h5
      replace h8 := (F0.n 8 (by decide)).trans h8
      replace h9 := (F0.n 9 (by decide)).trans h9
      replace h10 := (F0.n 10 (by decide)).trans h10
      replace h7 := (F0.n 7 (by decide)).trans h7
      have h14 := F0.s
      clear F0
      refine opL 1 15 (v := .int .i64 most) (w' := w) (by kernel_rfl) (by rw [hs]; decide) ?z11 ?z12
      case z11 => (intro o ho; obtain rfl := Option.some.inj ho; exact ⟨rfl, k_move rfl (ev_tmp h1)⟩)
      case z12 =>
      intro a F0
      replace hs := F0.z.trans hs
      replace hd := F0.e.trans hd
      replace h1 := (F0.n 1 (by decide)).trans h1
      replace h5 := (F0.n 5 (by decide)).trans h5
      replace h8 := (F0.n 8 (by decide)).trans h8
      replace h9 := (F0.n 9 (by decide)).trans h9
      replace h10 := (F0.n 10 (by decide)).trans h10
      replace h7 := (F0.n 7 (by decide)).trans h7
      replace h14 := (F0.n 14 (by decide)).trans h14
      have h15 := F0.s
      clear F0
      refine opL 2 16 (v := .int .i64 (most + 1)) (w' := w) (by kernel_rfl) (by rw [hs]; decide) ?z13 ?z14
      case z13 => (intro o ho; obtain rfl := Option.some.inj ho; exact ⟨rfl, o_addI rfl (ev_tmp h15) rfl (wrap_small (by omega) (by omega))⟩)
      case z14 =>
      intro a F0
      replace hs := F0.z.trans hs
      replace hd := F0.e.trans hd
      replace h1 := (F0.n 1 (by decide)).trans h1
      replace h5 := (F0.n 5 (by decide)).trans h5
      replace h8 := (F0.n 8 (by decide)).trans h8
      replace h9 := (F0.n 9 (by decide)).trans h9
      replace h10 := (F0.n 10 (by decide)).trans h10
      replace h7 := (F0.n 7 (by decide)).trans h7
      replace h14 := (F0.n 14 (by decide)).trans h14
      clear h15
      have h16 := F0.s
      clear F0
      refine opL 3 17 (v := .int .i64 k) (w' := w) (by kernel_rfl) (by rw [hs]; decide) ?z15 ?z16
      case z15 => (intro o ho; obtain rfl := Option.some.inj ho; exact ⟨rfl, o_remI rfl (ev_tmp h14) (ev_tmp h16) (by omega) hk.symm⟩)
      case z16 =>
      intro a F0
      replace hs := F0.z.trans hs
      replace hd := F0.e.trans hd
      replace h1 := (F0.n 1 (by decide)).trans h1
      replace h5 := (F0.n 5 (by decide)).trans h5
      replace h8 := (F0.n 8 (by decide)).trans h8
      replace h9 := (F0.n 9 (by decide)).trans h9
      replace h10 := (F0.n 10 (by decide)).trans h10
      replace h7 := (F0.n 7 (by decide)).trans h7
      clear h14
      clear h16
      have h17 := F0.s
      clear F0
      refine opL 4 7 (v := .int .i64 k) (w' := w) (by kernel_rfl) (by rw [hs]; decide) ?z17 ?z18
      case z17 => (intro o ho; obtain rfl := Option.some.inj ho; exact ⟨rfl, k_assign rfl (ev_tmp h17)⟩)
      case z18 =>
      intro a F0
      replace hs := F0.z.trans hs
      replace hd := F0.e.trans hd
      replace h1 := (F0.n 1 (by decide)).trans h1
      replace h5 := (F0.n 5 (by decide)).trans h5
      replace h8 := (F0.n 8 (by decide)).trans h8
      replace h9 := (F0.n 9 (by decide)).trans h9
      replace h10 := (F0.n 10 (by decide)).trans h10
      clear h7
      clear h17
      have h7 := F0.s
      clear F0
      refine wp_seq ?_
      refine wp_region (show wpOps _ _ _ [0, 1, 2, 3, 4, 5, 6, 7] _ _ from ?_)
      refine opL 0 18 (v := .int .i64 k) (w' := w) (by kernel_rfl) (by rw [hs]; decide) ?z19 ?z20
      case z19 => (intro o ho; obtain rfl := Option.some.inj ho; exact ⟨rfl, k_move rfl (ev_tmp h7)⟩)
      case z20 =>
      intro a F0
      replace hs := F0.z.trans hs
      replace hd := F0.e.trans hd
      replace h1 := (F0.n 1 (by decide)).trans h1
      replace h5 := (F0.n 5 (by decide)).trans h5
      replace h8 := (F0.n 8 (by decide)).trans h8
      replace h9 := (F0.n 9 (by decide)).trans h9
      replace h10 := (F0.n 10 (by decide)).trans h10
      replace h7 := (F0.n 7 (by decide)).trans h7
      have h18 := F0.s
      clear F0
      refine opL 1 19 (v := .bool false) (w' := w) (by kernel_rfl) (by rw [hs]; decide) ?z21 ?z22
      case z21 => (intro o ho; obtain rfl := Option.some.inj ho; exact ⟨rfl, o_neI rfl (ev_tmp h18) rfl hz⟩)
      case z22 =>
      intro a F0
      replace hs := F0.z.trans hs
      replace hd := F0.e.trans hd
      replace h1 := (F0.n 1 (by decide)).trans h1
      replace h5 := (F0.n 5 (by decide)).trans h5
      replace h8 := (F0.n 8 (by decide)).trans h8
      replace h9 := (F0.n 9 (by decide)).trans h9
      replace h10 := (F0.n 10 (by decide)).trans h10
      replace h7 := (F0.n 7 (by decide)).trans h7
      clear h18
      have h19 := F0.s
      clear F0
      refine opL 2 20 (v := .bool false) (w' := w) (by kernel_rfl) (by rw [hs]; decide) ?z23 ?z24
      case z23 => (intro o ho; obtain rfl := Option.some.inj ho; exact ⟨rfl, k_move rfl (ev_tmp h19)⟩)
      case z24 =>
      intro a F0
      replace hs := F0.z.trans hs
      replace hd := F0.e.trans hd
      replace h1 := (F0.n 1 (by decide)).trans h1
      replace h5 := (F0.n 5 (by decide)).trans h5
      replace h8 := (F0.n 8 (by decide)).trans h8
      replace h9 := (F0.n 9 (by decide)).trans h9
      replace h10 := (F0.n 10 (by decide)).trans h10
      replace h7 := (F0.n 7 (by decide)).trans h7
      clear h19
      have h20 := F0.s
      clear F0
      refine opL_not 3 21 (by kernel_rfl) (by rw [hs]; decide) ?z25 ?z26
      case z25 => (intro o ho; obtain rfl := Option.some.inj ho; exact wanted_at (b := false) (want := true) rfl (by kernel_rfl) h20)
      case z26 =>
      intro a F0
      replace hs := F0.z.trans hs
      replace hd := F0.e.trans hd
      replace h1 := (F0.n 1 (by decide)).trans h1
      replace h5 := (F0.n 5 (by decide)).trans h5
      replace h8 := (F0.n 8 (by decide)).trans h8
      replace h9 := (F0.n 9 (by decide)).trans h9
      replace h10 := (F0.n 10 (by decide)).trans h10
      replace h7 := (F0.n 7 (by decide)).trans h7
      replace h20 := (F0.n 20 (by decide)).trans h20
      have h21 := F0.s
      clear F0
      refine opL_not 4 22 (by kernel_rfl) (by rw [hs]; decide) ?z27 ?z28
      case z27 => (intro o ho; obtain rfl := Option.some.inj ho; exact wanted_at (b := false) (want := true) rfl (by kernel_rfl) h20)
      case z28 =>
      intro a F0
      replace hs := F0.z.trans hs
      replace hd := F0.e.trans hd
      replace h1 := (F0.n 1 (by decide)).trans h1
      replace h5 := (F0.n 5 (by decide)).trans h5
      replace h8 := (F0.n 8 (by decide)).trans h8
      replace h9 := (F0.n 9 (by decide)).trans h9
      replace h10 := (F0.n 10 (by decide)).trans h10
      replace h7 := (F0.n 7 (by decide)).trans h7
      replace h20 := (F0.n 20 (by decide)).trans h20
      replace h21 := (F0.n 21 (by decide)).trans h21
      have h22 := F0.s
      clear F0
      refine opL_not 5 23 (by kernel_rfl) (by rw [hs]; decide) ?z29 ?z30
      case z29 => (intro o ho; obtain rfl := Option.some.inj ho; exact wanted_at (b := false) (want := true) rfl (by kernel_rfl) h20)
      case z30 =>
      intro a F0
      replace hs := F0.z.trans hs
      replace hd := F0.e.trans hd
      replace h1 := (F0.n 1 (by decide)).trans h1
      replace h5 := (F0.n 5 (by decide)).trans h5
      replace h8 := (F0.n 8 (by decide)).trans h8
      replace h9 := (F0.n 9 (by decide)).trans h9
      replace h10 := (F0.n 10 (by decide)).trans h10
      replace h7 := (F0.n 7 (by decide)).trans h7
      replace h20 := (F0.n 20 (by decide)).trans h20
      clear h21
      clear h22
      have h23 := F0.s
      clear F0
      refine opL_not 6 24 (by kernel_rfl) (by rw [hs]; decide) ?z31 ?z32
      case z31 => (intro o ho; obtain rfl := Option.some.inj ho; exact wanted_at (b := false) (want := true) rfl (by kernel_rfl) h20)
      case z32 =>
      intro a F0
      replace hs := F0.z.trans hs
      replace hd := F0.e.trans hd
      replace h1 := (F0.n 1 (by decide)).trans h1
      replace h5 := (F0.n 5 (by decide)).trans h5
      replace h8 := (F0.n 8 (by decide)).trans h8
      replace h9 := (F0.n 9 (by decide)).trans h9
      replace h10 := (F0.n 10 (by decide)).trans h10
      replace h7 := (F0.n 7 (by decide)).trans h7
      replace h20 := (F0.n 20 (by decide)).trans h20
      clear h23
      have h24 := F0.s
      clear F0
      refine opL 7 25 (v := .bool false) (w' := w) (by kernel_rfl) (by rw [hs]; decide) ?z33 ?z34
      case z33 => (intro o ho; obtain rfl := Option.some.inj ho; exact ⟨rfl, k_pick_no rfl (ev_tmp h20) rfl⟩)
      case z34 =>
      intro a F0
      replace hs := F0.z.trans hs
      replace hd := F0.e.trans hd
      replace h1 := (F0.n 1 (by decide)).trans h1
      replace h5 := (F0.n 5 (by decide)).trans h5
      replace h8 := (F0.n 8 (by decide)).trans h8
      replace h9 := (F0.n 9 (by decide)).trans h9
      replace h10 := (F0.n 10 (by decide)).trans h10
      replace h7 := (F0.n 7 (by decide)).trans h7
      clear h20
      clear h24
      have h25 := F0.s
      clear F0
      refine wp_cond_false (ev_tmp h25) ?_
      refine wp_skip ?_
      refine wp_region (show wpOps _ _ _ [0, 1] _ _ from ?_)
      refine opL 0 30 (v := .int .i64 (i + 1 : Nat)) (w' := w) (by kernel_rfl) (by rw [hs]; decide) ?z35 ?z36
      case z35 => (intro o ho; obtain rfl := Option.some.inj ho; exact ⟨rfl, o_addI rfl (ev_tmp h10) rfl (wrap_small (n := (i : Int) + 1) (by omega) (by omega))⟩)
      case z36 =>
      intro a F0
      replace hs := F0.z.trans hs
      replace hd := F0.e.trans hd
      replace h1 := (F0.n 1 (by decide)).trans h1
      replace h5 := (F0.n 5 (by decide)).trans h5
      replace h8 := (F0.n 8 (by decide)).trans h8
      replace h9 := (F0.n 9 (by decide)).trans h9
      replace h10 := (F0.n 10 (by decide)).trans h10
      replace h7 := (F0.n 7 (by decide)).trans h7
      replace h25 := (F0.n 25 (by decide)).trans h25
      have h30 := F0.s
      clear F0
      refine opL 1 10 (v := .int .i64 (i + 1 : Nat)) (w' := w) (by kernel_rfl) (by rw [hs]; decide) ?z37 ?z38
      case z37 => (intro o ho; obtain rfl := Option.some.inj ho; exact ⟨rfl, k_move rfl (ev_tmp h30)⟩)
      case z38 =>
      intro a F0
      replace hs := F0.z.trans hs
      replace hd := F0.e.trans hd
      replace h1 := (F0.n 1 (by decide)).trans h1
      replace h5 := (F0.n 5 (by decide)).trans h5
      replace h8 := (F0.n 8 (by decide)).trans h8
      replace h9 := (F0.n 9 (by decide)).trans h9
      clear h10
      replace h7 := (F0.n 7 (by decide)).trans h7
      replace h25 := (F0.n 25 (by decide)).trans h25
      clear h30
      have h10 := F0.s
      clear F0
      have eN : Mk.fewOut most (l.take (i + 1)) = Mk.fewOut most (l.take i) := by rw [Mk.fewOut_take hlt, ← hk]; simp only [Mk.put, hz]; rfl
      rw [← eN] at h5 hO
      refine ⟨⟨i + 1, A, cap, ⟨hd, hs, h1, h5, h8, h9, h10, by omega, hO, hS, hb⟩⟩, ?_⟩
      rw [h10]
      show (l.length - ((i + 1 : Nat) : Int)).toNat < (l.length - (i : Int)).toNat
      omega
    case true =>
      cases hcn : (Mk.fewOut most (l.take i)).contains k
      case true =>
        refine wp_seq ?_
        refine wp_region (show wpOps _ _ _ [0] _ _ from ?_)
        refine opL 0 11 (v := .bool true) (w' := w) (by kernel_rfl) (by rw [hs]; decide) ?z39 ?z40
        case z39 => (intro o ho; obtain rfl := Option.some.inj ho; exact ⟨rfl, o_ltI rfl (ev_tmp h10) (ev_tmp h9) (decide_eq_true (by omega))⟩)
        case z40 =>
        intro a F0
        replace hs := F0.z.trans hs
        replace hd := F0.e.trans hd
        replace h1 := (F0.n 1 (by decide)).trans h1
        replace h5 := (F0.n 5 (by decide)).trans h5
        replace h8 := (F0.n 8 (by decide)).trans h8
        replace h9 := (F0.n 9 (by decide)).trans h9
        replace h10 := (F0.n 10 (by decide)).trans h10
        have h11 := F0.s
        clear F0
        refine wp_seq ?_
        refine wp_cond_true (ev_tmp h11) ?_
        clear h11
        refine wp_skip ?_
        refine wp_seq ?_
        refine wp_block ?_
        refine wp_seq ?_
        refine wp_region (show wpOps _ _ _ [0, 1, 2] _ _ from ?_)
        refine opL 0 12 (v := .pointer (some ⟨g, i, none⟩)) (w' := w) (by kernel_rfl) (by rw [hs]; decide) ?z41 ?z42
        case z41 => (intro o ho; obtain rfl := Option.some.inj ho; exact ⟨rfl, k_at rfl rfl (ev_tmp h8) (ev_tmp h10) hlt⟩)
        case z42 =>
        intro a F0
        replace hs := F0.z.trans hs
        replace hd := F0.e.trans hd
        replace h1 := (F0.n 1 (by decide)).trans h1
        replace h5 := (F0.n 5 (by decide)).trans h5
        replace h8 := (F0.n 8 (by decide)).trans h8
        replace h9 := (F0.n 9 (by decide)).trans h9
        replace h10 := (F0.n 10 (by decide)).trans h10
        have h12 := F0.s
        clear F0
        refine opL 1 13 (v := .int .i64 l[i]) (w' := w) (by kernel_rfl) (by rw [hs]; decide) ?z43 ?z44
        case z43 => (intro o ho; obtain rfl := Option.some.inj ho; exact ⟨rfl, k_loadI rfl (ev_tmp h12) hc⟩)
        case z44 =>
        intro a F0
        replace hs := F0.z.trans hs
        replace hd := F0.e.trans hd
        replace h1 := (F0.n 1 (by decide)).trans h1
        replace h5 := (F0.n 5 (by decide)).trans h5
        replace h8 := (F0.n 8 (by decide)).trans h8
        replace h9 := (F0.n 9 (by decide)).trans h9
        replace h10 := (F0.n 10 (by decide)).trans h10
        clear h12
        have h13 := F0.s
        clear F0
        refine opL 2 7 (v := .int .i64 l[i]) (w' := w) (by kernel_rfl) (by rw [hs]; decide) ?z45 ?z46
        case z45 => (intro o ho; obtain rfl := Option.some.inj ho; exact ⟨rfl, k_assign rfl (ev_tmp h13)⟩)
        case z46 =>
        intro a F0
        replace hs := F0.z.trans hs
        replace hd := F0.e.trans hd
        replace h1 := (F0.n 1 (by decide)).trans h1
        replace h5 := (F0.n 5 (by decide)).trans h5
        replace h8 := (F0.n 8 (by decide)).trans h8
        replace h9 := (F0.n 9 (by decide)).trans h9
        replace h10 := (F0.n 10 (by decide)).trans h10
        clear h13
        have h7 := F0.s
        clear F0
        refine wp_seq ?_
        refine wp_region (show wpOps _ _ _ [0, 1, 2, 3, 4] _ _ from ?_)
        refine opL 0 14 (v := .int .i64 l[i]) (w' := w) (by kernel_rfl) (by rw [hs]; decide) ?z47 ?z48
        case z47 => (intro o ho; obtain rfl := Option.some.inj ho; exact ⟨rfl, k_move rfl (ev_tmp h7)⟩)
        case z48 =>
        intro a F0
        replace hs := F0.z.trans hs
        replace hd := F0.e.trans hd
        replace h1 := (F0.n 1 (by decide)).trans h1
        replace h5 := (F0.n 5 (by decide)).trans h5
        replace h8 := (F0.n 8 (by decide)).trans h8
        replace h9 := (F0.n 9 (by decide)).trans h9
        replace h10 := (F0.n 10 (by decide)).trans h10
        replace h7 := (F0.n 7 (by decide)).trans h7
        have h14 := F0.s
        clear F0
        refine opL 1 15 (v := .int .i64 most) (w' := w) (by kernel_rfl) (by rw [hs]; decide) ?z49 ?z50
        case z49 => (intro o ho; obtain rfl := Option.some.inj ho; exact ⟨rfl, k_move rfl (ev_tmp h1)⟩)
        case z50 =>
        intro a F0
        replace hs := F0.z.trans hs
        replace hd := F0.e.trans hd
        replace h1 := (F0.n 1 (by decide)).trans h1
        replace h5 := (F0.n 5 (by decide)).trans h5
        replace h8 := (F0.n 8 (by decide)).trans h8
        replace h9 := (F0.n 9 (by decide)).trans h9
        replace h10 := (F0.n 10 (by decide)).trans h10
        replace h7 := (F0.n 7 (by decide)).trans h7
        replace h14 := (F0.n 14 (by decide)).trans h14
        have h15 := F0.s
        clear F0
        refine opL 2 16 (v := .int .i64 (most + 1)) (w' := w) (by kernel_rfl) (by rw [hs]; decide) ?z51 ?z52
        case z51 => (intro o ho; obtain rfl := Option.some.inj ho; exact ⟨rfl, o_addI rfl (ev_tmp h15) rfl (wrap_small (by omega) (by omega))⟩)
        case z52 =>
        intro a F0
        replace hs := F0.z.trans hs
        replace hd := F0.e.trans hd
        replace h1 := (F0.n 1 (by decide)).trans h1
        replace h5 := (F0.n 5 (by decide)).trans h5
        replace h8 := (F0.n 8 (by decide)).trans h8
        replace h9 := (F0.n 9 (by decide)).trans h9
        replace h10 := (F0.n 10 (by decide)).trans h10
        replace h7 := (F0.n 7 (by decide)).trans h7
        replace h14 := (F0.n 14 (by decide)).trans h14
        clear h15
        have h16 := F0.s
        clear F0
        refine opL 3 17 (v := .int .i64 k) (w' := w) (by kernel_rfl) (by rw [hs]; decide) ?z53 ?z54
        case z53 => (intro o ho; obtain rfl := Option.some.inj ho; exact ⟨rfl, o_remI rfl (ev_tmp h14) (ev_tmp h16) (by omega) hk.symm⟩)
        case z54 =>
        intro a F0
        replace hs := F0.z.trans hs
        replace hd := F0.e.trans hd
        replace h1 := (F0.n 1 (by decide)).trans h1
        replace h5 := (F0.n 5 (by decide)).trans h5
        replace h8 := (F0.n 8 (by decide)).trans h8
        replace h9 := (F0.n 9 (by decide)).trans h9
        replace h10 := (F0.n 10 (by decide)).trans h10
        replace h7 := (F0.n 7 (by decide)).trans h7
        clear h14
        clear h16
        have h17 := F0.s
        clear F0
        refine opL 4 7 (v := .int .i64 k) (w' := w) (by kernel_rfl) (by rw [hs]; decide) ?z55 ?z56
        case z55 => (intro o ho; obtain rfl := Option.some.inj ho; exact ⟨rfl, k_assign rfl (ev_tmp h17)⟩)
        case z56 =>
        intro a F0
        replace hs := F0.z.trans hs
        replace hd := F0.e.trans hd
        replace h1 := (F0.n 1 (by decide)).trans h1
        replace h5 := (F0.n 5 (by decide)).trans h5
        replace h8 := (F0.n 8 (by decide)).trans h8
        replace h9 := (F0.n 9 (by decide)).trans h9
        replace h10 := (F0.n 10 (by decide)).trans h10
        clear h7
        clear h17
        have h7 := F0.s
        clear F0
        refine wp_seq ?_
        refine wp_region (show wpOps _ _ _ [0, 1, 2, 3, 4, 5, 6, 7] _ _ from ?_)
        refine opL 0 18 (v := .int .i64 k) (w' := w) (by kernel_rfl) (by rw [hs]; decide) ?z57 ?z58
        case z57 => (intro o ho; obtain rfl := Option.some.inj ho; exact ⟨rfl, k_move rfl (ev_tmp h7)⟩)
        case z58 =>
        intro a F0
        replace hs := F0.z.trans hs
        replace hd := F0.e.trans hd
        replace h1 := (F0.n 1 (by decide)).trans h1
        replace h5 := (F0.n 5 (by decide)).trans h5
        replace h8 := (F0.n 8 (by decide)).trans h8
        replace h9 := (F0.n 9 (by decide)).trans h9
        replace h10 := (F0.n 10 (by decide)).trans h10
        replace h7 := (F0.n 7 (by decide)).trans h7
        have h18 := F0.s
        clear F0
        refine opL 1 19 (v := .bool true) (w' := w) (by kernel_rfl) (by rw [hs]; decide) ?z59 ?z60
        case z59 => (intro o ho; obtain rfl := Option.some.inj ho; exact ⟨rfl, o_neI rfl (ev_tmp h18) rfl hz⟩)
        case z60 =>
        intro a F0
        replace hs := F0.z.trans hs
        replace hd := F0.e.trans hd
        replace h1 := (F0.n 1 (by decide)).trans h1
        replace h5 := (F0.n 5 (by decide)).trans h5
        replace h8 := (F0.n 8 (by decide)).trans h8
        replace h9 := (F0.n 9 (by decide)).trans h9
        replace h10 := (F0.n 10 (by decide)).trans h10
        replace h7 := (F0.n 7 (by decide)).trans h7
        clear h18
        have h19 := F0.s
        clear F0
        refine opL 2 20 (v := .bool true) (w' := w) (by kernel_rfl) (by rw [hs]; decide) ?z61 ?z62
        case z61 => (intro o ho; obtain rfl := Option.some.inj ho; exact ⟨rfl, k_move rfl (ev_tmp h19)⟩)
        case z62 =>
        intro a F0
        replace hs := F0.z.trans hs
        replace hd := F0.e.trans hd
        replace h1 := (F0.n 1 (by decide)).trans h1
        replace h5 := (F0.n 5 (by decide)).trans h5
        replace h8 := (F0.n 8 (by decide)).trans h8
        replace h9 := (F0.n 9 (by decide)).trans h9
        replace h10 := (F0.n 10 (by decide)).trans h10
        replace h7 := (F0.n 7 (by decide)).trans h7
        clear h19
        have h20 := F0.s
        clear F0
        refine opL 3 21 (v := .slice A (Mk.fewOut most (l.take i)).length cap) (w' := w) (by kernel_rfl) (by rw [hs]; decide) ?z63 ?z64
        case z63 => (intro o ho; obtain rfl := Option.some.inj ho; exact ⟨wanted_at (b := true) (want := true) rfl (by kernel_rfl) h20, k_move rfl (ev_tmp h5)⟩)
        case z64 =>
        intro a F0
        replace hs := F0.z.trans hs
        replace hd := F0.e.trans hd
        replace h1 := (F0.n 1 (by decide)).trans h1
        replace h5 := (F0.n 5 (by decide)).trans h5
        replace h8 := (F0.n 8 (by decide)).trans h8
        replace h9 := (F0.n 9 (by decide)).trans h9
        replace h10 := (F0.n 10 (by decide)).trans h10
        replace h7 := (F0.n 7 (by decide)).trans h7
        replace h20 := (F0.n 20 (by decide)).trans h20
        have h21 := F0.s
        clear F0
        refine opL 4 22 (v := .int .i64 k) (w' := w) (by kernel_rfl) (by rw [hs]; decide) ?z65 ?z66
        case z65 => (intro o ho; obtain rfl := Option.some.inj ho; exact ⟨wanted_at (b := true) (want := true) rfl (by kernel_rfl) h20, k_move rfl (ev_tmp h7)⟩)
        case z66 =>
        intro a F0
        replace hs := F0.z.trans hs
        replace hd := F0.e.trans hd
        replace h1 := (F0.n 1 (by decide)).trans h1
        replace h5 := (F0.n 5 (by decide)).trans h5
        replace h8 := (F0.n 8 (by decide)).trans h8
        replace h9 := (F0.n 9 (by decide)).trans h9
        replace h10 := (F0.n 10 (by decide)).trans h10
        replace h7 := (F0.n 7 (by decide)).trans h7
        replace h20 := (F0.n 20 (by decide)).trans h20
        replace h21 := (F0.n 21 (by decide)).trans h21
        have h22 := F0.s
        clear F0
        refine opL_call 5 23 (f := 30) (args := #[.slice A (Mk.fewOut most (l.take i)).length cap, .int .i64 k]) (R := fun v w' => v = .bool ((Mk.fewOut most (l.take i)).contains k) ∧ w = w') (by kernel_rfl) (by rw [hs]; decide) ?z67 (contains_own' k hO (by omega)) ?z68
        case z67 => (intro o ho; obtain rfl := Option.some.inj ho; exact ⟨wanted_at (b := true) (want := true) rfl (by kernel_rfl) h20, c_Contains rfl rfl (ev_tmp h21) (ev_tmp h22)⟩)
        case z68 =>
        rintro _ _ a ⟨rfl, rfl⟩ F0
        rw [hcn] at F0
        replace hs := F0.z.trans hs
        replace hd := F0.e.trans hd
        replace h1 := (F0.n 1 (by decide)).trans h1
        replace h5 := (F0.n 5 (by decide)).trans h5
        replace h8 := (F0.n 8 (by decide)).trans h8
        replace h9 := (F0.n 9 (by decide)).trans h9
        replace h10 := (F0.n 10 (by decide)).trans h10
        replace h7 := (F0.n 7 (by decide)).trans h7
        replace h20 := (F0.n 20 (by decide)).trans h20
        clear h21
        clear h22
        have h23 := F0.s
        clear F0
        refine opL 6 24 (v := .bool false) (w' := w) (by kernel_rfl) (by rw [hs]; decide) ?z69 ?z70
        case z69 => (intro o ho; obtain rfl := Option.some.inj ho; exact ⟨wanted_at (b := true) (want := true) rfl (by kernel_rfl) h20, o_not rfl (ev_tmp h23) rfl⟩)
        case z70 =>
        intro a F0
        replace hs := F0.z.trans hs
        replace hd := F0.e.trans hd
        replace h1 := (F0.n 1 (by decide)).trans h1
        replace h5 := (F0.n 5 (by decide)).trans h5
        replace h8 := (F0.n 8 (by decide)).trans h8
        replace h9 := (F0.n 9 (by decide)).trans h9
        replace h10 := (F0.n 10 (by decide)).trans h10
        replace h7 := (F0.n 7 (by decide)).trans h7
        replace h20 := (F0.n 20 (by decide)).trans h20
        clear h23
        have h24 := F0.s
        clear F0
        refine opL 7 25 (v := .bool false) (w' := w) (by kernel_rfl) (by rw [hs]; decide) ?z71 ?z72
        case z71 => (intro o ho; obtain rfl := Option.some.inj ho; exact ⟨rfl, k_pick_yes rfl (ev_tmp h20) (ev_tmp h24)⟩)
        case z72 =>
        intro a F0
        replace hs := F0.z.trans hs
        replace hd := F0.e.trans hd
        replace h1 := (F0.n 1 (by decide)).trans h1
        replace h5 := (F0.n 5 (by decide)).trans h5
        replace h8 := (F0.n 8 (by decide)).trans h8
        replace h9 := (F0.n 9 (by decide)).trans h9
        replace h10 := (F0.n 10 (by decide)).trans h10
        replace h7 := (F0.n 7 (by decide)).trans h7
        clear h20
        clear h24
        have h25 := F0.s
        clear F0
        refine wp_cond_false (ev_tmp h25) ?_
        refine wp_skip ?_
        refine wp_region (show wpOps _ _ _ [0, 1] _ _ from ?_)
        refine opL 0 30 (v := .int .i64 (i + 1 : Nat)) (w' := w) (by kernel_rfl) (by rw [hs]; decide) ?z73 ?z74
        case z73 => (intro o ho; obtain rfl := Option.some.inj ho; exact ⟨rfl, o_addI rfl (ev_tmp h10) rfl (wrap_small (n := (i : Int) + 1) (by omega) (by omega))⟩)
        case z74 =>
        intro a F0
        replace hs := F0.z.trans hs
        replace hd := F0.e.trans hd
        replace h1 := (F0.n 1 (by decide)).trans h1
        replace h5 := (F0.n 5 (by decide)).trans h5
        replace h8 := (F0.n 8 (by decide)).trans h8
        replace h9 := (F0.n 9 (by decide)).trans h9
        replace h10 := (F0.n 10 (by decide)).trans h10
        replace h7 := (F0.n 7 (by decide)).trans h7
        replace h25 := (F0.n 25 (by decide)).trans h25
        have h30 := F0.s
        clear F0
        refine opL 1 10 (v := .int .i64 (i + 1 : Nat)) (w' := w) (by kernel_rfl) (by rw [hs]; decide) ?z75 ?z76
        case z75 => (intro o ho; obtain rfl := Option.some.inj ho; exact ⟨rfl, k_move rfl (ev_tmp h30)⟩)
        case z76 =>
        intro a F0
        replace hs := F0.z.trans hs
        replace hd := F0.e.trans hd
        replace h1 := (F0.n 1 (by decide)).trans h1
        replace h5 := (F0.n 5 (by decide)).trans h5
        replace h8 := (F0.n 8 (by decide)).trans h8
        replace h9 := (F0.n 9 (by decide)).trans h9
        clear h10
        replace h7 := (F0.n 7 (by decide)).trans h7
        replace h25 := (F0.n 25 (by decide)).trans h25
        clear h30
        have h10 := F0.s
        clear F0
        have eN : Mk.fewOut most (l.take (i + 1)) = Mk.fewOut most (l.take i) := by rw [Mk.fewOut_take hlt, ← hk]; simp only [Mk.put, hz, hcn]; rfl
        rw [← eN] at h5 hO
        refine ⟨⟨i + 1, A, cap, ⟨hd, hs, h1, h5, h8, h9, h10, by omega, hO, hS, hb⟩⟩, ?_⟩
        rw [h10]
        show (l.length - ((i + 1 : Nat) : Int)).toNat < (l.length - (i : Int)).toNat
        omega
      case false =>
        refine wp_seq ?_
        refine wp_region (show wpOps _ _ _ [0] _ _ from ?_)
        refine opL 0 11 (v := .bool true) (w' := w) (by kernel_rfl) (by rw [hs]; decide) ?z77 ?z78
        case z77 => (intro o ho; obtain rfl := Option.some.inj ho; exact ⟨rfl, o_ltI rfl (ev_tmp h10) (ev_tmp h9) (decide_eq_true (by omega))⟩)
        case z78 =>
        intro a F0
        replace hs := F0.z.trans hs
        replace hd := F0.e.trans hd
        replace h1 := (F0.n 1 (by decide)).trans h1
        replace h5 := (F0.n 5 (by decide)).trans h5
        replace h8 := (F0.n 8 (by decide)).trans h8
        replace h9 := (F0.n 9 (by decide)).trans h9
        replace h10 := (F0.n 10 (by decide)).trans h10
        have h11 := F0.s
        clear F0
        refine wp_seq ?_
        refine wp_cond_true (ev_tmp h11) ?_
        clear h11
        refine wp_skip ?_
        refine wp_seq ?_
        refine wp_block ?_
        refine wp_seq ?_
        refine wp_region (show wpOps _ _ _ [0, 1, 2] _ _ from ?_)
        refine opL 0 12 (v := .pointer (some ⟨g, i, none⟩)) (w' := w) (by kernel_rfl) (by rw [hs]; decide) ?z79 ?z80
        case z79 => (intro o ho; obtain rfl := Option.some.inj ho; exact ⟨rfl, k_at rfl rfl (ev_tmp h8) (ev_tmp h10) hlt⟩)
        case z80 =>
        intro a F0
        replace hs := F0.z.trans hs
        replace hd := F0.e.trans hd
        replace h1 := (F0.n 1 (by decide)).trans h1
        replace h5 := (F0.n 5 (by decide)).trans h5
        replace h8 := (F0.n 8 (by decide)).trans h8
        replace h9 := (F0.n 9 (by decide)).trans h9
        replace h10 := (F0.n 10 (by decide)).trans h10
        have h12 := F0.s
        clear F0
        refine opL 1 13 (v := .int .i64 l[i]) (w' := w) (by kernel_rfl) (by rw [hs]; decide) ?z81 ?z82
        case z81 => (intro o ho; obtain rfl := Option.some.inj ho; exact ⟨rfl, k_loadI rfl (ev_tmp h12) hc⟩)
        case z82 =>
        intro a F0
        replace hs := F0.z.trans hs
        replace hd := F0.e.trans hd
        replace h1 := (F0.n 1 (by decide)).trans h1
        replace h5 := (F0.n 5 (by decide)).trans h5
        replace h8 := (F0.n 8 (by decide)).trans h8
        replace h9 := (F0.n 9 (by decide)).trans h9
        replace h10 := (F0.n 10 (by decide)).trans h10
        clear h12
        have h13 := F0.s
        clear F0
        refine opL 2 7 (v := .int .i64 l[i]) (w' := w) (by kernel_rfl) (by rw [hs]; decide) ?z83 ?z84
        case z83 => (intro o ho; obtain rfl := Option.some.inj ho; exact ⟨rfl, k_assign rfl (ev_tmp h13)⟩)
        case z84 =>
        intro a F0
        replace hs := F0.z.trans hs
        replace hd := F0.e.trans hd
        replace h1 := (F0.n 1 (by decide)).trans h1
        replace h5 := (F0.n 5 (by decide)).trans h5
        replace h8 := (F0.n 8 (by decide)).trans h8
        replace h9 := (F0.n 9 (by decide)).trans h9
        replace h10 := (F0.n 10 (by decide)).trans h10
        clear h13
        have h7 := F0.s
        clear F0
        refine wp_seq ?_
        refine wp_region (show wpOps _ _ _ [0, 1, 2, 3, 4] _ _ from ?_)
        refine opL 0 14 (v := .int .i64 l[i]) (w' := w) (by kernel_rfl) (by rw [hs]; decide) ?z85 ?z86
        case z85 => (intro o ho; obtain rfl := Option.some.inj ho; exact ⟨rfl, k_move rfl (ev_tmp h7)⟩)
        case z86 =>
        intro a F0
        replace hs := F0.z.trans hs
        replace hd := F0.e.trans hd
        replace h1 := (F0.n 1 (by decide)).trans h1
        replace h5 := (F0.n 5 (by decide)).trans h5
        replace h8 := (F0.n 8 (by decide)).trans h8
        replace h9 := (F0.n 9 (by decide)).trans h9
        replace h10 := (F0.n 10 (by decide)).trans h10
        replace h7 := (F0.n 7 (by decide)).trans h7
        have h14 := F0.s
        clear F0
        refine opL 1 15 (v := .int .i64 most) (w' := w) (by kernel_rfl) (by rw [hs]; decide) ?z87 ?z88
        case z87 => (intro o ho; obtain rfl := Option.some.inj ho; exact ⟨rfl, k_move rfl (ev_tmp h1)⟩)
        case z88 =>
        intro a F0
        replace hs := F0.z.trans hs
        replace hd := F0.e.trans hd
        replace h1 := (F0.n 1 (by decide)).trans h1
        replace h5 := (F0.n 5 (by decide)).trans h5
        replace h8 := (F0.n 8 (by decide)).trans h8
        replace h9 := (F0.n 9 (by decide)).trans h9
        replace h10 := (F0.n 10 (by decide)).trans h10
        replace h7 := (F0.n 7 (by decide)).trans h7
        replace h14 := (F0.n 14 (by decide)).trans h14
        have h15 := F0.s
        clear F0
        refine opL 2 16 (v := .int .i64 (most + 1)) (w' := w) (by kernel_rfl) (by rw [hs]; decide) ?z89 ?z90
        case z89 => (intro o ho; obtain rfl := Option.some.inj ho; exact ⟨rfl, o_addI rfl (ev_tmp h15) rfl (wrap_small (by omega) (by omega))⟩)
        case z90 =>
        intro a F0
        replace hs := F0.z.trans hs
        replace hd := F0.e.trans hd
        replace h1 := (F0.n 1 (by decide)).trans h1
        replace h5 := (F0.n 5 (by decide)).trans h5
        replace h8 := (F0.n 8 (by decide)).trans h8
        replace h9 := (F0.n 9 (by decide)).trans h9
        replace h10 := (F0.n 10 (by decide)).trans h10
        replace h7 := (F0.n 7 (by decide)).trans h7
        replace h14 := (F0.n 14 (by decide)).trans h14
        clear h15
        have h16 := F0.s
        clear F0
        refine opL 3 17 (v := .int .i64 k) (w' := w) (by kernel_rfl) (by rw [hs]; decide) ?z91 ?z92
        case z91 => (intro o ho; obtain rfl := Option.some.inj ho; exact ⟨rfl, o_remI rfl (ev_tmp h14) (ev_tmp h16) (by omega) hk.symm⟩)
        case z92 =>
        intro a F0
        replace hs := F0.z.trans hs
        replace hd := F0.e.trans hd
        replace h1 := (F0.n 1 (by decide)).trans h1
        replace h5 := (F0.n 5 (by decide)).trans h5
        replace h8 := (F0.n 8 (by decide)).trans h8
        replace h9 := (F0.n 9 (by decide)).trans h9
        replace h10 := (F0.n 10 (by decide)).trans h10
        replace h7 := (F0.n 7 (by decide)).trans h7
        clear h14
        clear h16
        have h17 := F0.s
        clear F0
        refine opL 4 7 (v := .int .i64 k) (w' := w) (by kernel_rfl) (by rw [hs]; decide) ?z93 ?z94
        case z93 => (intro o ho; obtain rfl := Option.some.inj ho; exact ⟨rfl, k_assign rfl (ev_tmp h17)⟩)
        case z94 =>
        intro a F0
        replace hs := F0.z.trans hs
        replace hd := F0.e.trans hd
        replace h1 := (F0.n 1 (by decide)).trans h1
        replace h5 := (F0.n 5 (by decide)).trans h5
        replace h8 := (F0.n 8 (by decide)).trans h8
        replace h9 := (F0.n 9 (by decide)).trans h9
        replace h10 := (F0.n 10 (by decide)).trans h10
        clear h7
        clear h17
        have h7 := F0.s
        clear F0
        refine wp_seq ?_
        refine wp_region (show wpOps _ _ _ [0, 1, 2, 3, 4, 5, 6, 7] _ _ from ?_)
        refine opL 0 18 (v := .int .i64 k) (w' := w) (by kernel_rfl) (by rw [hs]; decide) ?z95 ?z96
        case z95 => (intro o ho; obtain rfl := Option.some.inj ho; exact ⟨rfl, k_move rfl (ev_tmp h7)⟩)
        case z96 =>
        intro a F0
        replace hs := F0.z.trans hs
        replace hd := F0.e.trans hd
        replace h1 := (F0.n 1 (by decide)).trans h1
        replace h5 := (F0.n 5 (by decide)).trans h5
        replace h8 := (F0.n 8 (by decide)).trans h8
        replace h9 := (F0.n 9 (by decide)).trans h9
        replace h10 := (F0.n 10 (by decide)).trans h10
        replace h7 := (F0.n 7 (by decide)).trans h7
        have h18 := F0.s
        clear F0
        refine opL 1 19 (v := .bool true) (w' := w) (by kernel_rfl) (by rw [hs]; decide) ?z97 ?z98
        case z97 => (intro o ho; obtain rfl := Option.some.inj ho; exact ⟨rfl, o_neI rfl (ev_tmp h18) rfl hz⟩)
        case z98 =>
        intro a F0
        replace hs := F0.z.trans hs
        replace hd := F0.e.trans hd
        replace h1 := (F0.n 1 (by decide)).trans h1
        replace h5 := (F0.n 5 (by decide)).trans h5
        replace h8 := (F0.n 8 (by decide)).trans h8
        replace h9 := (F0.n 9 (by decide)).trans h9
        replace h10 := (F0.n 10 (by decide)).trans h10
        replace h7 := (F0.n 7 (by decide)).trans h7
        clear h18
        have h19 := F0.s
        clear F0
        refine opL 2 20 (v := .bool true) (w' := w) (by kernel_rfl) (by rw [hs]; decide) ?z99 ?z100
        case z99 => (intro o ho; obtain rfl := Option.some.inj ho; exact ⟨rfl, k_move rfl (ev_tmp h19)⟩)
        case z100 =>
        intro a F0
        replace hs := F0.z.trans hs
        replace hd := F0.e.trans hd
        replace h1 := (F0.n 1 (by decide)).trans h1
        replace h5 := (F0.n 5 (by decide)).trans h5
        replace h8 := (F0.n 8 (by decide)).trans h8
        replace h9 := (F0.n 9 (by decide)).trans h9
        replace h10 := (F0.n 10 (by decide)).trans h10
        replace h7 := (F0.n 7 (by decide)).trans h7
        clear h19
        have h20 := F0.s
        clear F0
        refine opL 3 21 (v := .slice A (Mk.fewOut most (l.take i)).length cap) (w' := w) (by kernel_rfl) (by rw [hs]; decide) ?z101 ?z102
        case z101 => (intro o ho; obtain rfl := Option.some.inj ho; exact ⟨wanted_at (b := true) (want := true) rfl (by kernel_rfl) h20, k_move rfl (ev_tmp h5)⟩)
        case z102 =>
        intro a F0
        replace hs := F0.z.trans hs
        replace hd := F0.e.trans hd
        replace h1 := (F0.n 1 (by decide)).trans h1
        replace h5 := (F0.n 5 (by decide)).trans h5
        replace h8 := (F0.n 8 (by decide)).trans h8
        replace h9 := (F0.n 9 (by decide)).trans h9
        replace h10 := (F0.n 10 (by decide)).trans h10
        replace h7 := (F0.n 7 (by decide)).trans h7
        replace h20 := (F0.n 20 (by decide)).trans h20
        have h21 := F0.s
        clear F0
        refine opL 4 22 (v := .int .i64 k) (w' := w) (by kernel_rfl) (by rw [hs]; decide) ?z103 ?z104
        case z103 => (intro o ho; obtain rfl := Option.some.inj ho; exact ⟨wanted_at (b := true) (want := true) rfl (by kernel_rfl) h20, k_move rfl (ev_tmp h7)⟩)
        case z104 =>
        intro a F0
        replace hs := F0.z.trans hs
        replace hd := F0.e.trans hd
        replace h1 := (F0.n 1 (by decide)).trans h1
        replace h5 := (F0.n 5 (by decide)).trans h5
        replace h8 := (F0.n 8 (by decide)).trans h8
        replace h9 := (F0.n 9 (by decide)).trans h9
        replace h10 := (F0.n 10 (by decide)).trans h10
        replace h7 := (F0.n 7 (by decide)).trans h7
        replace h20 := (F0.n 20 (by decide)).trans h20
        replace h21 := (F0.n 21 (by decide)).trans h21
        have h22 := F0.s
        clear F0
        refine opL_call 5 23 (f := 30) (args := #[.slice A (Mk.fewOut most (l.take i)).length cap, .int .i64 k]) (R := fun v w' => v = .bool ((Mk.fewOut most (l.take i)).contains k) ∧ w = w') (by kernel_rfl) (by rw [hs]; decide) ?z105 (contains_own' k hO (by omega)) ?z106
        case z105 => (intro o ho; obtain rfl := Option.some.inj ho; exact ⟨wanted_at (b := true) (want := true) rfl (by kernel_rfl) h20, c_Contains rfl rfl (ev_tmp h21) (ev_tmp h22)⟩)
        case z106 =>
        rintro _ _ a ⟨rfl, rfl⟩ F0
        rw [hcn] at F0
        replace hs := F0.z.trans hs
        replace hd := F0.e.trans hd
        replace h1 := (F0.n 1 (by decide)).trans h1
        replace h5 := (F0.n 5 (by decide)).trans h5
        replace h8 := (F0.n 8 (by decide)).trans h8
        replace h9 := (F0.n 9 (by decide)).trans h9
        replace h10 := (F0.n 10 (by decide)).trans h10
        replace h7 := (F0.n 7 (by decide)).trans h7
        replace h20 := (F0.n 20 (by decide)).trans h20
        clear h21
        clear h22
        have h23 := F0.s
        clear F0
        refine opL 6 24 (v := .bool true) (w' := w) (by kernel_rfl) (by rw [hs]; decide) ?z107 ?z108
        case z107 => (intro o ho; obtain rfl := Option.some.inj ho; exact ⟨wanted_at (b := true) (want := true) rfl (by kernel_rfl) h20, o_not rfl (ev_tmp h23) rfl⟩)
        case z108 =>
        intro a F0
        replace hs := F0.z.trans hs
        replace hd := F0.e.trans hd
        replace h1 := (F0.n 1 (by decide)).trans h1
        replace h5 := (F0.n 5 (by decide)).trans h5
        replace h8 := (F0.n 8 (by decide)).trans h8
        replace h9 := (F0.n 9 (by decide)).trans h9
        replace h10 := (F0.n 10 (by decide)).trans h10
        replace h7 := (F0.n 7 (by decide)).trans h7
        replace h20 := (F0.n 20 (by decide)).trans h20
        clear h23
        have h24 := F0.s
        clear F0
        refine opL 7 25 (v := .bool true) (w' := w) (by kernel_rfl) (by rw [hs]; decide) ?z109 ?z110
        case z109 => (intro o ho; obtain rfl := Option.some.inj ho; exact ⟨rfl, k_pick_yes rfl (ev_tmp h20) (ev_tmp h24)⟩)
        case z110 =>
        intro a F0
        replace hs := F0.z.trans hs
        replace hd := F0.e.trans hd
        replace h1 := (F0.n 1 (by decide)).trans h1
        replace h5 := (F0.n 5 (by decide)).trans h5
        replace h8 := (F0.n 8 (by decide)).trans h8
        replace h9 := (F0.n 9 (by decide)).trans h9
        replace h10 := (F0.n 10 (by decide)).trans h10
        replace h7 := (F0.n 7 (by decide)).trans h7
        clear h20
        clear h24
        have h25 := F0.s
        clear F0
        refine wp_cond_true (ev_tmp h25) ?_
        refine wp_region (show wpOps _ _ _ [0, 1, 2, 3, 4] _ _ from ?_)
        refine opL 0 26 (v := .slice A (Mk.fewOut most (l.take i)).length cap) (w' := w) (by kernel_rfl) (by rw [hs]; decide) ?z111 ?z112
        case z111 => (intro o ho; obtain rfl := Option.some.inj ho; exact ⟨rfl, k_move rfl (ev_tmp h5)⟩)
        case z112 =>
        intro a F0
        replace hs := F0.z.trans hs
        replace hd := F0.e.trans hd
        replace h1 := (F0.n 1 (by decide)).trans h1
        replace h5 := (F0.n 5 (by decide)).trans h5
        replace h8 := (F0.n 8 (by decide)).trans h8
        replace h9 := (F0.n 9 (by decide)).trans h9
        replace h10 := (F0.n 10 (by decide)).trans h10
        replace h7 := (F0.n 7 (by decide)).trans h7
        replace h25 := (F0.n 25 (by decide)).trans h25
        have h26 := F0.s
        clear F0
        refine opL 1 27 (v := .int .i64 k) (w' := w) (by kernel_rfl) (by rw [hs]; decide) ?z113 ?z114
        case z113 => (intro o ho; obtain rfl := Option.some.inj ho; exact ⟨rfl, k_move rfl (ev_tmp h7)⟩)
        case z114 =>
        intro a F0
        replace hs := F0.z.trans hs
        replace hd := F0.e.trans hd
        replace h1 := (F0.n 1 (by decide)).trans h1
        replace h5 := (F0.n 5 (by decide)).trans h5
        replace h8 := (F0.n 8 (by decide)).trans h8
        replace h9 := (F0.n 9 (by decide)).trans h9
        replace h10 := (F0.n 10 (by decide)).trans h10
        replace h7 := (F0.n 7 (by decide)).trans h7
        replace h25 := (F0.n 25 (by decide)).trans h25
        replace h26 := (F0.n 26 (by decide)).trans h26
        have h27 := F0.s
        clear F0
        refine opL 2 28 (v := .slice (some ⟨w.heap.size, 0, none⟩) 1 1) (w' := (w.alloc (.cells #[.int .i64 k] 3))) (by kernel_rfl) (by rw [hs]; decide) ?z115 ?z116
        case z115 => (intro o ho; obtain rfl := Option.some.inj ho; exact ⟨rfl, k_slice1 rfl (ev_tmp h27)⟩)
        case z116 =>
        intro a F0
        replace hs := F0.z.trans hs
        replace hd := F0.e.trans hd
        replace h1 := (F0.n 1 (by decide)).trans h1
        replace h5 := (F0.n 5 (by decide)).trans h5
        replace h8 := (F0.n 8 (by decide)).trans h8
        replace h9 := (F0.n 9 (by decide)).trans h9
        replace h10 := (F0.n 10 (by decide)).trans h10
        replace h7 := (F0.n 7 (by decide)).trans h7
        replace h25 := (F0.n 25 (by decide)).trans h25
        replace h26 := (F0.n 26 (by decide)).trans h26
        clear h27
        have h28 := F0.s
        clear F0
        obtain ⟨w1, hw1⟩ : ∃ w1, w1 = w.alloc (.cells #[.int .i64 k] 3) := ⟨_, rfl⟩
        rw [← hw1]
        have q1 : Blk w1 w.heap.size 3 #[.int .i64 k] := by rw [hw1]; exact Blk.alloc _ _ _
        have l1 : Below w.heap.size w w1 := by rw [hw1]; exact (Below.refl _ _).alloc (Nat.le_refl _) _
        have hO1 := hO.exc (Exc.of (b := w.heap.size) l1) (fun g hg => by have := (hO.lt g hg).2; omega)
        have hS1 := hS.exc (Exc.of (b := w.heap.size) l1) (fun g hg => by have := (hS.lt g hg).2; omega)
        have hl1 : w0.heap.size ≤ w1.heap.size := Nat.le_trans hb.size l1.size
        clear hw1
        obtain ⟨v', w2, hr, hO2, hE2⟩ := append_int (c := 1) hO1 (q1.cell 0) (by omega) hl1
        have eN : Mk.fewOut most (l.take i) ++ [k] = Mk.fewOut most (l.take (i + 1)) := by rw [Mk.fewOut_take hlt, ← hk]; simp only [Mk.put, hz, hcn]; rfl
        rw [eN] at hO2
        obtain ⟨A', cap', rfl, -, -, -⟩ := hO2.ints
        refine opL 3 29 (v := .slice A' (Mk.fewOut most (l.take (i + 1))).length cap') (w' := w2) (by kernel_rfl) (by rw [hs]; decide) ?z117 ?z118
        case z117 => (intro o ho; obtain rfl := Option.some.inj ho; exact ⟨rfl, k_append rfl rfl (ev_tmp h26) (ev_tmp h28) hr⟩)
        case z118 =>
        intro a F0
        replace hs := F0.z.trans hs
        replace hd := F0.e.trans hd
        replace h1 := (F0.n 1 (by decide)).trans h1
        replace h5 := (F0.n 5 (by decide)).trans h5
        replace h8 := (F0.n 8 (by decide)).trans h8
        replace h9 := (F0.n 9 (by decide)).trans h9
        replace h10 := (F0.n 10 (by decide)).trans h10
        replace h7 := (F0.n 7 (by decide)).trans h7
        replace h25 := (F0.n 25 (by decide)).trans h25
        clear h26
        clear h28
        have h29 := F0.s
        clear F0
        refine opL 4 5 (v := .slice A' (Mk.fewOut most (l.take (i + 1))).length cap') (w' := w2) (by kernel_rfl) (by rw [hs]; decide) ?z119 ?z120
        case z119 => (intro o ho; obtain rfl := Option.some.inj ho; exact ⟨rfl, k_assign rfl (ev_tmp h29)⟩)
        case z120 =>
        intro a F0
        replace hs := F0.z.trans hs
        replace hd := F0.e.trans hd
        replace h1 := (F0.n 1 (by decide)).trans h1
        clear h5
        replace h8 := (F0.n 8 (by decide)).trans h8
        replace h9 := (F0.n 9 (by decide)).trans h9
        replace h10 := (F0.n 10 (by decide)).trans h10
        replace h7 := (F0.n 7 (by decide)).trans h7
        replace h25 := (F0.n 25 (by decide)).trans h25
        clear h29
        have h5 := F0.s
        clear F0
        refine wp_region (show wpOps _ _ _ [0, 1] _ _ from ?_)
        refine opL 0 30 (v := .int .i64 (i + 1 : Nat)) (w' := w2) (by kernel_rfl) (by rw [hs]; decide) ?z121 ?z122
        case z121 => (intro o ho; obtain rfl := Option.some.inj ho; exact ⟨rfl, o_addI rfl (ev_tmp h10) rfl (wrap_small (n := (i : Int) + 1) (by omega) (by omega))⟩)
        case z122 =>
        intro a F0
        replace hs := F0.z.trans hs
        replace hd := F0.e.trans hd
        replace h1 := (F0.n 1 (by decide)).trans h1
        replace h8 := (F0.n 8 (by decide)).trans h8
        replace h9 := (F0.n 9 (by decide)).trans h9
        replace h10 := (F0.n 10 (by decide)).trans h10
        replace h7 := (F0.n 7 (by decide)).trans h7
        replace h25 := (F0.n 25 (by decide)).trans h25
        replace h5 := (F0.n 5 (by decide)).trans h5
        have h30 := F0.s
        clear F0
        refine opL 1 10 (v := .int .i64 (i + 1 : Nat)) (w' := w2) (by kernel_rfl) (by rw [hs]; decide) ?z123 ?z124
        case z123 => (intro o ho; obtain rfl := Option.some.inj ho; exact ⟨rfl, k_move rfl (ev_tmp h30)⟩)
        case z124 =>
        intro a F0
        replace hs := F0.z.trans hs
        replace hd := F0.e.trans hd
        replace h1 := (F0.n 1 (by decide)).trans h1
        replace h8 := (F0.n 8 (by decide)).trans h8
        replace h9 := (F0.n 9 (by decide)).trans h9
        clear h10
        replace h7 := (F0.n 7 (by decide)).trans h7
        replace h25 := (F0.n 25 (by decide)).trans h25
        replace h5 := (F0.n 5 (by decide)).trans h5
        clear h30
        have h10 := F0.s
        clear F0
        have lx := (l1.mono hb.size).trans ((hE2 w0.heap.size w0.heap.size (Nat.le_refl _)).below (Nat.le_refl _))
        refine ⟨⟨i + 1, A', cap', ⟨hd, hs, h1, h5, h8, h9, h10, by omega, hO2, hS1.exc (hE2 w0.heap.size w0.heap.size (Nat.le_refl _)) (fun g hg => by have := hsrc g hg; omega), hb.trans lx⟩⟩, ?_⟩
        rw [h10]
        show (l.length - ((i + 1 : Nat) : Int)).toNat < (l.length - (i : Int)).toNat
        omega
  · obtain rfl : i = l.length := by omega
    refine wp_seq ?_
    refine wp_region (show wpOps _ _ _ [0] _ _ from ?_)
    refine opL 0 11 (v := .bool false) (w' := w) (by kernel_rfl) (by rw [hs]; decide) ?z125 ?z126
    case z125 => (intro o ho; obtain rfl := Option.some.inj ho; exact ⟨rfl, o_ltI rfl (ev_tmp h10) (ev_tmp h9) (decide_eq_false (by omega))⟩)
    case z126 =>
    intro a F0
    replace hs := F0.z.trans hs
    replace hd := F0.e.trans hd
    replace h1 := (F0.n 1 (by decide)).trans h1
    replace h5 := (F0.n 5 (by decide)).trans h5
    replace h8 := (F0.n 8 (by decide)).trans h8
    replace h9 := (F0.n 9 (by decide)).trans h9
    replace h10 := (F0.n 10 (by decide)).trans h10
    have h11 := F0.s
    clear F0
    refine wp_seq ?_
    refine wp_cond_false (ev_tmp h11) ?_
    clear h11
    refine wp_exit ?_
    exact hend rfl a hd hs h5

noncomputable def fewBody : Code := Tryd.f18.body.getD .skip
theorem sort_own' {w : World} {base : Nat} {v : Value} {L : List Int} (h : OwnI w base v L) (hl : L.length ≤ 1000000) : Calls Tryd.prog 16 #[v] w fun e w' => ∃ u, e = .returned u ∧ u = .tuple #[] ∧ OwnI w' base v (L.mergeSort fun x y => decide (x ≤ y)) ∧ ∀ B b, B ≤ base → Exc B b w w' :=
  (sort_own h hl).mono fun _ _ h => ⟨_, h.1, rfl, h.2⟩
set_option maxRecDepth 100000 in
set_option maxHeartbeats 1000000 in
theorem few_any (b0 : Nat) (most : Int) (A0 : Option Addr) (c0 : Nat) (l : List Int) (w : World) (hS : OwnI w b0 (.slice A0 l.length c0) l) (hl : l.length ≤ 1000) (hm0 : 0 ≤ most) (hm1 : most ≤ 1000) :
    Calls Tryd.prog 18 #[.slice A0 l.length c0, .int .i64 most] w fun e w' => ∃ A cap, e = .returned (.slice A (Mk.few most l).length cap) ∧ OwnI w' w.heap.size (.slice A (Mk.few most l).length cap) (Mk.few most l) ∧ Below w.heap.size w w' := by
  refine calls_of_wp Tryd.func18 (show Tryd.f18.body = some fewBody from rfl) ?_
  generalize hA : (Act.mk (#[.slice A0 l.length c0, .int .i64 most] ++ Array.replicate (Tryd.f18.ntmps - (#[.slice A0 l.length c0, .int .i64 most] : Array Value).size) undef) []) = a
  have hs : a.tmps.size = 34 := by rw [← hA]; simp [Tryd.ntmps18]
  have hd : a.defers = [] := by rw [← hA]
  have h0 : a.tmps.getD 0 undef = .slice A0 l.length c0 := by rw [← hA]; simp
  have h1 : a.tmps.getD 1 undef = .int .i64 most := by rw [← hA]; simp
  clear hA
  have hfin : ∀ (a' : Act) (w' : World) (A : Option Addr) (cap : Nat), a'.defers = [] → a'.tmps.getD 4 undef = .slice A (Mk.few most l).length cap → OwnI w' w.heap.size (.slice A (Mk.few most l).length cap) (Mk.few most l) → Below w.heap.size w w' → (bodyPost Tryd.prog Tryd.f18 fun e w' => ∃ A cap, e = .returned (.slice A (Mk.few most l).length cap) ∧ OwnI w' w.heap.size (.slice A (Mk.few most l).length cap) (Mk.few most l) ∧ Below w.heap.size w w') .ret a' w' := by
    intro a' w' A cap k1 k2 k3 k4
    exact ⟨k1, _, results_tmp rfl _ _ _, A, cap, by rw [k2], k3, k4⟩
  generalize (bodyPost Tryd.prog Tryd.f18 fun e w' => ∃ A cap, e = .returned (.slice A (Mk.few most l).length cap) ∧ OwnI w' w.heap.size (.slice A (Mk.few most l).length cap) (Mk.few most l) ∧ Below w.heap.size w w') = Q at hfin ⊢
  unfold fewBody
  conv => arg 2; whnf
  refine wp_seq ?_
  refine wp_region (show wpOps _ _ _ [0] _ _ from ?_)
  refine opL 0 4 (v := .slice none 0 0) (w' := w) (by kernel_rfl) (by rw [hs]; decide) ?z127 ?z128
  case z127 => (intro o ho; obtain rfl := Option.some.inj ho; exact ⟨rfl, k_assign rfl rfl⟩)
  case z128 =>
  intro a F0
  replace hs := F0.z.trans hs
  replace hd := F0.e.trans hd
  replace h0 := (F0.n 0 (by decide)).trans h0
  replace h1 := (F0.n 1 (by decide)).trans h1
  have h4 := F0.s
  clear F0
  refine wp_seq ?_
  refine wp_region (show wpOps _ _ _ [0] _ _ from ?_)
  refine opL 0 5 (v := .slice none 0 0) (w' := w) (by kernel_rfl) (by rw [hs]; decide) ?z129 ?z130
  case z129 => (intro o ho; obtain rfl := Option.some.inj ho; exact ⟨rfl, k_assign rfl rfl⟩)
  case z130 =>
  intro a F0
  replace hs := F0.z.trans hs
  replace hd := F0.e.trans hd
  replace h0 := (F0.n 0 (by decide)).trans h0
  replace h1 := (F0.n 1 (by decide)).trans h1
  replace h4 := (F0.n 4 (by decide)).trans h4
  have h5 := F0.s
  clear F0
  refine wp_seq ?_
  refine wp_seq ?_
  refine wp_region (show wpOps _ _ _ [0, 1, 2] _ _ from ?_)
  refine opL 0 8 (v := .slice A0 l.length c0) (w' := w) (by kernel_rfl) (by rw [hs]; decide) ?z131 ?z132
  case z131 => (intro o ho; obtain rfl := Option.some.inj ho; exact ⟨rfl, k_move rfl (ev_tmp h0)⟩)
  case z132 =>
  intro a F0
  replace hs := F0.z.trans hs
  replace hd := F0.e.trans hd
  replace h0 := (F0.n 0 (by decide)).trans h0
  replace h1 := (F0.n 1 (by decide)).trans h1
  replace h4 := (F0.n 4 (by decide)).trans h4
  replace h5 := (F0.n 5 (by decide)).trans h5
  have h8 := F0.s
  clear F0
  refine opL 1 9 (v := .int .i64 l.length) (w' := w) (by kernel_rfl) (by rw [hs]; decide) ?z133 ?z134
  case z133 => (intro o ho; obtain rfl := Option.some.inj ho; exact ⟨rfl, k_lenL rfl (ev_tmp h8)⟩)
  case z134 =>
  intro a F0
  replace hs := F0.z.trans hs
  replace hd := F0.e.trans hd
  replace h0 := (F0.n 0 (by decide)).trans h0
  replace h1 := (F0.n 1 (by decide)).trans h1
  replace h4 := (F0.n 4 (by decide)).trans h4
  replace h5 := (F0.n 5 (by decide)).trans h5
  replace h8 := (F0.n 8 (by decide)).trans h8
  have h9 := F0.s
  clear F0
  refine opL 2 10 (v := .int .i64 0) (w' := w) (by kernel_rfl) (by rw [hs]; decide) ?z135 ?z136
  case z135 => (intro o ho; obtain rfl := Option.some.inj ho; exact ⟨rfl, k_move rfl rfl⟩)
  case z136 =>
  intro a F0
  replace hs := F0.z.trans hs
  replace hd := F0.e.trans hd
  replace h0 := (F0.n 0 (by decide)).trans h0
  replace h1 := (F0.n 1 (by decide)).trans h1
  replace h4 := (F0.n 4 (by decide)).trans h4
  replace h5 := (F0.n 5 (by decide)).trans h5
  replace h8 := (F0.n 8 (by decide)).trans h8
  replace h9 := (F0.n 9 (by decide)).trans h9
  have h10 := F0.s
  clear F0
  refine wp_block ?_
  refine wp_loop (fun a wx => ∃ i A cap, FewI w b0 most A0 c0 l i A cap a wx) (fun a _ => (l.length - intOf (a.tmps.getD 10 undef)).toNat) ⟨0, none, 0, ⟨hd, hs, h1, h5, h8, h9, h10, Nat.zero_le _, OwnI.nil _ _, hS, Below.refl _ _⟩⟩ ?_
  clear hs hd h0 h1 h4 h5 h8 h9 h10 a
  rintro a wx ⟨i, A, cap, J⟩
  refine few_round w b0 most A0 c0 l (fun g hg => (hS.lt g hg).2) hl hm0 hm1 i A cap a wx _ J ?_
  rintro rfl a hd hs h5
  rw [List.take_length] at h5
  have hO := J.o
  rw [List.take_length] at hO
  have hb := J.b
  clear J
  have hlen := Mk.fewOut_len most l l.length (Nat.le_refl _)
  rw [List.take_length] at hlen
  change Code.wp _ _ _ _ _
  refine wp_seq ?_
  refine wp_region (show wpOps _ _ _ [0, 1] _ _ from ?_)
  refine opL 0 31 (v := .slice A (Mk.fewOut most l).length cap) (w' := wx) (by kernel_rfl) (by rw [hs]; decide) ?z137 ?z138
  case z137 => (intro o ho; obtain rfl := Option.some.inj ho; exact ⟨rfl, k_move rfl (ev_tmp h5)⟩)
  case z138 =>
  intro a F0
  replace hs := F0.z.trans hs
  replace hd := F0.e.trans hd
  replace h5 := (F0.n 5 (by decide)).trans h5
  have h31 := F0.s
  clear F0
  refine opL_call 1 32 (f := 16) (args := #[.slice A (Mk.fewOut most l).length cap]) (R := fun u w' => u = .tuple #[] ∧ OwnI w' w.heap.size (.slice A (Mk.fewOut most l).length cap) (Mk.few most l) ∧ ∀ B b, B ≤ w.heap.size → Exc B b wx w') (by kernel_rfl) (by rw [hs]; decide) ?z139 (sort_own' hO (by omega)) ?z140
  case z139 => (intro o ho; obtain rfl := Option.some.inj ho; exact ⟨rfl, c_Sort rfl rfl (ev_tmp h31)⟩)
  case z140 =>
  rintro _ w2 a ⟨rfl, hO2, hE2⟩ F0
  replace hs := F0.z.trans hs
  replace hd := F0.e.trans hd
  replace h5 := (F0.n 5 (by decide)).trans h5
  clear h31
  have h32 := F0.s
  clear F0
  refine wp_seq ?_
  refine wp_region (show wpOps _ _ _ [0, 1] _ _ from ?_)
  refine opL 0 33 (v := .slice A (Mk.fewOut most l).length cap) (w' := w2) (by kernel_rfl) (by rw [hs]; decide) ?z141 ?z142
  case z141 => (intro o ho; obtain rfl := Option.some.inj ho; exact ⟨rfl, k_move rfl (ev_tmp h5)⟩)
  case z142 =>
  intro a F0
  replace hs := F0.z.trans hs
  replace hd := F0.e.trans hd
  replace h5 := (F0.n 5 (by decide)).trans h5
  clear h32
  have h33 := F0.s
  clear F0
  refine opL 1 4 (v := .slice A (Mk.fewOut most l).length cap) (w' := w2) (by kernel_rfl) (by rw [hs]; decide) ?z143 ?z144
  case z143 => (intro o ho; obtain rfl := Option.some.inj ho; exact ⟨rfl, k_assign rfl (ev_tmp h33)⟩)
  case z144 =>
  intro a F0
  replace hs := F0.z.trans hs
  replace hd := F0.e.trans hd
  replace h5 := (F0.n 5 (by decide)).trans h5
  clear h33
  have h4 := F0.s
  clear F0
  refine wp_ret ?_
  have e : (Mk.few most l).length = (Mk.fewOut most l).length := List.length_mergeSort _
  rw [← e] at h4 hO2
  exact hfin a w2 A cap hd h4 hO2 (hb.trans ((hE2 w.heap.size w.heap.size (Nat.le_refl _)).below (Nat.le_refl _)))
end Go.Proofs.YtfhhlebadmkckaaDoor
