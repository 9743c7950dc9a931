/-
  The law's few: numbers, each once, sorted.
-/
import Derived.Test.YtocpmljkmdpfkaaGreatDoorMk
import Derived.Test.YtocpmljkmdpfkaaGreatDoorMemR
import Derived.Test.YtocpmljkmdpfkaaGreatDoorKop
namespace Go.Proofs.YtocpmljkmdpfkaaGreatDoor
open Go.RowKit
theorem OwnI.get {w : World} {base : Nat} {A : Option Addr} {n cap : Nat} {L : List Int} (h : OwnI w base (.slice A n cap) L) (i : Nat) (hi : i < L.length) : ∃ g, A = some ⟨g, 0, none⟩ ∧ w.cell? ⟨g, i, none⟩ = some (.int .i64 L[i]) := by
  rcases h.2 with ⟨-, hn⟩ | ⟨g, c, cur, e, -⟩
  · omega
  · obtain ⟨A', c', e', -, -, hin⟩ := h.ints
    obtain ⟨rfl, -, -⟩ := Value.slice.inj e
    obtain ⟨rfl, -, -⟩ := Value.slice.inj e'
    obtain ⟨ad, e2, -, hc⟩ := hin i hi
    obtain rfl := Option.some.inj e2
    have e3 : (⟨g, 0, none⟩ : Addr).add i = ⟨g, i, none⟩ := by simp [Addr.add]; omega
    rw [e3] at hc
    exact ⟨g, rfl, hc⟩
/-- what holds ahead of each round -/
structure FewI (w0 : World) (b0 : Nat) (most : Int) (A0 : Option Addr) (c0 : Nat) (l : List Int) (i : Nat) (A : Option Addr) (cap : Nat) (a : Act) (w : World) : Prop where
  d : a.defers = []
  z : a.tmps.size = 34
  s1 : a.tmps.getD 1 undef = .int .i64 most
  s5 : a.tmps.getD 5 undef = .slice A (Mk.fewOut most (l.take i)).length cap
  s8 : a.tmps.getD 8 undef = .slice A0 l.length c0
  s9 : a.tmps.getD 9 undef = .int .i64 l.length
  s10 : a.tmps.getD 10 undef = .int .i64 i
  iN : i ≤ l.length
  o : OwnI w w0.heap.size (.slice A (Mk.fewOut most (l.take i)).length cap) (Mk.fewOut most (l.take i))
  src : OwnI w b0 (.slice A0 l.length c0) l
  b : Below w0.heap.size w0 w
noncomputable def fewRound : Code := (Tryz.f23.body.bind loopOf).getD .skip

theorem contains_own' {w : World} {base : Nat} {v : Value} {L : List Int} (x : Int) (h : OwnI w base v L) (hl : L.length ≤ 1000000) : Calls Tryz.prog 50 #[v, .int .i64 x] w fun e w' => ∃ v, e = .returned v ∧ v = .bool (L.contains x) ∧ w = w' :=
  (contains_own x h hl).mono fun _ _ h => ⟨_, h.1, rfl, h.2.symm⟩
set_option maxRecDepth 100000 in
set_option maxHeartbeats 1000000 in
theorem few_round (w0 : World) (b0 : Nat) (most : Int) (A0 : Option Addr) (c0 : Nat) (l : List Int) (hsrc : ∀ g, (Value.slice A0 l.length c0).ownBlock = some g → g < w0.heap.size) (hl : l.length ≤ 1000) (hm0 : 0 ≤ most) (hm1 : most ≤ 1000) (i : Nat) (A : Option Addr) (cap : Nat) (a : Act) (w : World) (Q : Exit → Act → World → Prop)
    (J : FewI w0 b0 most A0 c0 l i A cap a w) (hend : i = l.length → ∀ a' : Act, a'.defers = [] → a'.tmps.size = 34 → a'.tmps.getD 5 undef = .slice A (Mk.fewOut most (l.take i)).length cap → Q (.exit 0) a' w) :
    fewRound.wp Tryz.prog (Exit.then (fun a' w' => (∃ i A cap, FewI w0 b0 most A0 c0 l i A cap a' w') ∧ (l.length - intOf (a'.tmps.getD 10 undef)).toNat < (l.length - intOf (a.tmps.getD 10 undef)).toNat) Q) a w := by
  have hd := J.d; have hs := J.z; have h1 := J.s1; have h5 := J.s5; have h8 := J.s8; have h9 := J.s9; have h10 := J.s10
  have hiN := J.iN; have hO := J.o; have hS := J.src; have hb := J.b
  have hlen := Mk.fewOut_len most l i hiN
  have k10 : (l.length - intOf (a.tmps.getD 10 undef)).toNat = (l.length - (i : Int)).toNat := by rw [h10]; rfl
  rw [k10]
  clear k10 J
  unfold fewRound
  conv => arg 2; whnf
  by_cases hlt : i < l.length
  · clear hend
    obtain ⟨g, rfl, hc⟩ := hS.get i hlt
    obtain ⟨k, hk⟩ : ∃ k, k = l[i].tmod (most + 1) := ⟨_, rfl⟩
    cases hz : (k != 0)
    case false =>
      refine wp_seq ?_
      refine wp_region (show wpOps _ _ _ [0] _ _ from ?_)
      refine opL 0 11 (v := .bool true) (w' := w) (by kernel_rfl) (frZ hs) ?_ ?_
      · exact frY rfl (o_ltI rfl (ev_tmp h10) (ev_tmp h9) (decide_eq_true (by omega)))
      refine frN5 hs hd h1 h5 h8 h9 h10 ?_; clear hs hd h1 h5 h8 h9 h10; intro a hs hd h1 h5 h8 h9 h10 h11
      refine wp_seq ?_
      refine wp_cond_true (ev_tmp h11) ?_
      clear h11
      refine wp_skip ?_
      refine wp_seq ?_
      refine wp_block ?_
      refine wp_seq ?_
      refine wp_region (show wpOps _ _ _ [0, 1, 2] _ _ from ?_)
      refine opL 0 12 (v := .pointer (some ⟨g, i, none⟩)) (w' := w) (by kernel_rfl) (frZ hs) ?_ ?_
      · exact frY rfl (k_at rfl rfl (ev_tmp h8) (ev_tmp h10) hlt)
      revert hs hd h1 h5 h8 h9 h10; refine frM5 ?_; intro a hs hd h1 h5 h8 h9 h10 h12
      refine opL 1 13 (v := .int .i64 l[i]) (w' := w) (by kernel_rfl) (frZ hs) ?_ ?_
      · exact frY rfl (k_loadI rfl (ev_tmp h12) hc)
      clear h12; revert hs hd h1 h5 h8 h9 h10; refine frM5 ?_; intro a hs hd h1 h5 h8 h9 h10 h13
      refine opL 2 7 (v := .int .i64 l[i]) (w' := w) (by kernel_rfl) (frZ hs) ?_ ?_
      · exact frY rfl (k_assign rfl (ev_tmp h13))
      clear h13; revert hs hd h1 h5 h8 h9 h10; refine frM5 ?_; intro a hs hd h1 h5 h8 h9 h10 h7
      refine wp_seq ?_
      refine wp_region (show wpOps _ _ _ [0, 1, 2, 3, 4] _ _ from ?_)
      refine opL 0 14 (v := .int .i64 l[i]) (w' := w) (by kernel_rfl) (frZ hs) ?_ ?_
      · exact frY rfl (k_move rfl (ev_tmp h7))
      revert hs hd h1 h5 h8 h9 h10 h7; refine frM6 ?_; intro a hs hd h1 h5 h8 h9 h10 h7 h14
      refine opL 1 15 (v := .int .i64 most) (w' := w) (by kernel_rfl) (frZ hs) ?_ ?_
      · exact frY rfl (k_move rfl (ev_tmp h1))
      revert hs hd h1 h5 h8 h9 h10 h7 h14; refine frM7 ?_; intro a hs hd h1 h5 h8 h9 h10 h7 h14 h15
      refine opL 2 16 (v := .int .i64 (most + 1)) (w' := w) (by kernel_rfl) (frZ hs) ?_ ?_
      · exact frY rfl (o_addI rfl (ev_tmp h15) rfl (wrap_small (by omega) (by omega)))
      clear h15; revert hs hd h1 h5 h8 h9 h10 h7 h14; refine frM7 ?_; intro a hs hd h1 h5 h8 h9 h10 h7 h14 h16
      refine opL 3 17 (v := .int .i64 k) (w' := w) (by kernel_rfl) (frZ hs) ?_ ?_
      · exact frY rfl (o_remI rfl (ev_tmp h14) (ev_tmp h16) (by omega) hk.symm)
      clear h14 h16; revert hs hd h1 h5 h8 h9 h10 h7; refine frM6 ?_; intro a hs hd h1 h5 h8 h9 h10 h7 h17
      refine opL 4 7 (v := .int .i64 k) (w' := w) (by kernel_rfl) (frZ hs) ?_ ?_
      · exact frY rfl (k_assign rfl (ev_tmp h17))
      clear h7 h17; revert hs hd h1 h5 h8 h9 h10; refine frM5 ?_; intro a hs hd h1 h5 h8 h9 h10 h7
      refine wp_seq ?_
      refine wp_region (show wpOps _ _ _ [0, 1, 2, 3, 4, 5, 6, 7] _ _ from ?_)
      refine opL 0 18 (v := .int .i64 k) (w' := w) (by kernel_rfl) (frZ hs) ?_ ?_
      · exact frY rfl (k_move rfl (ev_tmp h7))
      revert hs hd h1 h5 h8 h9 h10 h7; refine frM6 ?_; intro a hs hd h1 h5 h8 h9 h10 h7 h18
      refine opL 1 19 (v := .bool false) (w' := w) (by kernel_rfl) (frZ hs) ?_ ?_
      · exact frY rfl (o_neI rfl (ev_tmp h18) rfl hz)
      clear h18; revert hs hd h1 h5 h8 h9 h10 h7; refine frM6 ?_; intro a hs hd h1 h5 h8 h9 h10 h7 h19
      refine opL 2 20 (v := .bool false) (w' := w) (by kernel_rfl) (frZ hs) ?_ ?_
      · exact frY rfl (k_move rfl (ev_tmp h19))
      clear h19; revert hs hd h1 h5 h8 h9 h10 h7; refine frM6 ?_; intro a hs hd h1 h5 h8 h9 h10 h7 h20
      refine opL_not 3 21 (by kernel_rfl) (frZ hs) ?z25 ?z26
      case z25 => (intro o ho; obtain rfl := Option.some.inj ho; exact wanted_at (b := false) (want := true) rfl (by kernel_rfl) h20)
      case z26 =>
      refine frN7 hs hd h1 h5 h8 h9 h10 h7 h20 ?_; clear hs hd h1 h5 h8 h9 h10 h7 h20; intro a hs hd h1 h5 h8 h9 h10 h7 h20 h21
      refine opL_not 4 22 (by kernel_rfl) (frZ hs) ?z27 ?z28
      case z27 => (intro o ho; obtain rfl := Option.some.inj ho; exact wanted_at (b := false) (want := true) rfl (by kernel_rfl) h20)
      case z28 =>
      refine frN8 hs hd h1 h5 h8 h9 h10 h7 h20 h21 ?_; clear hs hd h1 h5 h8 h9 h10 h7 h20 h21; intro a hs hd h1 h5 h8 h9 h10 h7 h20 h21 h22
      refine opL_not 5 23 (by kernel_rfl) (frZ hs) ?z29 ?z30
      case z29 => (intro o ho; obtain rfl := Option.some.inj ho; exact wanted_at (b := false) (want := true) rfl (by kernel_rfl) h20)
      case z30 =>
      refine frN7 hs hd h1 h5 h8 h9 h10 h7 h20 ?_; clear hs hd h1 h5 h8 h9 h10 h7 h20 h21 h22; intro a hs hd h1 h5 h8 h9 h10 h7 h20 h23
      refine opL_not 6 24 (by kernel_rfl) (frZ hs) ?z31 ?z32
      case z31 => (intro o ho; obtain rfl := Option.some.inj ho; exact wanted_at (b := false) (want := true) rfl (by kernel_rfl) h20)
      case z32 =>
      refine frN7 hs hd h1 h5 h8 h9 h10 h7 h20 ?_; clear hs hd h1 h5 h8 h9 h10 h7 h20 h23; intro a hs hd h1 h5 h8 h9 h10 h7 h20 h24
      refine opL 7 25 (v := .bool false) (w' := w) (by kernel_rfl) (frZ hs) ?_ ?_
      · exact frY rfl (k_pick_no rfl (ev_tmp h20) rfl)
      clear h20 h24; revert hs hd h1 h5 h8 h9 h10 h7; refine frM6 ?_; intro a hs hd h1 h5 h8 h9 h10 h7 h25
      refine wp_cond_false (ev_tmp h25) ?_
      refine wp_skip ?_
      refine wp_region (show wpOps _ _ _ [0, 1] _ _ from ?_)
      refine opL 0 30 (v := .int .i64 (i + 1 : Nat)) (w' := w) (by kernel_rfl) (frZ hs) ?_ ?_
      · exact frY rfl (o_addI rfl (ev_tmp h10) rfl (wrap_small (n := (i : Int) + 1) (by omega) (by omega)))
      revert hs hd h1 h5 h8 h9 h10 h7 h25; refine frM7 ?_; intro a hs hd h1 h5 h8 h9 h10 h7 h25 h30
      refine opL 1 10 (v := .int .i64 (i + 1 : Nat)) (w' := w) (by kernel_rfl) (frZ hs) ?_ ?_
      · exact frY rfl (k_move rfl (ev_tmp h30))
      clear h10 h30; revert hs hd h1 h5 h8 h9 h7 h25; refine frM6 ?_; intro a hs hd h1 h5 h8 h9 h7 h25 h10
      have eN : Mk.fewOut most (l.take (i + 1)) = Mk.fewOut most (l.take i) := by rw [Mk.fewOut_take hlt, ← hk]; simp only [Mk.put, hz]; rfl
      rw [← eN] at h5 hO
      refine ⟨⟨i + 1, A, cap, ⟨hd, hs, h1, h5, h8, h9, h10, by omega, hO, hS, hb⟩⟩, ?_⟩
      rw [h10]
      show (l.length - ((i + 1 : Nat) : Int)).toNat < (l.length - (i : Int)).toNat
      omega
    case true =>
      cases hcn : (Mk.fewOut most (l.take i)).contains k
      case true =>
        refine wp_seq ?_
        refine wp_region (show wpOps _ _ _ [0] _ _ from ?_)
        refine opL 0 11 (v := .bool true) (w' := w) (by kernel_rfl) (frZ hs) ?_ ?_
        · exact frY rfl (o_ltI rfl (ev_tmp h10) (ev_tmp h9) (decide_eq_true (by omega)))
        refine frN5 hs hd h1 h5 h8 h9 h10 ?_; clear hs hd h1 h5 h8 h9 h10; intro a hs hd h1 h5 h8 h9 h10 h11
        refine wp_seq ?_
        refine wp_cond_true (ev_tmp h11) ?_
        clear h11
        refine wp_skip ?_
        refine wp_seq ?_
        refine wp_block ?_
        refine wp_seq ?_
        refine wp_region (show wpOps _ _ _ [0, 1, 2] _ _ from ?_)
        refine opL 0 12 (v := .pointer (some ⟨g, i, none⟩)) (w' := w) (by kernel_rfl) (frZ hs) ?_ ?_
        · exact frY rfl (k_at rfl rfl (ev_tmp h8) (ev_tmp h10) hlt)
        revert hs hd h1 h5 h8 h9 h10; refine frM5 ?_; intro a hs hd h1 h5 h8 h9 h10 h12
        refine opL 1 13 (v := .int .i64 l[i]) (w' := w) (by kernel_rfl) (frZ hs) ?_ ?_
        · exact frY rfl (k_loadI rfl (ev_tmp h12) hc)
        clear h12; revert hs hd h1 h5 h8 h9 h10; refine frM5 ?_; intro a hs hd h1 h5 h8 h9 h10 h13
        refine opL 2 7 (v := .int .i64 l[i]) (w' := w) (by kernel_rfl) (frZ hs) ?_ ?_
        · exact frY rfl (k_assign rfl (ev_tmp h13))
        clear h13; revert hs hd h1 h5 h8 h9 h10; refine frM5 ?_; intro a hs hd h1 h5 h8 h9 h10 h7
        refine wp_seq ?_
        refine wp_region (show wpOps _ _ _ [0, 1, 2, 3, 4] _ _ from ?_)
        refine opL 0 14 (v := .int .i64 l[i]) (w' := w) (by kernel_rfl) (frZ hs) ?_ ?_
        · exact frY rfl (k_move rfl (ev_tmp h7))
        revert hs hd h1 h5 h8 h9 h10 h7; refine frM6 ?_; intro a hs hd h1 h5 h8 h9 h10 h7 h14
        refine opL 1 15 (v := .int .i64 most) (w' := w) (by kernel_rfl) (frZ hs) ?_ ?_
        · exact frY rfl (k_move rfl (ev_tmp h1))
        revert hs hd h1 h5 h8 h9 h10 h7 h14; refine frM7 ?_; intro a hs hd h1 h5 h8 h9 h10 h7 h14 h15
        refine opL 2 16 (v := .int .i64 (most + 1)) (w' := w) (by kernel_rfl) (frZ hs) ?_ ?_
        · exact frY rfl (o_addI rfl (ev_tmp h15) rfl (wrap_small (by omega) (by omega)))
        clear h15; revert hs hd h1 h5 h8 h9 h10 h7 h14; refine frM7 ?_; intro a hs hd h1 h5 h8 h9 h10 h7 h14 h16
        refine opL 3 17 (v := .int .i64 k) (w' := w) (by kernel_rfl) (frZ hs) ?_ ?_
        · exact frY rfl (o_remI rfl (ev_tmp h14) (ev_tmp h16) (by omega) hk.symm)
        clear h14 h16; revert hs hd h1 h5 h8 h9 h10 h7; refine frM6 ?_; intro a hs hd h1 h5 h8 h9 h10 h7 h17
        refine opL 4 7 (v := .int .i64 k) (w' := w) (by kernel_rfl) (frZ hs) ?_ ?_
        · exact frY rfl (k_assign rfl (ev_tmp h17))
        clear h7 h17; revert hs hd h1 h5 h8 h9 h10; refine frM5 ?_; intro a hs hd h1 h5 h8 h9 h10 h7
        refine wp_seq ?_
        refine wp_region (show wpOps _ _ _ [0, 1, 2, 3, 4, 5, 6, 7] _ _ from ?_)
        refine opL 0 18 (v := .int .i64 k) (w' := w) (by kernel_rfl) (frZ hs) ?_ ?_
        · exact frY rfl (k_move rfl (ev_tmp h7))
        revert hs hd h1 h5 h8 h9 h10 h7; refine frM6 ?_; intro a hs hd h1 h5 h8 h9 h10 h7 h18
        refine opL 1 19 (v := .bool true) (w' := w) (by kernel_rfl) (frZ hs) ?_ ?_
        · exact frY rfl (o_neI rfl (ev_tmp h18) rfl hz)
        clear h18; revert hs hd h1 h5 h8 h9 h10 h7; refine frM6 ?_; intro a hs hd h1 h5 h8 h9 h10 h7 h19
        refine opL 2 20 (v := .bool true) (w' := w) (by kernel_rfl) (frZ hs) ?_ ?_
        · exact frY rfl (k_move rfl (ev_tmp h19))
        clear h19; revert hs hd h1 h5 h8 h9 h10 h7; refine frM6 ?_; intro a hs hd h1 h5 h8 h9 h10 h7 h20
        refine opL 3 21 (v := .slice A (Mk.fewOut most (l.take i)).length cap) (w' := w) (by kernel_rfl) (frZ hs) ?z63 ?z64
        case z63 => (intro o ho; obtain rfl := Option.some.inj ho; exact ⟨wanted_at (b := true) (want := true) rfl (by kernel_rfl) h20, k_move rfl (ev_tmp h5)⟩)
        case z64 =>
        refine frN7 hs hd h1 h5 h8 h9 h10 h7 h20 ?_; clear hs hd h1 h5 h8 h9 h10 h7 h20; intro a hs hd h1 h5 h8 h9 h10 h7 h20 h21
        refine opL 4 22 (v := .int .i64 k) (w' := w) (by kernel_rfl) (frZ hs) ?z65 ?z66
        case z65 => (intro o ho; obtain rfl := Option.some.inj ho; exact ⟨wanted_at (b := true) (want := true) rfl (by kernel_rfl) h20, k_move rfl (ev_tmp h7)⟩)
        case z66 =>
        refine frN8 hs hd h1 h5 h8 h9 h10 h7 h20 h21 ?_; clear hs hd h1 h5 h8 h9 h10 h7 h20 h21; intro a hs hd h1 h5 h8 h9 h10 h7 h20 h21 h22
        refine opL_call 5 23 (f := 50) (args := #[.slice A (Mk.fewOut most (l.take i)).length cap, .int .i64 k]) (R := fun v w' => v = .bool ((Mk.fewOut most (l.take i)).contains k) ∧ w = w') (by kernel_rfl) (frZ hs) ?z67 (contains_own' k hO (by omega)) ?z68
        case z67 => (intro o ho; obtain rfl := Option.some.inj ho; exact ⟨wanted_at (b := true) (want := true) rfl (by kernel_rfl) h20, c_Contains rfl rfl (ev_tmp h21) (ev_tmp h22)⟩)
        case z68 =>
        rintro _ _ a ⟨rfl, rfl⟩ F0
        rw [hcn] at F0
        replace hs := F0.z.trans hs
        replace hd := F0.e.trans hd
        replace h1 := (F0.n 1 (by decide)).trans h1
        replace h5 := (F0.n 5 (by decide)).trans h5
        replace h8 := (F0.n 8 (by decide)).trans h8
        replace h9 := (F0.n 9 (by decide)).trans h9
        replace h10 := (F0.n 10 (by decide)).trans h10
        replace h7 := (F0.n 7 (by decide)).trans h7
        replace h20 := (F0.n 20 (by decide)).trans h20
        clear h21
        clear h22
        have h23 := F0.s
        clear F0
        refine opL 6 24 (v := .bool false) (w' := w) (by kernel_rfl) (frZ hs) ?z69 ?z70
        case z69 => (intro o ho; obtain rfl := Option.some.inj ho; exact ⟨wanted_at (b := true) (want := true) rfl (by kernel_rfl) h20, o_not rfl (ev_tmp h23) rfl⟩)
        case z70 =>
        refine frN7 hs hd h1 h5 h8 h9 h10 h7 h20 ?_; clear hs hd h1 h5 h8 h9 h10 h7 h20 h23; intro a hs hd h1 h5 h8 h9 h10 h7 h20 h24
        refine opL 7 25 (v := .bool false) (w' := w) (by kernel_rfl) (frZ hs) ?_ ?_
        · exact frY rfl (k_pick_yes rfl (ev_tmp h20) (ev_tmp h24))
        clear h20 h24; revert hs hd h1 h5 h8 h9 h10 h7; refine frM6 ?_; intro a hs hd h1 h5 h8 h9 h10 h7 h25
        refine wp_cond_false (ev_tmp h25) ?_
        refine wp_skip ?_
        refine wp_region (show wpOps _ _ _ [0, 1] _ _ from ?_)
        refine opL 0 30 (v := .int .i64 (i + 1 : Nat)) (w' := w) (by kernel_rfl) (frZ hs) ?_ ?_
        · exact frY rfl (o_addI rfl (ev_tmp h10) rfl (wrap_small (n := (i : Int) + 1) (by omega) (by omega)))
        revert hs hd h1 h5 h8 h9 h10 h7 h25; refine frM7 ?_; intro a hs hd h1 h5 h8 h9 h10 h7 h25 h30
        refine opL 1 10 (v := .int .i64 (i + 1 : Nat)) (w' := w) (by kernel_rfl) (frZ hs) ?_ ?_
        · exact frY rfl (k_move rfl (ev_tmp h30))
        clear h10 h30; revert hs hd h1 h5 h8 h9 h7 h25; refine frM6 ?_; intro a hs hd h1 h5 h8 h9 h7 h25 h10
        have eN : Mk.fewOut most (l.take (i + 1)) = Mk.fewOut most (l.take i) := by rw [Mk.fewOut_take hlt, ← hk]; simp only [Mk.put, hz, hcn]; rfl
        rw [← eN] at h5 hO
        refine ⟨⟨i + 1, A, cap, ⟨hd, hs, h1, h5, h8, h9, h10, by omega, hO, hS, hb⟩⟩, ?_⟩
        rw [h10]
        show (l.length - ((i + 1 : Nat) : Int)).toNat < (l.length - (i : Int)).toNat
        omega
      case false =>
        refine wp_seq ?_
        refine wp_region (show wpOps _ _ _ [0] _ _ from ?_)
        refine opL 0 11 (v := .bool true) (w' := w) (by kernel_rfl) (frZ hs) ?_ ?_
        · exact frY rfl (o_ltI rfl (ev_tmp h10) (ev_tmp h9) (decide_eq_true (by omega)))
        refine frN5 hs hd h1 h5 h8 h9 h10 ?_; clear hs hd h1 h5 h8 h9 h10; intro a hs hd h1 h5 h8 h9 h10 h11
        refine wp_seq ?_
        refine wp_cond_true (ev_tmp h11) ?_
        clear h11
        refine wp_skip ?_
        refine wp_seq ?_
        refine wp_block ?_
        refine wp_seq ?_
        refine wp_region (show wpOps _ _ _ [0, 1, 2] _ _ from ?_)
        refine opL 0 12 (v := .pointer (some ⟨g, i, none⟩)) (w' := w) (by kernel_rfl) (frZ hs) ?_ ?_
        · exact frY rfl (k_at rfl rfl (ev_tmp h8) (ev_tmp h10) hlt)
        revert hs hd h1 h5 h8 h9 h10; refine frM5 ?_; intro a hs hd h1 h5 h8 h9 h10 h12
        refine opL 1 13 (v := .int .i64 l[i]) (w' := w) (by kernel_rfl) (frZ hs) ?_ ?_
        · exact frY rfl (k_loadI rfl (ev_tmp h12) hc)
        clear h12; revert hs hd h1 h5 h8 h9 h10; refine frM5 ?_; intro a hs hd h1 h5 h8 h9 h10 h13
        refine opL 2 7 (v := .int .i64 l[i]) (w' := w) (by kernel_rfl) (frZ hs) ?_ ?_
        · exact frY rfl (k_assign rfl (ev_tmp h13))
        clear h13; revert hs hd h1 h5 h8 h9 h10; refine frM5 ?_; intro a hs hd h1 h5 h8 h9 h10 h7
        refine wp_seq ?_
        refine wp_region (show wpOps _ _ _ [0, 1, 2, 3, 4] _ _ from ?_)
        refine opL 0 14 (v := .int .i64 l[i]) (w' := w) (by kernel_rfl) (frZ hs) ?_ ?_
        · exact frY rfl (k_move rfl (ev_tmp h7))
        revert hs hd h1 h5 h8 h9 h10 h7; refine frM6 ?_; intro a hs hd h1 h5 h8 h9 h10 h7 h14
        refine opL 1 15 (v := .int .i64 most) (w' := w) (by kernel_rfl) (frZ hs) ?_ ?_
        · exact frY rfl (k_move rfl (ev_tmp h1))
        revert hs hd h1 h5 h8 h9 h10 h7 h14; refine frM7 ?_; intro a hs hd h1 h5 h8 h9 h10 h7 h14 h15
        refine opL 2 16 (v := .int .i64 (most + 1)) (w' := w) (by kernel_rfl) (frZ hs) ?_ ?_
        · exact frY rfl (o_addI rfl (ev_tmp h15) rfl (wrap_small (by omega) (by omega)))
        clear h15; revert hs hd h1 h5 h8 h9 h10 h7 h14; refine frM7 ?_; intro a hs hd h1 h5 h8 h9 h10 h7 h14 h16
        refine opL 3 17 (v := .int .i64 k) (w' := w) (by kernel_rfl) (frZ hs) ?_ ?_
        · exact frY rfl (o_remI rfl (ev_tmp h14) (ev_tmp h16) (by omega) hk.symm)
        clear h14 h16; revert hs hd h1 h5 h8 h9 h10 h7; refine frM6 ?_; intro a hs hd h1 h5 h8 h9 h10 h7 h17
        refine opL 4 7 (v := .int .i64 k) (w' := w) (by kernel_rfl) (frZ hs) ?_ ?_
        · exact frY rfl (k_assign rfl (ev_tmp h17))
        clear h7 h17; revert hs hd h1 h5 h8 h9 h10; refine frM5 ?_; intro a hs hd h1 h5 h8 h9 h10 h7
        refine wp_seq ?_
        refine wp_region (show wpOps _ _ _ [0, 1, 2, 3, 4, 5, 6, 7] _ _ from ?_)
        refine opL 0 18 (v := .int .i64 k) (w' := w) (by kernel_rfl) (frZ hs) ?_ ?_
        · exact frY rfl (k_move rfl (ev_tmp h7))
        revert hs hd h1 h5 h8 h9 h10 h7; refine frM6 ?_; intro a hs hd h1 h5 h8 h9 h10 h7 h18
        refine opL 1 19 (v := .bool true) (w' := w) (by kernel_rfl) (frZ hs) ?_ ?_
        · exact frY rfl (o_neI rfl (ev_tmp h18) rfl hz)
        clear h18; revert hs hd h1 h5 h8 h9 h10 h7; refine frM6 ?_; intro a hs hd h1 h5 h8 h9 h10 h7 h19
        refine opL 2 20 (v := .bool true) (w' := w) (by kernel_rfl) (frZ hs) ?_ ?_
        · exact frY rfl (k_move rfl (ev_tmp h19))
        clear h19; revert hs hd h1 h5 h8 h9 h10 h7; refine frM6 ?_; intro a hs hd h1 h5 h8 h9 h10 h7 h20
        refine opL 3 21 (v := .slice A (Mk.fewOut most (l.take i)).length cap) (w' := w) (by kernel_rfl) (frZ hs) ?z101 ?z102
        case z101 => (intro o ho; obtain rfl := Option.some.inj ho; exact ⟨wanted_at (b := true) (want := true) rfl (by kernel_rfl) h20, k_move rfl (ev_tmp h5)⟩)
        case z102 =>
        refine frN7 hs hd h1 h5 h8 h9 h10 h7 h20 ?_; clear hs hd h1 h5 h8 h9 h10 h7 h20; intro a hs hd h1 h5 h8 h9 h10 h7 h20 h21
        refine opL 4 22 (v := .int .i64 k) (w' := w) (by kernel_rfl) (frZ hs) ?z103 ?z104
        case z103 => (intro o ho; obtain rfl := Option.some.inj ho; exact ⟨wanted_at (b := true) (want := true) rfl (by kernel_rfl) h20, k_move rfl (ev_tmp h7)⟩)
        case z104 =>
        refine frN8 hs hd h1 h5 h8 h9 h10 h7 h20 h21 ?_; clear hs hd h1 h5 h8 h9 h10 h7 h20 h21; intro a hs hd h1 h5 h8 h9 h10 h7 h20 h21 h22
        refine opL_call 5 23 (f := 50) (args := #[.slice A (Mk.fewOut most (l.take i)).length cap, .int .i64 k]) (R := fun v w' => v = .bool ((Mk.fewOut most (l.take i)).contains k) ∧ w = w') (by kernel_rfl) (frZ hs) ?z105 (contains_own' k hO (by omega)) ?z106
        case z105 => (intro o ho; obtain rfl := Option.some.inj ho; exact ⟨wanted_at (b := true) (want := true) rfl (by kernel_rfl) h20, c_Contains rfl rfl (ev_tmp h21) (ev_tmp h22)⟩)
        case z106 =>
        rintro _ _ a ⟨rfl, rfl⟩ F0
        rw [hcn] at F0
        replace hs := F0.z.trans hs
        replace hd := F0.e.trans hd
        replace h1 := (F0.n 1 (by decide)).trans h1
        replace h5 := (F0.n 5 (by decide)).trans h5
        replace h8 := (F0.n 8 (by decide)).trans h8
        replace h9 := (F0.n 9 (by decide)).trans h9
        replace h10 := (F0.n 10 (by decide)).trans h10
        replace h7 := (F0.n 7 (by decide)).trans h7
        replace h20 := (F0.n 20 (by decide)).trans h20
        clear h21
        clear h22
        have h23 := F0.s
        clear F0
        refine opL 6 24 (v := .bool true) (w' := w) (by kernel_rfl) (frZ hs) ?z107 ?z108
        case z107 => (intro o ho; obtain rfl := Option.some.inj ho; exact ⟨wanted_at (b := true) (want := true) rfl (by kernel_rfl) h20, o_not rfl (ev_tmp h23) rfl⟩)
        case z108 =>
        refine frN7 hs hd h1 h5 h8 h9 h10 h7 h20 ?_; clear hs hd h1 h5 h8 h9 h10 h7 h20 h23; intro a hs hd h1 h5 h8 h9 h10 h7 h20 h24
        refine opL 7 25 (v := .bool true) (w' := w) (by kernel_rfl) (frZ hs) ?_ ?_
        · exact frY rfl (k_pick_yes rfl (ev_tmp h20) (ev_tmp h24))
        clear h20 h24; revert hs hd h1 h5 h8 h9 h10 h7; refine frM6 ?_; intro a hs hd h1 h5 h8 h9 h10 h7 h25
        refine wp_cond_true (ev_tmp h25) ?_
        refine wp_region (show wpOps _ _ _ [0, 1, 2, 3, 4] _ _ from ?_)
        refine opL 0 26 (v := .slice A (Mk.fewOut most (l.take i)).length cap) (w' := w) (by kernel_rfl) (frZ hs) ?_ ?_
        · exact frY rfl (k_move rfl (ev_tmp h5))
        revert hs hd h1 h5 h8 h9 h10 h7 h25; refine frM7 ?_; intro a hs hd h1 h5 h8 h9 h10 h7 h25 h26
        refine opL 1 27 (v := .int .i64 k) (w' := w) (by kernel_rfl) (frZ hs) ?_ ?_
        · exact frY rfl (k_move rfl (ev_tmp h7))
        revert hs hd h1 h5 h8 h9 h10 h7 h25 h26; refine frM8 ?_; intro a hs hd h1 h5 h8 h9 h10 h7 h25 h26 h27
        refine opL 2 28 (v := .slice (some ⟨w.heap.size, 0, none⟩) 1 1) (w' := (w.alloc (.cells #[.int .i64 k] 3))) (by kernel_rfl) (frZ hs) ?_ ?_
        · exact frY rfl (k_slice1 rfl (ev_tmp h27))
        clear h27; revert hs hd h1 h5 h8 h9 h10 h7 h25 h26; refine frM8 ?_; intro a hs hd h1 h5 h8 h9 h10 h7 h25 h26 h28
        obtain ⟨w1, hw1⟩ : ∃ w1, w1 = w.alloc (.cells #[.int .i64 k] 3) := ⟨_, rfl⟩
        rw [← hw1]
        have q1 : Blk w1 w.heap.size 3 #[.int .i64 k] := by rw [hw1]; exact Blk.alloc _ _ _
        have l1 : Below w.heap.size w w1 := by rw [hw1]; exact (Below.refl _ _).alloc (Nat.le_refl _) _
        have hO1 := hO.exc (Exc.of (b := w.heap.size) l1) (fun g hg => by have := (hO.lt g hg).2; omega)
        have hS1 := hS.exc (Exc.of (b := w.heap.size) l1) (fun g hg => by have := (hS.lt g hg).2; omega)
        have hl1 : w0.heap.size ≤ w1.heap.size := Nat.le_trans hb.size l1.size
        clear hw1
        obtain ⟨v', w2, hr, hO2, hE2⟩ := append_int (c := 1) hO1 (q1.cell 0) (by omega) hl1
        have eN : Mk.fewOut most (l.take i) ++ [k] = Mk.fewOut most (l.take (i + 1)) := by rw [Mk.fewOut_take hlt, ← hk]; simp only [Mk.put, hz, hcn]; rfl
        rw [eN] at hO2
        obtain ⟨A', cap', rfl, -, -, -⟩ := hO2.ints
        refine opL 3 29 (v := .slice A' (Mk.fewOut most (l.take (i + 1))).length cap') (w' := w2) (by kernel_rfl) (frZ hs) ?_ ?_
        · exact frY rfl (k_append rfl rfl (ev_tmp h26) (ev_tmp h28) hr)
        refine frN7 hs hd h1 h5 h8 h9 h10 h7 h25 ?_; clear hs hd h1 h5 h8 h9 h10 h7 h25 h26 h28; intro a hs hd h1 h5 h8 h9 h10 h7 h25 h29
        refine opL 4 5 (v := .slice A' (Mk.fewOut most (l.take (i + 1))).length cap') (w' := w2) (by kernel_rfl) (frZ hs) ?_ ?_
        · exact frY rfl (k_assign rfl (ev_tmp h29))
        clear h5 h29; revert hs hd h1 h8 h9 h10 h7 h25; refine frM6 ?_; intro a hs hd h1 h8 h9 h10 h7 h25 h5
        refine wp_region (show wpOps _ _ _ [0, 1] _ _ from ?_)
        refine opL 0 30 (v := .int .i64 (i + 1 : Nat)) (w' := w2) (by kernel_rfl) (frZ hs) ?_ ?_
        · exact frY rfl (o_addI rfl (ev_tmp h10) rfl (wrap_small (n := (i : Int) + 1) (by omega) (by omega)))
        revert hs hd h1 h8 h9 h10 h7 h25 h5; refine frM7 ?_; intro a hs hd h1 h8 h9 h10 h7 h25 h5 h30
        refine opL 1 10 (v := .int .i64 (i + 1 : Nat)) (w' := w2) (by kernel_rfl) (frZ hs) ?_ ?_
        · exact frY rfl (k_move rfl (ev_tmp h30))
        clear h10 h30; revert hs hd h1 h8 h9 h7 h25 h5; refine frM6 ?_; intro a hs hd h1 h8 h9 h7 h25 h5 h10
        have lx := (l1.mono hb.size).trans ((hE2 w0.heap.size w0.heap.size (Nat.le_refl _)).below (Nat.le_refl _))
        refine ⟨⟨i + 1, A', cap', ⟨hd, hs, h1, h5, h8, h9, h10, by omega, hO2, hS1.exc (hE2 w0.heap.size w0.heap.size (Nat.le_refl _)) (fun g hg => by have := hsrc g hg; omega), hb.trans lx⟩⟩, ?_⟩
        rw [h10]
        show (l.length - ((i + 1 : Nat) : Int)).toNat < (l.length - (i : Int)).toNat
        omega
  · obtain rfl : i = l.length := by omega
    refine wp_seq ?_
    refine wp_region (show wpOps _ _ _ [0] _ _ from ?_)
    refine opL 0 11 (v := .bool false) (w' := w) (by kernel_rfl) (frZ hs) ?_ ?_
    · exact frY rfl (o_ltI rfl (ev_tmp h10) (ev_tmp h9) (decide_eq_false (by omega)))
    refine frN5 hs hd h1 h5 h8 h9 h10 ?_; clear hs hd h1 h5 h8 h9 h10; intro a hs hd h1 h5 h8 h9 h10 h11
    refine wp_seq ?_
    refine wp_cond_false (ev_tmp h11) ?_
    clear h11
    refine wp_exit ?_
    exact hend rfl a hd hs h5

noncomputable def fewBody : Code := Tryz.f23.body.getD .skip
theorem sort_own' {w : World} {base : Nat} {v : Value} {L : List Int} (h : OwnI w base v L) (hl : L.length ≤ 1000000) : Calls Tryz.prog 21 #[v] w fun e w' => ∃ u, e = .returned u ∧ u = .tuple #[] ∧ OwnI w' base v (L.mergeSort fun x y => decide (x ≤ y)) ∧ ∀ B b, B ≤ base → Exc B b w w' :=
  (sort_own h hl).mono fun _ _ h => ⟨_, h.1, rfl, h.2⟩
set_option maxRecDepth 100000 in
set_option maxHeartbeats 1000000 in
theorem few_any (b0 : Nat) (most : Int) (A0 : Option Addr) (c0 : Nat) (l : List Int) (w : World) (hS : OwnI w b0 (.slice A0 l.length c0) l) (hl : l.length ≤ 1000) (hm0 : 0 ≤ most) (hm1 : most ≤ 1000) :
    Calls Tryz.prog 23 #[.slice A0 l.length c0, .int .i64 most] w fun e w' => ∃ A cap, e = .returned (.slice A (Mk.few most l).length cap) ∧ OwnI w' w.heap.size (.slice A (Mk.few most l).length cap) (Mk.few most l) ∧ Below w.heap.size w w' := by
  refine calls_of_wp Tryz.func23 (show Tryz.f23.body = some fewBody from rfl) ?_
  generalize hA : (Act.mk (#[.slice A0 l.length c0, .int .i64 most] ++ Array.replicate (Tryz.f23.ntmps - (#[.slice A0 l.length c0, .int .i64 most] : Array Value).size) undef) []) = a
  have hs : a.tmps.size = 34 := by rw [← hA]; simp [Tryz.ntmps23]
  have hd : a.defers = [] := by rw [← hA]
  have h0 : a.tmps.getD 0 undef = .slice A0 l.length c0 := by rw [← hA]; simp
  have h1 : a.tmps.getD 1 undef = .int .i64 most := by rw [← hA]; simp
  clear hA
  have hfin : ∀ (a' : Act) (w' : World) (A : Option Addr) (cap : Nat), a'.defers = [] → a'.tmps.getD 4 undef = .slice A (Mk.few most l).length cap → OwnI w' w.heap.size (.slice A (Mk.few most l).length cap) (Mk.few most l) → Below w.heap.size w w' → (bodyPost Tryz.prog Tryz.f23 fun e w' => ∃ A cap, e = .returned (.slice A (Mk.few most l).length cap) ∧ OwnI w' w.heap.size (.slice A (Mk.few most l).length cap) (Mk.few most l) ∧ Below w.heap.size w w') .ret a' w' := by
    intro a' w' A cap k1 k2 k3 k4
    exact ⟨k1, _, results_tmp rfl _ _ _, A, cap, by rw [k2], k3, k4⟩
  generalize (bodyPost Tryz.prog Tryz.f23 fun e w' => ∃ A cap, e = .returned (.slice A (Mk.few most l).length cap) ∧ OwnI w' w.heap.size (.slice A (Mk.few most l).length cap) (Mk.few most l) ∧ Below w.heap.size w w') = Q at hfin ⊢
  unfold fewBody
  conv => arg 2; whnf
  refine wp_seq ?_
  refine wp_region (show wpOps _ _ _ [0] _ _ from ?_)
  refine opL 0 4 (v := .slice none 0 0) (w' := w) (by kernel_rfl) (frZ hs) ?_ ?_
  · exact frY rfl (k_assign rfl rfl)
  refine frN2 hs hd h0 h1 ?_; clear hs hd h0 h1; intro a hs hd h0 h1 h4
  refine wp_seq ?_
  refine wp_region (show wpOps _ _ _ [0] _ _ from ?_)
  refine opL 0 5 (v := .slice none 0 0) (w' := w) (by kernel_rfl) (frZ hs) ?_ ?_
  · exact frY rfl (k_assign rfl rfl)
  revert hs hd h0 h1 h4; refine frM3 ?_; intro a hs hd h0 h1 h4 h5
  refine wp_seq ?_
  refine wp_seq ?_
  refine wp_region (show wpOps _ _ _ [0, 1, 2] _ _ from ?_)
  refine opL 0 8 (v := .slice A0 l.length c0) (w' := w) (by kernel_rfl) (frZ hs) ?_ ?_
  · exact frY rfl (k_move rfl (ev_tmp h0))
  revert hs hd h0 h1 h4 h5; refine frM4 ?_; intro a hs hd h0 h1 h4 h5 h8
  refine opL 1 9 (v := .int .i64 l.length) (w' := w) (by kernel_rfl) (frZ hs) ?_ ?_
  · exact frY rfl (k_lenL rfl (ev_tmp h8))
  revert hs hd h0 h1 h4 h5 h8; refine frM5 ?_; intro a hs hd h0 h1 h4 h5 h8 h9
  refine opL 2 10 (v := .int .i64 0) (w' := w) (by kernel_rfl) (frZ hs) ?_ ?_
  · exact frY rfl (k_move rfl rfl)
  revert hs hd h0 h1 h4 h5 h8 h9; refine frM6 ?_; intro a hs hd h0 h1 h4 h5 h8 h9 h10
  refine wp_block ?_
  refine wp_loop (fun a wx => ∃ i A cap, FewI w b0 most A0 c0 l i A cap a wx) (fun a _ => (l.length - intOf (a.tmps.getD 10 undef)).toNat) ⟨0, none, 0, ⟨hd, hs, h1, h5, h8, h9, h10, Nat.zero_le _, OwnI.nil _ _, hS, Below.refl _ _⟩⟩ ?_
  clear hs hd h0 h1 h4 h5 h8 h9 h10 a
  rintro a wx ⟨i, A, cap, J⟩
  refine few_round w b0 most A0 c0 l (fun g hg => (hS.lt g hg).2) hl hm0 hm1 i A cap a wx _ J ?_
  rintro rfl a hd hs h5
  rw [List.take_length] at h5
  have hO := J.o
  rw [List.take_length] at hO
  have hb := J.b
  clear J
  have hlen := Mk.fewOut_len most l l.length (Nat.le_refl _)
  rw [List.take_length] at hlen
  change Code.wp _ _ _ _ _
  refine wp_seq ?_
  refine wp_region (show wpOps _ _ _ [0, 1] _ _ from ?_)
  refine opL 0 31 (v := .slice A (Mk.fewOut most l).length cap) (w' := wx) (by kernel_rfl) (frZ hs) ?_ ?_
  · exact frY rfl (k_move rfl (ev_tmp h5))
  refine frN1 hs hd h5 ?_; clear hs hd h5; intro a hs hd h5 h31
  refine opL_call 1 32 (f := 21) (args := #[.slice A (Mk.fewOut most l).length cap]) (R := fun u w' => u = .tuple #[] ∧ OwnI w' w.heap.size (.slice A (Mk.fewOut most l).length cap) (Mk.few most l) ∧ ∀ B b, B ≤ w.heap.size → Exc B b wx w') (by kernel_rfl) (frZ hs) ?z139 (sort_own' hO (by omega)) ?z140
  case z139 => exact frY rfl (c_Sort rfl rfl (ev_tmp h31))
  case z140 =>
  rintro _ w2 a ⟨rfl, hO2, hE2⟩ F0
  replace hs := F0.z.trans hs
  replace hd := F0.e.trans hd
  replace h5 := (F0.n 5 (by decide)).trans h5
  clear h31
  have h32 := F0.s
  clear F0
  refine wp_seq ?_
  refine wp_region (show wpOps _ _ _ [0, 1] _ _ from ?_)
  refine opL 0 33 (v := .slice A (Mk.fewOut most l).length cap) (w' := w2) (by kernel_rfl) (frZ hs) ?_ ?_
  · exact frY rfl (k_move rfl (ev_tmp h5))
  refine frN1 hs hd h5 ?_; clear hs hd h5 h32; intro a hs hd h5 h33
  refine opL 1 4 (v := .slice A (Mk.fewOut most l).length cap) (w' := w2) (by kernel_rfl) (frZ hs) ?_ ?_
  · exact frY rfl (k_assign rfl (ev_tmp h33))
  clear h33; revert hs hd h5; refine frM1 ?_; intro a hs hd h5 h4
  refine wp_ret ?_
  have e : (Mk.few most l).length = (Mk.fewOut most l).length := List.length_mergeSort _
  rw [← e] at h4 hO2
  exact hfin a w2 A cap hd h4 hO2 (hb.trans ((hE2 w.heap.size w.heap.size (Nat.le_refl _)).below (Nat.le_refl _)))
end Go.Proofs.YtocpmljkmdpfkaaGreatDoor
