/-
  The law's few: numbers, each once, sorted.
-/
import Derived.Test.YtnggajehngemmaaGreatDoorApp
import Derived.Test.YtnggajehngemmaaGreatDoorKop
namespace Go.Proofs.YtnggajehngemmaaGreatDoor
open Go.RowKit
theorem OwnI.get {w : World} {base : Nat} {A : Option Addr} {n cap : Nat} {L : List Int} (h : OwnI w base (.slice A n cap) L) (i : Nat) (hi : i < L.length) : ∃ g, A = some ⟨g, 0, none⟩ ∧ w.cell? ⟨g, i, none⟩ = some (.int .i64 L[i]) := by
  rcases h.2 with ⟨-, hn⟩ | ⟨g, c, cur, e, -⟩
  · omega
  · obtain ⟨A', c', e', -, -, hin⟩ := h.ints
    obtain ⟨rfl, -, -⟩ := Value.slice.inj e
    obtain ⟨rfl, -, -⟩ := Value.slice.inj e'
    obtain ⟨ad, e2, -, hc⟩ := hin i hi
    obtain rfl := Option.some.inj e2
    have e3 : (⟨g, 0, none⟩ : Addr).add i = ⟨g, i, none⟩ := by simp [Addr.add]; omega
    rw [e3] at hc
    exact ⟨g, rfl, hc⟩
/-- what holds ahead of each round -/
structure FewI (w0 : World) (b0 : Nat) (most : Int) (A0 : Option Addr) (c0 : Nat) (l : List Int) (i : Nat) (A : Option Addr) (cap : Nat) (a : Act) (w : World) : Prop where
  d : a.defers = []
  z : a.tmps.size = 34
  s1 : a.tmps.getD 1 undef = .int .i64 most
  s5 : a.tmps.getD 5 undef = .slice A (Mk.fewOut most (l.take i)).length cap
  s8 : a.tmps.getD 8 undef = .slice A0 l.length c0
  s9 : a.tmps.getD 9 undef = .int .i64 l.length
  s10 : a.tmps.getD 10 undef = .int .i64 i
  iN : i ≤ l.length
  o : OwnI w w0.heap.size (.slice A (Mk.fewOut most (l.take i)).length cap) (Mk.fewOut most (l.take i))
  src : OwnI w b0 (.slice A0 l.length c0) l
  b : Below w0.heap.size w0 w
noncomputable def fewRound : Code := (Tryz.f52.body.bind loopC).getD .skip

theorem contains_own' {w : World} {base : Nat} {v : Value} {L : List Int} (x : Int) (h : OwnI w base v L) (hl : L.length ≤ 1000000) : Calls Tryz.prog 20 #[v, .int .i64 x] w fun e w' => ∃ v, e = .returned v ∧ v = .bool (L.contains x) ∧ w = w' :=
  (contains_own x h hl).mono fun _ _ h => ⟨_, h.1, rfl, h.2.symm⟩
set_option maxRecDepth 100000 in
set_option maxHeartbeats 1000000 in
theorem few_round (w0 : World) (b0 : Nat) (most : Int) (A0 : Option Addr) (c0 : Nat) (l : List Int) (hsrc : ∀ g, (Value.slice A0 l.length c0).ownBlock = some g → g < w0.heap.size) (hl : l.length ≤ 1000) (hm0 : 0 ≤ most) (hm1 : most ≤ 1000) (i : Nat) (A : Option Addr) (cap : Nat) (a : Act) (w : World) (Q : Exit → Act → World → Prop)
    (J : FewI w0 b0 most A0 c0 l i A cap a w) (hend : i = l.length → ∀ a' : Act, a'.defers = [] → a'.tmps.size = 34 → a'.tmps.getD 5 undef = .slice A (Mk.fewOut most (l.take i)).length cap → Q (.exit 0) a' w) :
    fewRound.wp Tryz.prog (Exit.then (fun a' w' => (∃ i A cap, FewI w0 b0 most A0 c0 l i A cap a' w') ∧ (l.length - intOf (a'.tmps.getD 10 undef)).toNat < (l.length - intOf (a.tmps.getD 10 undef)).toNat) Q) a w := by
  have hd := J.d
  have hs := J.z
  have h1 := J.s1
  have h5 := J.s5
  have h8 := J.s8
  have h9 := J.s9
  have h10 := J.s10
  have kk := (((((kn hs hd).p h1).p h5).p h8).p h9).p h10; clear hs hd h1 h5 h8 h9 h10
  have hiN := J.iN; have hO := J.o; have hS := J.src; have hb := J.b
  have hlen := Mk.fewOut_len most l i hiN
  have k10 : (l.length - intOf (a.tmps.getD 10 undef)).toNat = (l.length - (i : Int)).toNat := by rw [(kk.g 10 rfl)]; rfl
  rw [k10]
  clear k10 J
  unfold fewRound
  conv => arg 2; whnf
  by_cases hlt : i < l.length
  ·
    clear hend
    obtain ⟨g, rfl, hc⟩ := hS.get i hlt
    obtain ⟨k, hk⟩ : ∃ k, k = l[i].tmod (most + 1) := ⟨_, rfl⟩
    cases hz : (k != 0)
    case false =>
      refine wp_seq ?_
      refine wpr 1 ?_
      refine opk 0 11 (v := .bool true) kk (frY rfl (o_ltI rfl (kk.e 10 rfl) (kk.e 9 rfl) (decide_eq_true (by omega)))) ?_; clear kk; intro a kk
      refine wp_seq ?_
      refine wp_cond_true (kk.e 11 rfl) ?_
      refine wp_skip ?_
      refine wp_seq ?_
      refine wp_block ?_
      refine wp_seq ?_
      refine wpr 3 ?_
      refine opk 0 12 (v := .pointer (some ⟨g, i, none⟩)) kk (frY rfl (k_at rfl rfl (kk.e 8 rfl) (kk.e 10 rfl) hlt)) ?_; clear kk; intro a kk
      refine opk 1 13 (v := .int .i64 l[i]) kk (frY rfl (k_loadI rfl (kk.e 12 rfl) hc)) ?_; clear kk; intro a kk
      refine opk 2 7 kk (frY rfl (k_assign rfl (kk.e 13 rfl))) ?_; clear kk; intro a kk
      refine wp_seq ?_
      refine wpr 5 ?_
      refine opk 0 14 kk (frY rfl (k_move rfl (kk.e 7 rfl))) ?_; clear kk; intro a kk
      refine opk 1 15 kk (frY rfl (k_move rfl (kk.e 1 rfl))) ?_; clear kk; intro a kk
      refine opk 2 16 (v := .int .i64 (most + 1)) kk (frY rfl (o_addI rfl (kk.e 15 rfl) rfl (wrap_small (by omega) (by omega)))) ?_; clear kk; intro a kk
      refine opk 3 17 (v := .int .i64 k) kk (frY rfl (o_remI rfl (kk.e 14 rfl) (kk.e 16 rfl) (by omega) hk.symm)) ?_; clear kk; intro a kk
      replace kk := kk.keep [17, 10, 9, 8, 5, 1] rfl
      refine opk 4 7 kk (frY rfl (k_assign rfl (kk.e 17 rfl))) ?_; clear kk; intro a kk
      refine wp_seq ?_
      refine wpr 8 ?_
      refine opk 0 18 kk (frY rfl (k_move rfl (kk.e 7 rfl))) ?_; clear kk; intro a kk
      refine opk 1 19 (v := .bool false) kk (frY rfl (o_neI rfl (kk.e 18 rfl) rfl hz)) ?_; clear kk; intro a kk
      refine opk 2 20 kk (frY rfl (k_move rfl (kk.e 19 rfl))) ?_; clear kk; intro a kk
      refine opkn 3 21 kk (frX (wanted_at (b := false) (want := true) rfl (by kernel_rfl) (kk.g 20 rfl))) ?_; clear kk; intro a kk
      refine opkn 4 22 kk (frX (wanted_at (b := false) (want := true) rfl (by kernel_rfl) (kk.g 20 rfl))) ?_; clear kk; intro a kk
      refine opkn 5 23 kk (frX (wanted_at (b := false) (want := true) rfl (by kernel_rfl) (kk.g 20 rfl))) ?_; clear kk; intro a kk
      refine opkn 6 24 kk (frX (wanted_at (b := false) (want := true) rfl (by kernel_rfl) (kk.g 20 rfl))) ?_; clear kk; intro a kk
      refine opk 7 25 (v := .bool false) kk (frY rfl (k_pick_no rfl (kk.e 20 rfl) rfl)) ?_; clear kk; intro a kk
      refine wp_cond_false (kk.e 25 rfl) ?_
      refine wp_skip ?_
      refine wpr 2 ?_
      refine opk 0 30 (v := .int .i64 (i + 1 : Nat)) kk (frY rfl (o_addI rfl (kk.e 10 rfl) rfl (wrap_small (n := (i : Int) + 1) (by omega) (by omega)))) ?_; clear kk; intro a kk
      replace kk := kk.keep [30, 25, 7, 9, 8, 5, 1] rfl
      refine opk 1 10 kk (frY rfl (k_move rfl (kk.e 30 rfl))) ?_; clear kk; intro a kk
      have eN : Mk.fewOut most (l.take (i + 1)) = Mk.fewOut most (l.take i) := by rw [Mk.fewOut_take hlt, ← hk]; simp only [Mk.put, hz]; rfl
      rw [← eN] at kk hO
      refine ⟨⟨i + 1, A, cap, ⟨kk.d, kk.z, (kk.g 1 rfl), (kk.g 5 rfl), (kk.g 8 rfl), (kk.g 9 rfl), (kk.g 10 rfl), by omega, hO, hS, hb⟩⟩, ?_⟩
      rw [(kk.g 10 rfl)]
      show (l.length - ((i + 1 : Nat) : Int)).toNat < (l.length - (i : Int)).toNat
      omega
    case true =>
      cases hcn : (Mk.fewOut most (l.take i)).contains k
      case true =>
        refine wp_seq ?_
        refine wpr 1 ?_
        refine opk 0 11 (v := .bool true) kk (frY rfl (o_ltI rfl (kk.e 10 rfl) (kk.e 9 rfl) (decide_eq_true (by omega)))) ?_; clear kk; intro a kk
        refine wp_seq ?_
        refine wp_cond_true (kk.e 11 rfl) ?_
        refine wp_skip ?_
        refine wp_seq ?_
        refine wp_block ?_
        refine wp_seq ?_
        refine wpr 3 ?_
        refine opk 0 12 (v := .pointer (some ⟨g, i, none⟩)) kk (frY rfl (k_at rfl rfl (kk.e 8 rfl) (kk.e 10 rfl) hlt)) ?_; clear kk; intro a kk
        refine opk 1 13 (v := .int .i64 l[i]) kk (frY rfl (k_loadI rfl (kk.e 12 rfl) hc)) ?_; clear kk; intro a kk
        refine opk 2 7 kk (frY rfl (k_assign rfl (kk.e 13 rfl))) ?_; clear kk; intro a kk
        refine wp_seq ?_
        refine wpr 5 ?_
        refine opk 0 14 kk (frY rfl (k_move rfl (kk.e 7 rfl))) ?_; clear kk; intro a kk
        refine opk 1 15 kk (frY rfl (k_move rfl (kk.e 1 rfl))) ?_; clear kk; intro a kk
        refine opk 2 16 (v := .int .i64 (most + 1)) kk (frY rfl (o_addI rfl (kk.e 15 rfl) rfl (wrap_small (by omega) (by omega)))) ?_; clear kk; intro a kk
        refine opk 3 17 (v := .int .i64 k) kk (frY rfl (o_remI rfl (kk.e 14 rfl) (kk.e 16 rfl) (by omega) hk.symm)) ?_; clear kk; intro a kk
        replace kk := kk.keep [17, 10, 9, 8, 5, 1] rfl
        refine opk 4 7 kk (frY rfl (k_assign rfl (kk.e 17 rfl))) ?_; clear kk; intro a kk
        refine wp_seq ?_
        refine wpr 8 ?_
        refine opk 0 18 kk (frY rfl (k_move rfl (kk.e 7 rfl))) ?_; clear kk; intro a kk
        refine opk 1 19 (v := .bool true) kk (frY rfl (o_neI rfl (kk.e 18 rfl) rfl hz)) ?_; clear kk; intro a kk
        refine opk 2 20 kk (frY rfl (k_move rfl (kk.e 19 rfl))) ?_; clear kk; intro a kk
        refine opk 3 21 kk (frY (wanted_at (b := true) (want := true) rfl (by kernel_rfl) (kk.g 20 rfl)) (k_move rfl (kk.e 5 rfl))) ?_; clear kk; intro a kk
        refine opk 4 22 kk (frY (wanted_at (b := true) (want := true) rfl (by kernel_rfl) (kk.g 20 rfl)) (k_move rfl (kk.e 7 rfl))) ?_; clear kk; intro a kk
        refine opkc 5 23 (R := fun v w' => v = .bool ((Mk.fewOut most (l.take i)).contains k) ∧ w = w') kk (contains_own' k hO (by omega)) (frY (wanted_at (b := true) (want := true) rfl (by kernel_rfl) (kk.g 20 rfl)) (c_Contains rfl rfl (kk.e 21 rfl) (kk.e 22 rfl))) ?_; clear kk
        rintro _ _ a ⟨rfl, rfl⟩ F0
        rw [hcn] at F0
        have kk := F0; clear F0
        refine opk 6 24 (v := .bool false) kk (frY (wanted_at (b := true) (want := true) rfl (by kernel_rfl) (kk.g 20 rfl)) (o_not rfl (kk.e 23 rfl) rfl)) ?_; clear kk; intro a kk
        refine opk 7 25 (v := .bool false) kk (frY rfl (k_pick_yes rfl (kk.e 20 rfl) (kk.e 24 rfl))) ?_; clear kk; intro a kk
        refine wp_cond_false (kk.e 25 rfl) ?_
        refine wp_skip ?_
        refine wpr 2 ?_
        refine opk 0 30 (v := .int .i64 (i + 1 : Nat)) kk (frY rfl (o_addI rfl (kk.e 10 rfl) rfl (wrap_small (n := (i : Int) + 1) (by omega) (by omega)))) ?_; clear kk; intro a kk
        replace kk := kk.keep [30, 25, 7, 9, 8, 5, 1] rfl
        refine opk 1 10 kk (frY rfl (k_move rfl (kk.e 30 rfl))) ?_; clear kk; intro a kk
        have eN : Mk.fewOut most (l.take (i + 1)) = Mk.fewOut most (l.take i) := by rw [Mk.fewOut_take hlt, ← hk]; simp only [Mk.put, hz, hcn]; rfl
        rw [← eN] at kk hO
        refine ⟨⟨i + 1, A, cap, ⟨kk.d, kk.z, (kk.g 1 rfl), (kk.g 5 rfl), (kk.g 8 rfl), (kk.g 9 rfl), (kk.g 10 rfl), by omega, hO, hS, hb⟩⟩, ?_⟩
        rw [(kk.g 10 rfl)]
        show (l.length - ((i + 1 : Nat) : Int)).toNat < (l.length - (i : Int)).toNat
        omega
      case false =>
        refine wp_seq ?_
        refine wpr 1 ?_
        refine opk 0 11 (v := .bool true) kk (frY rfl (o_ltI rfl (kk.e 10 rfl) (kk.e 9 rfl) (decide_eq_true (by omega)))) ?_; clear kk; intro a kk
        refine wp_seq ?_
        refine wp_cond_true (kk.e 11 rfl) ?_
        refine wp_skip ?_
        refine wp_seq ?_
        refine wp_block ?_
        refine wp_seq ?_
        refine wpr 3 ?_
        refine opk 0 12 (v := .pointer (some ⟨g, i, none⟩)) kk (frY rfl (k_at rfl rfl (kk.e 8 rfl) (kk.e 10 rfl) hlt)) ?_; clear kk; intro a kk
        refine opk 1 13 (v := .int .i64 l[i]) kk (frY rfl (k_loadI rfl (kk.e 12 rfl) hc)) ?_; clear kk; intro a kk
        refine opk 2 7 kk (frY rfl (k_assign rfl (kk.e 13 rfl))) ?_; clear kk; intro a kk
        refine wp_seq ?_
        refine wpr 5 ?_
        refine opk 0 14 kk (frY rfl (k_move rfl (kk.e 7 rfl))) ?_; clear kk; intro a kk
        refine opk 1 15 kk (frY rfl (k_move rfl (kk.e 1 rfl))) ?_; clear kk; intro a kk
        refine opk 2 16 (v := .int .i64 (most + 1)) kk (frY rfl (o_addI rfl (kk.e 15 rfl) rfl (wrap_small (by omega) (by omega)))) ?_; clear kk; intro a kk
        refine opk 3 17 (v := .int .i64 k) kk (frY rfl (o_remI rfl (kk.e 14 rfl) (kk.e 16 rfl) (by omega) hk.symm)) ?_; clear kk; intro a kk
        replace kk := kk.keep [17, 10, 9, 8, 5, 1] rfl
        refine opk 4 7 kk (frY rfl (k_assign rfl (kk.e 17 rfl))) ?_; clear kk; intro a kk
        refine wp_seq ?_
        refine wpr 8 ?_
        refine opk 0 18 kk (frY rfl (k_move rfl (kk.e 7 rfl))) ?_; clear kk; intro a kk
        refine opk 1 19 (v := .bool true) kk (frY rfl (o_neI rfl (kk.e 18 rfl) rfl hz)) ?_; clear kk; intro a kk
        refine opk 2 20 kk (frY rfl (k_move rfl (kk.e 19 rfl))) ?_; clear kk; intro a kk
        refine opk 3 21 kk (frY (wanted_at (b := true) (want := true) rfl (by kernel_rfl) (kk.g 20 rfl)) (k_move rfl (kk.e 5 rfl))) ?_; clear kk; intro a kk
        refine opk 4 22 kk (frY (wanted_at (b := true) (want := true) rfl (by kernel_rfl) (kk.g 20 rfl)) (k_move rfl (kk.e 7 rfl))) ?_; clear kk; intro a kk
        refine opkc 5 23 (R := fun v w' => v = .bool ((Mk.fewOut most (l.take i)).contains k) ∧ w = w') kk (contains_own' k hO (by omega)) (frY (wanted_at (b := true) (want := true) rfl (by kernel_rfl) (kk.g 20 rfl)) (c_Contains rfl rfl (kk.e 21 rfl) (kk.e 22 rfl))) ?_; clear kk
        rintro _ _ a ⟨rfl, rfl⟩ F0
        rw [hcn] at F0
        have kk := F0; clear F0
        refine opk 6 24 (v := .bool true) kk (frY (wanted_at (b := true) (want := true) rfl (by kernel_rfl) (kk.g 20 rfl)) (o_not rfl (kk.e 23 rfl) rfl)) ?_; clear kk; intro a kk
        refine opk 7 25 (v := .bool true) kk (frY rfl (k_pick_yes rfl (kk.e 20 rfl) (kk.e 24 rfl))) ?_; clear kk; intro a kk
        refine wp_cond_true (kk.e 25 rfl) ?_
        refine wpr 5 ?_
        refine opk 0 26 kk (frY rfl (k_move rfl (kk.e 5 rfl))) ?_; clear kk; intro a kk
        refine opk 1 27 kk (frY rfl (k_move rfl (kk.e 7 rfl))) ?_; clear kk; intro a kk
        refine opk 2 28 (v := .slice (some ⟨w.heap.size, 0, none⟩) 1 1) (w' := (w.alloc (.cells #[.int .i64 k] 3))) kk (frY rfl (k_slice1 rfl (kk.e 27 rfl))) ?_; clear kk; intro a kk
        obtain ⟨w1, hw1⟩ : ∃ w1, w1 = w.alloc (.cells #[.int .i64 k] 3) := ⟨_, rfl⟩
        rw [← hw1]
        have q1 : Blk w1 w.heap.size 3 #[.int .i64 k] := by rw [hw1]; exact Blk.alloc _ _ _
        have l1 : Below w.heap.size w w1 := by rw [hw1]; exact (Below.refl _ _).alloc (Nat.le_refl _) _
        have hO1 := hO.exc (Exc.of (b := w.heap.size) l1) (fun g hg => by have := (hO.lt g hg).2; omega)
        have hS1 := hS.exc (Exc.of (b := w.heap.size) l1) (fun g hg => by have := (hS.lt g hg).2; omega)
        have hl1 : w0.heap.size ≤ w1.heap.size := Nat.le_trans hb.size l1.size
        clear hw1
        obtain ⟨v', w2, hr, hO2, hE2⟩ := append_int (c := 1) hO1 (q1.cell 0) (by omega) hl1
        have eN : Mk.fewOut most (l.take i) ++ [k] = Mk.fewOut most (l.take (i + 1)) := by rw [Mk.fewOut_take hlt, ← hk]; simp only [Mk.put, hz, hcn]; rfl
        rw [eN] at hO2
        obtain ⟨A', cap', rfl, -, -, -⟩ := hO2.ints
        refine opk 3 29 (v := .slice A' (Mk.fewOut most (l.take (i + 1))).length cap') kk (frY rfl (k_append rfl rfl (kk.e 26 rfl) (kk.e 28 rfl) hr)) ?_; clear kk; intro a kk
        replace kk := kk.keep [29, 25, 7, 10, 9, 8, 1] rfl
        refine opk 4 5 kk (frY rfl (k_assign rfl (kk.e 29 rfl))) ?_; clear kk; intro a kk
        refine wpr 2 ?_
        refine opk 0 30 (v := .int .i64 (i + 1 : Nat)) kk (frY rfl (o_addI rfl (kk.e 10 rfl) rfl (wrap_small (n := (i : Int) + 1) (by omega) (by omega)))) ?_; clear kk; intro a kk
        replace kk := kk.keep [30, 5, 25, 7, 9, 8, 1] rfl
        refine opk 1 10 kk (frY rfl (k_move rfl (kk.e 30 rfl))) ?_; clear kk; intro a kk
        have lx := (l1.mono hb.size).trans ((hE2 w0.heap.size w0.heap.size (Nat.le_refl _)).below (Nat.le_refl _))
        refine ⟨⟨i + 1, A', cap', ⟨kk.d, kk.z, (kk.g 1 rfl), (kk.g 5 rfl), (kk.g 8 rfl), (kk.g 9 rfl), (kk.g 10 rfl), by omega, hO2, hS1.exc (hE2 w0.heap.size w0.heap.size (Nat.le_refl _)) (fun g hg => by have := hsrc g hg; omega), hb.trans lx⟩⟩, ?_⟩
        rw [(kk.g 10 rfl)]
        show (l.length - ((i + 1 : Nat) : Int)).toNat < (l.length - (i : Int)).toNat
        omega
  ·
    obtain rfl : i = l.length := by omega
    refine wp_seq ?_
    refine wpr 1 ?_
    refine opk 0 11 (v := .bool false) kk (frY rfl (o_ltI rfl (kk.e 10 rfl) (kk.e 9 rfl) (decide_eq_false (by omega)))) ?_; clear kk; intro a kk
    refine wp_seq ?_
    refine wp_cond_false (kk.e 11 rfl) ?_
    refine wp_exit ?_
    exact hend rfl a kk.d kk.z (kk.g 5 rfl)

noncomputable def fewBody : Code := Tryz.f52.body.getD .skip
theorem sort_own' {w : World} {base : Nat} {v : Value} {L : List Int} (h : OwnI w base v L) (hl : L.length ≤ 1000000) : Calls Tryz.prog 50 #[v] w fun e w' => ∃ u, e = .returned u ∧ u = .tuple #[] ∧ OwnI w' base v (L.mergeSort fun x y => decide (x ≤ y)) ∧ ∀ B b, B ≤ base → Exc B b w w' :=
  (sort_own h hl).mono fun _ _ h => ⟨_, h.1, rfl, h.2⟩
set_option maxRecDepth 100000 in
set_option maxHeartbeats 1000000 in
theorem few_any (b0 : Nat) (most : Int) (A0 : Option Addr) (c0 : Nat) (l : List Int) (w : World) (hS : OwnI w b0 (.slice A0 l.length c0) l) (hl : l.length ≤ 1000) (hm0 : 0 ≤ most) (hm1 : most ≤ 1000) :
    Calls Tryz.prog 52 #[.slice A0 l.length c0, .int .i64 most] w fun e w' => ∃ A cap, e = .returned (.slice A (Mk.few most l).length cap) ∧ OwnI w' w.heap.size (.slice A (Mk.few most l).length cap) (Mk.few most l) ∧ Below w.heap.size w w' := by
  refine calls_of_wp Tryz.func52 (show Tryz.f52.body = some fewBody from rfl) ?_
  generalize hA : (Act.mk (#[.slice A0 l.length c0, .int .i64 most] ++ Array.replicate (Tryz.f52.ntmps - (#[.slice A0 l.length c0, .int .i64 most] : Array Value).size) undef) []) = a
  have hs : a.tmps.size = 34 := by rw [← hA]; simp [Tryz.ntmps52]
  have hd : a.defers = [] := by rw [← hA]
  have h0 : a.tmps.getD 0 undef = .slice A0 l.length c0 := by rw [← hA]; simp
  have h1 : a.tmps.getD 1 undef = .int .i64 most := by rw [← hA]; simp
  clear hA
  have kk := ((kn hs hd).p h0).p h1; clear hs hd h0 h1
  have hfin : ∀ (a' : Act) (w' : World) (A : Option Addr) (cap : Nat), a'.defers = [] → a'.tmps.getD 4 undef = .slice A (Mk.few most l).length cap → OwnI w' w.heap.size (.slice A (Mk.few most l).length cap) (Mk.few most l) → Below w.heap.size w w' → (bodyPost Tryz.prog Tryz.f52 fun e w' => ∃ A cap, e = .returned (.slice A (Mk.few most l).length cap) ∧ OwnI w' w.heap.size (.slice A (Mk.few most l).length cap) (Mk.few most l) ∧ Below w.heap.size w w') .ret a' w' := by
    intro a' w' A cap k1 k2 k3 k4
    exact ⟨k1, _, results_tmp rfl _ _ _, A, cap, by rw [k2], k3, k4⟩
  generalize (bodyPost Tryz.prog Tryz.f52 fun e w' => ∃ A cap, e = .returned (.slice A (Mk.few most l).length cap) ∧ OwnI w' w.heap.size (.slice A (Mk.few most l).length cap) (Mk.few most l) ∧ Below w.heap.size w w') = Q at hfin ⊢
  unfold fewBody
  conv => arg 2; whnf
  refine wp_seq ?_
  refine wpr 1 ?_
  refine opk 0 4 (v := .slice none 0 0) kk (frY rfl (k_assign rfl rfl)) ?_; clear kk; intro a kk
  refine wp_seq ?_
  refine wpr 1 ?_
  refine opk 0 5 (v := .slice none 0 0) kk (frY rfl (k_assign rfl rfl)) ?_; clear kk; intro a kk
  refine wp_seq ?_
  refine wp_seq ?_
  refine wpr 3 ?_
  refine opk 0 8 kk (frY rfl (k_move rfl (kk.e 0 rfl))) ?_; clear kk; intro a kk
  refine opk 1 9 (v := .int .i64 l.length) kk (frY rfl (k_lenL rfl (kk.e 8 rfl))) ?_; clear kk; intro a kk
  refine opk 2 10 (v := .int .i64 0) kk (frY rfl (k_move rfl rfl)) ?_; clear kk; intro a kk
  refine wp_block ?_
  refine wp_loop (fun a wx => ∃ i A cap, FewI w b0 most A0 c0 l i A cap a wx) (fun a _ => (l.length - intOf (a.tmps.getD 10 undef)).toNat) ⟨0, none, 0, ⟨kk.d, kk.z, (kk.g 1 rfl), (kk.g 5 rfl), (kk.g 8 rfl), (kk.g 9 rfl), (kk.g 10 rfl), Nat.zero_le _, OwnI.nil _ _, hS, Below.refl _ _⟩⟩ ?_
  clear kk a
  rintro a wx ⟨i, A, cap, J⟩
  refine few_round w b0 most A0 c0 l (fun g hg => (hS.lt g hg).2) hl hm0 hm1 i A cap a wx _ J ?_
  rintro rfl a hd hs h5
  have kk := (kn hs hd).p h5; clear hs hd h5
  rw [List.take_length] at kk
  have hO := J.o
  rw [List.take_length] at hO
  have hb := J.b
  clear J
  have hlen := Mk.fewOut_len most l l.length (Nat.le_refl _)
  rw [List.take_length] at hlen
  change Code.wp _ _ _ _ _
  refine wp_seq ?_
  refine wpr 2 ?_
  refine opk 0 31 kk (frY rfl (k_move rfl (kk.e 5 rfl))) ?_; clear kk; intro a kk
  refine opkc 1 32 (R := fun u w' => u = .tuple #[] ∧ OwnI w' w.heap.size (.slice A (Mk.fewOut most l).length cap) (Mk.few most l) ∧ ∀ B b, B ≤ w.heap.size → Exc B b wx w') kk (sort_own' hO (by omega)) (frY rfl (c_Sort rfl rfl (kk.e 31 rfl))) ?_; clear kk
  rintro _ w2 a ⟨rfl, hO2, hE2⟩ F0
  have kk := F0; clear F0
  refine wp_seq ?_
  refine wpr 2 ?_
  refine opk 0 33 kk (frY rfl (k_move rfl (kk.e 5 rfl))) ?_; clear kk; intro a kk
  refine opk 1 4 kk (frY rfl (k_assign rfl (kk.e 33 rfl))) ?_; clear kk; intro a kk
  refine wp_ret ?_
  have e : (Mk.few most l).length = (Mk.fewOut most l).length := List.length_mergeSort _
  rw [← e] at kk hO2
  exact hfin a w2 A cap kk.d (kk.g 4 rfl) hO2 (hb.trans ((hE2 w.heap.size w.heap.size (Nat.le_refl _)).below (Nat.le_refl _)))
end Go.Proofs.YtnggajehngemmaaGreatDoor
